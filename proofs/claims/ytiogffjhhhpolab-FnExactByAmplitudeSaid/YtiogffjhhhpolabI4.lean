/- What a law is told of a slice of numbers that a function hands back: the model's and the program's, nil or a block of its own; marking it and holding the marks. -/
import Derived.Test.YtiogffjhhhpolabSD
import Derived.Test.YtiogffjhhhpolabI3
namespace Go.Proofs.Ytiogffjhhhpolab
open Go.ChangeShapes Go.WideShapes Go.ChangeAt Go.RowKit

def selO (good : Bool) (zs : List Int) : List Int := if good then zs else []
def codeO (good : Bool) (code : Int) : Int := if good then 0 else code
theorem selO_len {good : Bool} {zs : List Int} {n : Nat} (h : zs.length ≤ n) : (selO good zs).length ≤ n := by cases good <;> simp [selO, h]
/-- Lst whose cells lie in blocks below B -/
def LstB (B : Nat) (w : World) (a : Option Addr) (n : Nat) (xs : List Int) : Prop :=
  xs.length = n ∧ ∀ i, i < n → ∃ b off, a = some ⟨b, off, none⟩ ∧ b < B ∧ w.cell? ⟨b, off + i, none⟩ = some (.int .i64 (xs[i]?.getD 0))
theorem Lst.toB {w : World} {a : Option Addr} {n : Nat} {xs : List Int} (h : Lst w a n xs) : LstB w.heap.size w a n xs := h
theorem LstB.low {B B' : Nat} {w : World} {a : Option Addr} {n : Nat} {xs : List Int} (h : LstB B w a n xs) (hb : B ≤ B') : LstB B' w a n xs :=
  ⟨h.1, fun i hi => by obtain ⟨b, o, e, h1, h2⟩ := h.2 i hi; exact ⟨b, o, e, Nat.lt_of_lt_of_le h1 hb, h2⟩⟩
theorem LstB.toL {B : Nat} {w : World} {a : Option Addr} {n : Nat} {xs : List Int} (h : LstB B w a n xs) (hb : B ≤ w.heap.size) : Lst w a n xs := h.low hb
theorem LstB.below {B B' : Nat} {w w' : World} {a : Option Addr} {n : Nat} {xs : List Int} (h : LstB B w a n xs) (hb : Below B' w w') (hB : B ≤ B') : LstB B w' a n xs :=
  ⟨h.1, fun i hi => by obtain ⟨b, o, e, h1, h2⟩ := h.2 i hi; exact ⟨b, o, e, h1, by rw [hb.cell (p := ⟨b, o + i, none⟩) (Nat.lt_of_lt_of_le h1 hB)]; exact h2⟩⟩
theorem LstB.grown {B g : Nat} {w w' : World} {a : Option Addr} {n : Nat} {xs : List Int} (h : LstB B w a n xs) (hg : w.grownBy w' (some g)) (hB : B ≤ w.heap.size) (hne : B ≤ g) : LstB B w' a n xs :=
  ⟨h.1, fun i hi => by
    obtain ⟨b, o, e, h1, h2⟩ := h.2 i hi
    exact ⟨b, o, e, h1, by rw [World.cell?_of_block (a := ⟨b, o + i, none⟩) (hg.block b (by omega) (by simp; omega))]; exact h2⟩⟩
/-- a slice that the call owns: nothing in it, or a block of its own from B on, whose first k numbers are marked from m on -/
def MIo (B : Nat) (w : World) (a : Option Addr) (n k m : Nat) (xs : List Int) : Prop :=
  (n = 0 ∧ xs = []) ∨ ∃ g, a = some ⟨g, 0, none⟩ ∧ B ≤ g ∧ MI w g n k m ∧ (k = 0 → Lst w a n xs)
theorem MIo.below {B : Nat} {w w' : World} {a : Option Addr} {n k m : Nat} {xs : List Int} (h : MIo B w a n k m xs) (hb : Below w.heap.size w w') : MIo B w' a n k m xs := by
  rcases h with h | ⟨g, e, h1, h2, h3⟩
  · exact .inl h
  · exact .inr ⟨g, e, h1, h2.below hb, fun hk => (h3 hk).mono hb⟩
theorem MI.far {w w' : World} {g g' n k m : Nat} (h : MI w g n k m) (hg : w.grownBy w' (some g')) (hne : g ≠ g') : MI w' g n k m := fun j hj => by
  obtain ⟨h1, ⟨v, h2, h3⟩, h4⟩ := h j hj
  have hb := hg.block g h1 (by simpa using hne)
  exact ⟨Nat.lt_of_lt_of_le h1 hg.size, ⟨v, by rw [World.cell?_of_block (a := ⟨g, j, none⟩) hb]; exact h2, h3⟩, by rw [World.frozen?_of_block (a := ⟨g, j, none⟩) hb]; exact h4⟩
theorem MIo.far {B g' : Nat} {w w' : World} {a : Option Addr} {n k m : Nat} {xs : List Int} (h : MIo B w a n k m xs) (hg : w.grownBy w' (some g')) (hne : g' < B) : MIo B w' a n k m xs := by
  rcases h with h | ⟨g, e, h1, h2, h3⟩
  · exact .inl h
  · refine .inr ⟨g, e, h1, h2.far hg (by omega), fun hk => ?_⟩
    obtain ⟨hl, hc⟩ := h3 hk
    refine ⟨hl, fun i hi => ?_⟩
    obtain ⟨b, o, e', hb, hv⟩ := hc i hi
    rw [e] at e'
    cases e'
    exact ⟨g, 0, e, Nat.lt_of_lt_of_le hb hg.size, by rw [World.cell?_of_block (a := ⟨g, 0 + i, none⟩) (hg.block g hb (by simp; omega))]; exact hv⟩
theorem MIo.lst {B : Nat} {w : World} {a : Option Addr} {n m : Nat} {xs : List Int} (h : MIo B w a n 0 m xs) : Lst w a n xs := by
  rcases h with ⟨h1, h2⟩ | ⟨g, e, h1, h2, h3⟩
  · exact ⟨by simp [h1, h2], fun i hi => absurd hi (by omega)⟩
  · exact h3 rfl
theorem MI.of_own {w : World} {B e g n c m : Nat} {xs : List Value} (h : w.ownsRow B e 1 (.slice (some ⟨g, 0, none⟩) n c) n xs) (hl : xs.length = n) : MI w g n 0 m := fun j hj => by
  have hlt := (h.lt g rfl).2
  have hx : xs[j]? = some (xs[j]'(by omega)) := List.getElem?_eq_getElem (by omega)
  exact ⟨hlt, ⟨_, (h.cellAt j (by omega)).trans hx, fun h => absurd h (by omega)⟩, h.frozenAt j⟩
theorem MIo.of_own {w : World} {B n m : Nat} {v : Value} {xs : List Int} (h : w.ownsRow B 2 1 v n (xs.map (Value.int .i64))) (hn : xs.length = n) : ∃ a c, v = .slice a n c ∧ MIo B w a n 0 m xs := by
  rcases h.2 with ⟨rfl, h0⟩ | ⟨g, c, cur, rfl, hB, -⟩
  · subst h0
    exact ⟨none, 0, rfl, .inl ⟨rfl, List.length_eq_zero_iff.1 hn⟩⟩
  · exact ⟨_, c, rfl, .inr ⟨g, rfl, hB, MI.of_own h (by simp [hn]), fun _ => Lst.of_own h⟩⟩
theorem Chosen.opened {B : Nat} {good : Bool} {code : Int} {zs : List Int} {w : World} {e : Ending} (h : Chosen B good code zs w e) :
    ∃ a c, e = .returned (.tuple #[.slice a (selO good zs).length c, .int .i64 (codeO good code)]) ∧ Lst w a (selO good zs).length (selO good zs) := by
  rcases h with ⟨rfl, g, c, rfl, hown⟩ | ⟨rfl, rfl⟩
  · exact ⟨_, c, rfl, Lst.of_own hown⟩
  · exact ⟨none, 0, rfl, rfl, fun i hi => absurd hi (by simp [selO])⟩
theorem ChosenI.opened (m : Nat) {B : Nat} {good : Bool} {code : Int} {zs : List Int} {w : World} {e : Ending} (h : ChosenI B good code zs w e) :
    ∃ a c, e = .returned (.tuple #[.slice a (selO good zs).length c, .int .i64 (codeO good code)]) ∧ MIo B w a (selO good zs).length 0 m (selO good zs) := by
  rcases h with ⟨rfl, v, rfl, hown⟩ | ⟨rfl, rfl⟩
  · obtain ⟨a, c, rfl, hM⟩ := MIo.of_own (m := m) hown rfl
    exact ⟨a, c, rfl, hM⟩
  · exact ⟨none, 0, rfl, .inl ⟨rfl, rfl⟩⟩
set_option maxHeartbeats 1000000 in
theorem markInt64S_o (a : Option Addr) (n m c B : Nat) (xs : List Int) (w0 w : World) (hB : Below B w0 w) (hM : MIo B w a n 0 m xs) (hn : n ≤ 1048576) (h1 : 1 ≤ m) (hm : m ≤ 1000) :
    Calls Try.prog 32 #[.slice a n c, .int .i64 m] w fun e w' => e = .returned (.int .i64 ((m + n : Nat) : Int)) ∧ MIo B w' a n n m [] ∧ Below B w0 w' := by
  rcases hM with ⟨rfl, rfl⟩ | ⟨g, rfl, h2, h3, -⟩
  · go_enter Try.func32, Try.ntmps32
    go_wp2
    go_loopw [1, 5] (fun a i wr => i = .int .i64 0 ∧ a = .int .i64 (m : Int) ∧ wr = w) (fun _ i _ => 0)
    case atStart => exact ⟨rfl, rfl, rfl⟩
    case round =>
      obtain ⟨rfl, rfl, rfl⟩ := hrel
      go_wp2
      go_ret
      exact ⟨rfl, .inl ⟨rfl, rfl⟩, hB⟩
  · refine (markInt64S_any g n m c B w0 w hB h2 h3 hn h1 hm).mono ?_
    rintro e w' ⟨rfl, hM, hb⟩
    refine ⟨rfl, ?_, hb⟩
    by_cases h0 : n = 0
    · exact .inl ⟨h0, rfl⟩
    · exact .inr ⟨g, rfl, h2, hM, fun h => absurd h h0⟩
set_option maxHeartbeats 1000000 in
theorem heldInt64S_o (a : Option Addr) (n m c B : Nat) (xs : List Int) (w : World) (hM : MIo B w a n n m xs) (hn : n ≤ 1048576) (h1 : 1 ≤ m) (hm : m ≤ 1000) :
    Calls Try.prog 33 #[.slice a n c, .int .i64 m] w fun e w' => e = .returned (.int .i64 ((m + n : Nat) : Int)) ∧ Below w.heap.size w w' := by
  rcases hM with ⟨rfl, rfl⟩ | ⟨g, rfl, h2, h3, -⟩
  · go_enter Try.func33, Try.ntmps33
    go_wp2
    go_loopw [1, 5] (fun a i wr => i = .int .i64 0 ∧ a = .int .i64 (m : Int) ∧ wr = w) (fun _ i _ => 0)
    case atStart => exact ⟨rfl, rfl, rfl⟩
    case round =>
      obtain ⟨rfl, rfl, rfl⟩ := hrel
      go_wp2
      go_ret
      exact ⟨rfl, Below.refl _ _⟩
  · refine heldInt64S_any g n m c w (fun j hj => ?_) hn h1 hm
    obtain ⟨h4, ⟨v, h5, h6⟩, -⟩ := h3 j hj
    exact ⟨h4, by rw [h5, h6 hj]⟩
end Go.Proofs.Ytiogffjhhhpolab
