/- Slices of int64: copies of a call's own, the laws' marks, what lies below a world. -/
import Derived.Test.YtidiiladlmaigaaB3
import Derived.Test.YtidiiladlmaigaaG0
namespace Go.Proofs.Ytidiiladlmaigaa
open Go.ChangeShapes Go.WideShapes Go.ChangeAt Go.RowKit Go.Deep

/-- the first k cells hold the marks from m on -/
def mfI (m k j : Nat) : Option Value := if j < k then some (.int .i64 ((m + j : Nat) : Int)) else none
theorem mfI_step {m k : Nat} {v : Int} (hv : v = ((m + k : Nat) : Int)) : ∀ j u, mfI m (k + 1) j = some u → (if j = k then some (Value.int .i64 v) else mfI m k j) = some u := by
  intro j u h
  unfold mfI at h ⊢
  split at h
  · rename_i hlt
    rw [← h]
    by_cases e : j = k
    · subst e; rw [if_pos rfl, hv]
    · rw [if_neg e, if_pos (by omega)]
  · cases h
/-- numbers whose cells lie in blocks below B -/
def LsB (B : Nat) (w : World) (a : Option Addr) (n : Nat) (xs : List Int) : Prop :=
  xs.length = n ∧ ∀ i, i < n → ∃ b off, a = some ⟨b, off, none⟩ ∧ b < B ∧ b < w.heap.size ∧ w.cell? ⟨b, off + i, none⟩ = some (.int .i64 (xs[i]?.getD 0))
theorem Lst.toB {w : World} {a : Option Addr} {n : Nat} {xs : List Int} (h : Lst w a n xs) : LsB w.heap.size w a n xs :=
  ⟨h.1, fun i hi => by
    obtain ⟨b, off, e, h1, hc⟩ := h.2 i hi
    exact ⟨b, off, e, h1, h1, hc⟩⟩
theorem LsB.toL {B : Nat} {w : World} {a : Option Addr} {n : Nat} {xs : List Int} (h : LsB B w a n xs) : Lst w a n xs :=
  ⟨h.1, fun i hi => by
    obtain ⟨b, off, e, _, h1, hc⟩ := h.2 i hi
    exact ⟨b, off, e, h1, hc⟩⟩
theorem LsB.of_block {B : Nat} {w w' : World} {a : Option Addr} {n : Nat} {xs : List Int} (h : LsB B w a n xs) (hs : w.heap.size ≤ w'.heap.size) (e : ∀ b, b < B → b < w.heap.size → w'.heap[b]? = w.heap[b]?) : LsB B w' a n xs :=
  ⟨h.1, fun i hi => by
    obtain ⟨b, off, e', h1, h2, hc⟩ := h.2 i hi
    exact ⟨b, off, e', h1, Nat.lt_of_lt_of_le h2 hs, by rw [World.cell?_of_block (a := ⟨b, off + i, none⟩) (e b h1 h2)]; exact hc⟩⟩
theorem LsB.below {B B' : Nat} {w w' : World} {a : Option Addr} {n : Nat} {xs : List Int} (h : LsB B w a n xs) (hb : Below B' w w') (hB : B ≤ B') : LsB B w' a n xs :=
  h.of_block hb.size (fun b h1 _ => hb.block b (by omega))
theorem LsB.grown {B g : Nat} {w w' : World} {a : Option Addr} {n : Nat} {xs : List Int} (h : LsB B w a n xs) (hg : w.grownBy w' (some g)) (hne : B ≤ g) : LsB B w' a n xs :=
  h.of_block hg.size (fun b h1 h2 => hg.block b h2 (by simp; omega))
/-- numbers of a call's own, nil where there are none: k = 0: they are xs; k = n: they are the marks from m on -/
def IntO (B : Nat) (w : World) (a : Option Addr) (n k m : Nat) (xs : List Int) : Prop :=
  (n = 0 ∧ xs = []) ∨ ∃ g, a = some ⟨g, 0, none⟩ ∧ B ≤ g ∧ SMG w g n (mfI m k) ∧ (k = 0 → Lst w a n xs)
theorem Lst.far {w w' : World} {g g' n : Nat} {xs : List Int} (h : Lst w (some ⟨g, 0, none⟩) n xs) (hg : w.grownBy w' (some g')) (hne : g ≠ g') : Lst w' (some ⟨g, 0, none⟩) n xs :=
  ⟨h.1, fun i hi => by
    obtain ⟨b, off, e, h1, hc⟩ := h.2 i hi
    cases e
    exact ⟨g, 0, rfl, Nat.lt_of_lt_of_le h1 hg.size, by rw [World.cell?_of_block (a := ⟨g, 0 + i, none⟩) (hg.block g h1 (by simpa using hne))]; exact hc⟩⟩
theorem IntO.below {B : Nat} {w w' : World} {a : Option Addr} {n k m : Nat} {xs : List Int} (h : IntO B w a n k m xs) (hb : Below w.heap.size w w') : IntO B w' a n k m xs := by
  rcases h with h | ⟨g, e, h1, h2, h3⟩
  · exact .inl h
  · exact .inr ⟨g, e, h1, h2.below hb, fun hk => (h3 hk).mono hb⟩
theorem IntO.far {B g' : Nat} {w w' : World} {a : Option Addr} {n k m : Nat} {xs : List Int} (h : IntO B w a n k m xs) (hg : w.grownBy w' (some g')) (hne : g' < B) : IntO B w' a n k m xs := by
  rcases h with h | ⟨g, rfl, h1, h2, h3⟩
  · exact .inl h
  · exact .inr ⟨g, rfl, h1, h2.far hg (by omega), fun hk => (h3 hk).far hg (by omega)⟩
theorem IntO.toL {B : Nat} {w : World} {a : Option Addr} {n m : Nat} {xs : List Int} (h : IntO B w a n 0 m xs) : Lst w a n xs := by
  rcases h with ⟨h1, h2⟩ | ⟨g, e, h1, h2, h3⟩
  · exact ⟨by simp [h1, h2], fun i hi => absurd hi (by omega)⟩
  · exact h3 rfl
theorem SMG.of_ints {w : World} {B e g n c m : Nat} {xs : List Int} (h : w.ownsRow B e 1 (.slice (some ⟨g, 0, none⟩) n c) n (xs.map (Value.int .i64))) : SMG w g n (mfI m 0) := by
  have h1 := SMG.of_own h
  rw [Nat.mul_one] at h1
  exact h1.congr (fun j u _ hu => by simp [mfI] at hu)
theorem IntO.of_own {w : World} {B e g n c m : Nat} {xs : List Int} (h : w.ownsRow B e 1 (.slice (some ⟨g, 0, none⟩) n c) n (xs.map (Value.int .i64))) : IntO B w (some ⟨g, 0, none⟩) n 0 m xs :=
  .inr ⟨g, rfl, (h.lt g rfl).1, SMG.of_ints h, fun _ => Lst.of_own h⟩
theorem IntO.of_owns {w : World} {B e n m : Nat} {v : Value} {xs : List Int} (h : w.ownsRow B e 1 v n (xs.map (Value.int .i64))) : ∃ a c, v = .slice a n c ∧ IntO B w a n 0 m xs := by
  have hl := h.1
  rcases h.2 with ⟨hv, h0⟩ | ⟨g, cap, cur, hv, _⟩
  · subst h0
    exact ⟨none, 0, hv, .inl ⟨rfl, by simpa using hl⟩⟩
  · subst hv
    exact ⟨_, cap, rfl, IntO.of_own h⟩
end Go.Proofs.Ytidiiladlmaigaa
