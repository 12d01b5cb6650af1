/- Slices of strings that a call owns, and the laws' marks on them. -/
import Derived.Test.YtichcfahmdlndabG0
import Derived.Deep.RegionHeld3
namespace Go.Proofs.Ytichcfahmdlndab
open Go.ChangeShapes Go.WideShapes Go.ChangeAt Go.RowKit Go.Deep

/-- the slice 'a, n' reads as the texts xs -/
def SsL (w : World) (a : Option Addr) (n : Nat) (xs : List ByteArray) : Prop :=
  xs.length = n ∧ ∀ i, i < n → ∃ b off, a = some ⟨b, off, none⟩ ∧ b < w.heap.size ∧ w.cell? ⟨b, off + i, none⟩ = some (.string (xs[i]?.getD ⟨#[]⟩))
theorem SsL.mono {w w' : World} {a : Option Addr} {n : Nat} {xs : List ByteArray} (h : SsL w a n xs) (hb : Below w.heap.size w w') : SsL w' a n xs :=
  ⟨h.1, fun i hi => by
    obtain ⟨b, off, e, h1, hc⟩ := h.2 i hi
    exact ⟨b, off, e, Nat.lt_of_lt_of_le h1 hb.size, by rw [hb.cell (p := ⟨b, off + i, none⟩) h1]; exact hc⟩⟩
theorem SsL.of_own {w : World} {B e n c : Nat} {a : Option Addr} {xs : List ByteArray} (h : w.ownsRow B e 1 (.slice a n c) n (xs.map Value.string)) : SsL w a n xs := by
  have hl : xs.length = n := by have := h.1; simpa using this
  refine ⟨hl, fun i hi => ?_⟩
  rcases h.2 with ⟨hv, h0⟩ | ⟨g, cap, cur, hv, _⟩
  · omega
  · cases hv
    have hx : (xs.map Value.string)[i]? = some (.string (xs[i]?.getD ⟨#[]⟩)) := by simp [show i < xs.length by omega]
    have := h.cells (g := g) rfl i _ hx
    rw [Go.WideShapes.add_plain] at this
    exact ⟨g, 0, rfl, (h.lt g rfl).2, this⟩
/-- the first k cells hold the marks from m on -/
def mfSs (m k j : Nat) : Option Value := if j < k then some (.string (mkB (m + j))) else none
theorem mfSs_step {m k : Nat} {T : ByteArray} (hv : mkB (m + k) = T) : ∀ j u, mfSs m (k + 1) j = some u → (if j = k then some (Value.string T) else mfSs m k j) = some u := by
  intro j u h
  unfold mfSs at h ⊢
  split at h
  · rename_i hlt
    rw [← h]
    by_cases e : j = k
    · subst e; rw [if_pos rfl, hv]
    · rw [if_neg e, if_pos (by omega)]
  · cases h
/-- texts whose cells lie in blocks below B -/
def SsB (B : Nat) (w : World) (a : Option Addr) (n : Nat) (xs : List ByteArray) : Prop :=
  xs.length = n ∧ ∀ i, i < n → ∃ b off, a = some ⟨b, off, none⟩ ∧ b < B ∧ b < w.heap.size ∧ w.cell? ⟨b, off + i, none⟩ = some (.string (xs[i]?.getD ⟨#[]⟩))
theorem SsL.toB {w : World} {a : Option Addr} {n : Nat} {xs : List ByteArray} (h : SsL w a n xs) : SsB w.heap.size w a n xs :=
  ⟨h.1, fun i hi => by
    obtain ⟨b, off, e, h1, hc⟩ := h.2 i hi
    exact ⟨b, off, e, h1, h1, hc⟩⟩
theorem SsB.toL {B : Nat} {w : World} {a : Option Addr} {n : Nat} {xs : List ByteArray} (h : SsB B w a n xs) : SsL w a n xs :=
  ⟨h.1, fun i hi => by
    obtain ⟨b, off, e, _, h1, hc⟩ := h.2 i hi
    exact ⟨b, off, e, h1, hc⟩⟩
theorem SsB.of_block {B : Nat} {w w' : World} {a : Option Addr} {n : Nat} {xs : List ByteArray} (h : SsB B w a n xs) (hs : w.heap.size ≤ w'.heap.size) (e : ∀ b, b < B → b < w.heap.size → w'.heap[b]? = w.heap[b]?) : SsB B w' a n xs :=
  ⟨h.1, fun i hi => by
    obtain ⟨b, off, e', h1, h2, hc⟩ := h.2 i hi
    exact ⟨b, off, e', h1, Nat.lt_of_lt_of_le h2 hs, by rw [World.cell?_of_block (a := ⟨b, off + i, none⟩) (e b h1 h2)]; exact hc⟩⟩
theorem SsB.below {B B' : Nat} {w w' : World} {a : Option Addr} {n : Nat} {xs : List ByteArray} (h : SsB B w a n xs) (hb : Below B' w w') (hB : B ≤ B') : SsB B w' a n xs :=
  h.of_block hb.size (fun b h1 _ => hb.block b (by omega))
theorem SsB.grown {B g : Nat} {w w' : World} {a : Option Addr} {n : Nat} {xs : List ByteArray} (h : SsB B w a n xs) (hg : w.grownBy w' (some g)) (hne : B ≤ g) : SsB B w' a n xs :=
  h.of_block hg.size (fun b h1 h2 => hg.block b h2 (by simp; omega))
/-- texts of a call's own, nil where there are none: k = 0: they are xs; k = n: they are the marks from m on -/
def SsO (B : Nat) (w : World) (a : Option Addr) (n k m : Nat) (xs : List ByteArray) : Prop :=
  (n = 0 ∧ xs = []) ∨ ∃ g, a = some ⟨g, 0, none⟩ ∧ B ≤ g ∧ SMG w g n (mfSs m k) ∧ (k = 0 → SsL w a n xs)
theorem SsL.far {w w' : World} {g g' n : Nat} {xs : List ByteArray} (h : SsL w (some ⟨g, 0, none⟩) n xs) (hg : w.grownBy w' (some g')) (hne : g ≠ g') : SsL w' (some ⟨g, 0, none⟩) n xs :=
  ⟨h.1, fun i hi => by
    obtain ⟨b, off, e, h1, hc⟩ := h.2 i hi
    cases e
    exact ⟨g, 0, rfl, Nat.lt_of_lt_of_le h1 hg.size, by rw [World.cell?_of_block (a := ⟨g, 0 + i, none⟩) (hg.block g h1 (by simpa using hne))]; exact hc⟩⟩
theorem SsO.below {B : Nat} {w w' : World} {a : Option Addr} {n k m : Nat} {xs : List ByteArray} (h : SsO B w a n k m xs) (hb : Below w.heap.size w w') : SsO B w' a n k m xs := by
  rcases h with h | ⟨g, e, h1, h2, h3⟩
  · exact .inl h
  · exact .inr ⟨g, e, h1, h2.below hb, fun hk => (h3 hk).mono hb⟩
theorem SsO.far {B g' : Nat} {w w' : World} {a : Option Addr} {n k m : Nat} {xs : List ByteArray} (h : SsO B w a n k m xs) (hg : w.grownBy w' (some g')) (hne : g' < B) : SsO B w' a n k m xs := by
  rcases h with h | ⟨g, rfl, h1, h2, h3⟩
  · exact .inl h
  · exact .inr ⟨g, rfl, h1, h2.far hg (by omega), fun hk => (h3 hk).far hg (by omega)⟩
theorem SsO.toL {B : Nat} {w : World} {a : Option Addr} {n m : Nat} {xs : List ByteArray} (h : SsO B w a n 0 m xs) : SsL w a n xs := by
  rcases h with ⟨h1, h2⟩ | ⟨g, e, h1, h2, h3⟩
  · exact ⟨by simp [h1, h2], fun i hi => absurd hi (by omega)⟩
  · exact h3 rfl
theorem SMG.of_strs {w : World} {B e g n c m : Nat} {xs : List ByteArray} (h : w.ownsRow B e 1 (.slice (some ⟨g, 0, none⟩) n c) n (xs.map Value.string)) : SMG w g n (mfSs m 0) := by
  have h1 := SMG.of_own h
  rw [Nat.mul_one] at h1
  exact h1.congr (fun j u _ hu => by simp [mfSs] at hu)
theorem SsO.of_own {w : World} {B e g n c m : Nat} {xs : List ByteArray} (h : w.ownsRow B e 1 (.slice (some ⟨g, 0, none⟩) n c) n (xs.map Value.string)) : SsO B w (some ⟨g, 0, none⟩) n 0 m xs :=
  .inr ⟨g, rfl, (h.lt g rfl).1, SMG.of_strs h, fun _ => SsL.of_own h⟩
theorem SsO.of_owns {w : World} {B e n m : Nat} {v : Value} {xs : List ByteArray} (h : w.ownsRow B e 1 v n (xs.map Value.string)) : ∃ a c, v = .slice a n c ∧ SsO B w a n 0 m xs := by
  have hl := h.1
  rcases h.2 with ⟨hv, h0⟩ | ⟨g, cap, cur, hv, _⟩
  · subst h0
    exact ⟨none, 0, hv, .inl ⟨rfl, by simpa using hl⟩⟩
  · subst hv
    exact ⟨_, cap, rfl, SsO.of_own h⟩
/-- a call's answer: texts of its own, and a value beside them -/
def SsRes (B : Nat) (L : List ByteArray) (v : Value) (w : World) (e : Ending) : Prop := ∃ a c, e = .returned (.tuple #[.slice a L.length c, v]) ∧ ∀ m, SsO B w a L.length 0 m L
theorem SsRes.nil (B : Nat) (v : Value) (w : World) : SsRes B [] v w (.returned (.tuple #[.slice none 0 0, v])) := ⟨none, 0, rfl, fun _ => .inl ⟨rfl, rfl⟩⟩
theorem SsRes.own {B e n : Nat} {u v : Value} {xs : List ByteArray} {w : World} (h : w.ownsRow B e 1 u n (xs.map Value.string)) : SsRes B xs v w (.returned (.tuple #[u, v])) := by
  have hl : xs.length = n := by have := h.1; simpa using this
  subst hl
  obtain ⟨a, c, rfl, -⟩ := SsO.of_owns (m := 1) h
  refine ⟨a, c, rfl, fun m => ?_⟩
  obtain ⟨a', c', e, h'⟩ := SsO.of_owns (m := m) h
  cases e
  exact h'
end Go.Proofs.Ytichcfahmdlndab
