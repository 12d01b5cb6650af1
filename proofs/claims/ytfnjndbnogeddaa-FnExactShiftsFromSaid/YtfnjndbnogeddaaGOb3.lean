/- Slices of Observer that a call owns, and the laws' marks on them (by gen.py). -/
import Derived.Test.YtfnjndbnogeddaaGOb2
import Derived.Lib.SliceRun
namespace Go.Proofs.Ytfnjndbnogeddaa
open Go.ChangeShapes Go.WideShapes Go.ChangeAt Go.RowKit Go.Deep

/-- the cells of the elements, one behind the other -/
def flatOb (xs : List Ob) : List Value := xs.flatMap fun x => [fldOb x 0, fldOb x 1]
theorem flatOb_len (xs : List Ob) : (flatOb xs).length = xs.length * 2 := by
  induction xs with
  | nil => rfl
  | cons x xs ih => simp only [flatOb, List.flatMap_cons, List.length_append, List.length_cons, List.length_nil] at *; omega
theorem flatOb_at : ∀ (xs : List Ob) (i f : Nat), i < xs.length → f < 2 → (flatOb xs)[i * 2 + f]? = some (fldOb (xs[i]?.getD ob0) f)
  | [], i, f, hi, _ => absurd hi (by simp)
  | x :: xs, 0, f, _, hf => by
    match f, hf with
    | 0, _ => rfl
    | 1, _ => rfl
  | x :: xs, i + 1, f, hi, hf => by
    have ih := flatOb_at xs i f (by simpa using hi) hf
    have e : (i + 1) * 2 + f = (i * 2 + f) + 2 := by omega
    rw [e]
    simpa [flatOb] using ih
theorem flatOb_snoc (xs : List Ob) (x : Ob) : flatOb (xs ++ [x]) = flatOb xs ++ [fldOb x 0, fldOb x 1] := by simp [flatOb]
theorem flatOb_app (xs ys : List Ob) : flatOb (xs ++ ys) = flatOb xs ++ flatOb ys := by simp [flatOb]
theorem ObL.of_own {w : World} {B e c n : Nat} {a : Option Addr} {xs : List Ob} (h : w.ownsRow B e 2 (.slice a n c) n (flatOb xs)) (hn : xs.length = n) : ObL w a n xs := by
  refine ⟨hn, fun i hi => ?_⟩
  rcases h.2 with ⟨hv, h0⟩ | ⟨g, cap, cur, hv, hBg, hg, _, _, hs, ht⟩
  · omega
  · cases hv
    have hlt : g < w.heap.size := (h.lt g rfl).2
    refine ⟨g, 0, rfl, hlt, fun f hf => ?_⟩
    have := h.cells (g := g) rfl (i * 2 + f) _ (flatOb_at xs i f (by omega) hf)
    rw [Go.WideShapes.add_plain] at this
    rw [← this]
    congr 2
    omega
theorem cellsOb (w : World) (v0 v1 : Value) (T : TypeId) : ∀ j u, [v0, v1][j]? = some u → (w.alloc (.cells #[v0, v1] T)).cell? ((⟨w.heap.size, 0, none⟩ : Addr).add j) = some u := by
  intro j u hj
  rw [Go.WideShapes.add_plain, World.cell?_alloc_new]
  match j, hj with
  | 0, hj => exact hj
  | 1, hj => exact hj
  | j + 2, hj => simp at hj
theorem flatOb_cells {w : World} {a : Addr} {n : Nat} {xs : List Ob} (h : ObL w (some a) n xs) : ∀ j u, (flatOb xs)[j]? = some u → w.cell? (a.add j) = some u := by
  intro j u hj
  have hlt : j < xs.length * 2 := by
    have := (List.getElem?_eq_some_iff.1 hj).1
    rwa [flatOb_len] at this
  have hl := h.1
  obtain ⟨b, off, e, hc⟩ := h.2 (j / 2) (by omega)
  cases e
  have h1 := flatOb_at xs (j / 2) (j % 2) (by omega) (by omega)
  rw [show j / 2 * 2 + j % 2 = j from by omega, hj] at h1
  cases h1
  rw [Go.WideShapes.add_plain, ← hc.2 (j % 2) (by omega)]
  congr 2
  omega
theorem flatOb_one (xs : List Ob) : ∀ u ∈ flatOb xs, u.oneCell' = true := by
  intro u hu
  simp only [flatOb, List.mem_flatMap] at hu
  obtain ⟨x, _, hx⟩ := hu
  simp at hx
  rcases hx with rfl | rfl <;> rfl
/-- what the mark at cell j is -/
def mvOb (m j : Nat) : Value := if j % 2 = 0 then .string (mkB (m + j)) else .int .i64 ((m + j : Nat) : Int)
def mfOb (m k j : Nat) : Option Value := if j < k * 2 then some (mvOb m j) else none
theorem mvOb_0 (m k : Nat) : mvOb m (k * 2) = .string (mkB (m + 2 * k)) := by
  rw [mvOb, if_pos (by omega)]; congr 2; omega
theorem mvOb_1 (m k : Nat) : mvOb m (k * 2 + 1) = .int .i64 ((m + 2 * k + 1 : Nat) : Int) := by
  rw [mvOb, if_neg (by omega)]; congr 2; omega
theorem mfOb_step {m k : Nat} : ∀ j u, mfOb m (k + 1) j = some u →
    (if j = k * 2 + 1 then some (mvOb m (k * 2 + 1)) else if j = k * 2 then some (mvOb m (k * 2)) else mfOb m k j) = some u := by
  intro j u h
  unfold mfOb at h ⊢
  split at h
  · rename_i hlt
    rw [← h]
    by_cases h1 : j = k * 2 + 1
    · subst h1; rw [if_pos rfl]
    by_cases h0 : j = k * 2
    · subst h0; rw [if_neg h1, if_pos rfl]
    rw [if_neg h1, if_neg h0, if_pos (by omega)]
  · cases h
/-- elements whose cells lie in blocks below B -/
def ObLB (B : Nat) (w : World) (a : Option Addr) (n : Nat) (xs : List Ob) : Prop :=
  xs.length = n ∧ ∀ i, i < n → ∃ b off, a = some ⟨b, off, none⟩ ∧ b < B ∧ ObC w b (off + i * 2) (xs[i]?.getD ob0)
theorem ObL.toB {w : World} {a : Option Addr} {n : Nat} {xs : List Ob} (h : ObL w a n xs) : ObLB w.heap.size w a n xs :=
  ⟨h.1, fun i hi => by
    obtain ⟨b, off, e, hc⟩ := h.2 i hi
    exact ⟨b, off, e, hc.1, hc⟩⟩
theorem ObLB.toL {B : Nat} {w : World} {a : Option Addr} {n : Nat} {xs : List Ob} (h : ObLB B w a n xs) : ObL w a n xs :=
  ⟨h.1, fun i hi => by
    obtain ⟨b, off, e, _, hc⟩ := h.2 i hi
    exact ⟨b, off, e, hc⟩⟩
theorem ObLB.below {B B' : Nat} {w w' : World} {a : Option Addr} {n : Nat} {xs : List Ob} (h : ObLB B w a n xs) (hb : Below B' w w') (hB : B ≤ B') : ObLB B w' a n xs :=
  ⟨h.1, fun i hi => by
    obtain ⟨b, off, e, hlt, hc⟩ := h.2 i hi
    exact ⟨b, off, e, hlt, hc.of_block hb.size (hb.block b (by omega))⟩⟩
theorem ObLB.grown {B g : Nat} {w w' : World} {a : Option Addr} {n : Nat} {xs : List Ob} (h : ObLB B w a n xs) (hg : w.grownBy w' (some g)) (hne : B ≤ g) : ObLB B w' a n xs :=
  ⟨h.1, fun i hi => by
    obtain ⟨b, off, e, hlt, hc⟩ := h.2 i hi
    exact ⟨b, off, e, hlt, hc.of_block hg.size (hg.block b hc.1 (by simp; omega))⟩⟩
/-- elements of a call's own, nil where there are none: k = 0: they hold xs; k = n: they hold the marks from m on -/
def ObO (B : Nat) (w : World) (a : Option Addr) (n k m : Nat) (xs : List Ob) : Prop :=
  (n = 0 ∧ xs = []) ∨ ∃ g, a = some ⟨g, 0, none⟩ ∧ B ≤ g ∧ SMG w g (n * 2) (mfOb m k) ∧ (k = 0 → ObL w a n xs)
theorem ObO.below {B : Nat} {w w' : World} {a : Option Addr} {n k m : Nat} {xs : List Ob} (h : ObO B w a n k m xs) (hb : Below w.heap.size w w') : ObO B w' a n k m xs := by
  rcases h with h | ⟨g, e, h1, h2, h3⟩
  · exact .inl h
  · exact .inr ⟨g, e, h1, h2.below hb, fun hk => (h3 hk).mono hb⟩
theorem ObO.far {B g' : Nat} {w w' : World} {a : Option Addr} {n k m : Nat} {xs : List Ob} (h : ObO B w a n k m xs) (hg : w.grownBy w' (some g')) (hne : g' < B) : ObO B w' a n k m xs := by
  rcases h with h | ⟨g, e, h1, h2, h3⟩
  · exact .inl h
  · refine .inr ⟨g, e, h1, h2.far hg (by omega), fun hk => ?_⟩
    have hS := h3 hk
    refine ⟨hS.1, fun i hi => ?_⟩
    obtain ⟨b, o, e', hc⟩ := hS.2 i hi
    rw [e] at e'
    cases e'
    exact ⟨g, 0, e, hc.of_block hg.size (hg.block g hc.1 (by simp; omega))⟩
theorem ObO.toL {B : Nat} {w : World} {a : Option Addr} {n m : Nat} {xs : List Ob} (h : ObO B w a n 0 m xs) : ObL w a n xs := by
  rcases h with ⟨h1, h2⟩ | ⟨g, e, h1, h2, h3⟩
  · exact ⟨by simp [h1, h2], fun i hi => absurd hi (by omega)⟩
  · exact h3 rfl
theorem ObO.of_own {w : World} {B e g n c m : Nat} {xs : List Ob} (h : w.ownsRow B e 2 (.slice (some ⟨g, 0, none⟩) n c) n (flatOb xs)) (hn : xs.length = n) : ObO B w (some ⟨g, 0, none⟩) n 0 m xs :=
  .inr ⟨g, rfl, (h.lt g rfl).1, (SMG.of_own h).congr (fun j u _ hu => by simp [mfOb] at hu), fun _ => ObL.of_own h hn⟩
/-- a call's answer: a list of its own, and a value beside it -/
def ObRes (B : Nat) (L : List Ob) (v : Value) (w : World) (e : Ending) : Prop := ∃ a c, e = .returned (.tuple #[.slice a L.length c, v]) ∧ ∀ m, ObO B w a L.length 0 m L
theorem ObRes.nil (B : Nat) (v : Value) (w : World) : ObRes B [] v w (.returned (.tuple #[.slice none 0 0, v])) := ⟨none, 0, rfl, fun _ => .inl ⟨rfl, rfl⟩⟩
theorem ObRes.own {B e n : Nat} {u v : Value} {xs : List Ob} {w : World} (h : w.ownsRow B e 2 u n (flatOb xs)) (hn : xs.length = n) : ObRes B xs v w (.returned (.tuple #[u, v])) := by
  subst hn
  rcases h.2 with ⟨hv, h0⟩ | ⟨g, cap, cur, hv, _⟩
  · subst hv
    have : xs = [] := List.length_eq_zero_iff.1 h0
    subst this
    exact ObRes.nil B v w
  · subst hv
    exact ⟨_, cap, rfl, fun _ => ObO.of_own h rfl⟩
theorem ObO.low {B B' : Nat} {w : World} {a : Option Addr} {n k m : Nat} {xs : List Ob} (h : ObO B w a n k m xs) (hB : B' ≤ B) : ObO B' w a n k m xs := by
  rcases h with h | ⟨g, e, h1, h2, h3⟩
  · exact .inl h
  · exact .inr ⟨g, e, Nat.le_trans hB h1, h2, h3⟩
theorem ObRes.low {B B' : Nat} {L : List Ob} {v : Value} {w : World} {e : Ending} (h : ObRes B L v w e) (hB : B' ≤ B) : ObRes B' L v w e := by
  obtain ⟨a, c, h1, h2⟩ := h
  exact ⟨a, c, h1, fun m => (h2 m).low hB⟩
end Go.Proofs.Ytfnjndbnogeddaa
