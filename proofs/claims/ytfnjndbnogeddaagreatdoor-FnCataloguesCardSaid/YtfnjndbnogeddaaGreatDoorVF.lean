/- Slices of stars that a call owns: the cells one behind the other. -/
import Derived.Test.YtfnjndbnogeddaaGreatDoorS5
import Derived.Maps.AppendAt
namespace Go.Proofs.YtfnjndbnogeddaaGreatDoor
open Go.ChangeShapes Go.WideShapes Go.ChangeAt Go.RowKit Go.Deep

/-- the cells of stars, one behind the other -/
def flatS (xs : List St) : List Value := xs.flatMap fun x => [fld x 0, fld x 1, fld x 2, fld x 3, fld x 4]
theorem flatS_len (xs : List St) : (flatS xs).length = xs.length * 5 := by
  induction xs with
  | nil => rfl
  | cons x xs ih => simp only [flatS, List.flatMap_cons, List.length_append, List.length_cons, List.length_nil] at *; omega
theorem flatS_at : ∀ (xs : List St) (i f : Nat), i < xs.length → f < 5 → (flatS xs)[i * 5 + f]? = some (fld (xs[i]?.getD st0) f)
  | [], i, f, hi, _ => absurd hi (by simp)
  | x :: xs, 0, f, _, hf => by
    match f, hf with
    | 0, _ => rfl
    | 1, _ => rfl
    | 2, _ => rfl
    | 3, _ => rfl
    | 4, _ => rfl
  | x :: xs, i + 1, f, hi, hf => by
    have ih := flatS_at xs i f (by simpa using hi) hf
    have e : (i + 1) * 5 + f = (i * 5 + f) + 5 := by omega
    rw [e]
    simpa [flatS] using ih
theorem flatS_snoc (xs : List St) (x : St) : flatS (xs ++ [x]) = flatS xs ++ [fld x 0, fld x 1, fld x 2, fld x 3, fld x 4] := by simp [flatS]
theorem StL.of_own {w : World} {B e c n : Nat} {a : Option Addr} {xs : List St} (h : w.ownsRow B e 5 (.slice a n c) n (flatS xs)) (hn : xs.length = n) : StL w a n xs := by
  refine ⟨hn, fun i hi => ?_⟩
  rcases h.2 with ⟨hv, h0⟩ | ⟨g, cap, cur, hv, hBg, hg, _, _, hs, ht⟩
  · omega
  · cases hv
    have hlt : g < w.heap.size := (h.lt g rfl).2
    refine ⟨g, 0, rfl, hlt, fun f hf => ?_⟩
    have := h.cells (g := g) rfl (i * 5 + f) _ (flatS_at xs i f (by omega) hf)
    rw [Go.WideShapes.add_plain] at this
    rw [← this]
    congr 2
    omega
theorem cell_five (w : World) (v0 v1 v2 v3 v4 : Value) (T : TypeId) : ∀ j u, [v0, v1, v2, v3, v4][j]? = some u → (w.alloc (.cells #[v0, v1, v2, v3, v4] T)).cell? ((⟨w.heap.size, 0, none⟩ : Addr).add j) = some u := by
  intro j u hj
  rw [Go.WideShapes.add_plain, World.cell?_alloc_new]
  match j, hj with
  | 0, hj => exact hj
  | 1, hj => exact hj
  | 2, hj => exact hj
  | 3, hj => exact hj
  | 4, hj => exact hj
  | j + 5, hj => simp at hj
theorem grown_far {w a b : World} {g row : Option Nat} (h : w.grownBy a g) (k : a.grownBy b row) (hr : ∀ j, row = some j → w.heap.size ≤ j) : w.grownBy b g :=
  ⟨k.os.trans h.os, k.tape.trans h.tape, k.output.trans h.output, Nat.le_trans h.size k.size, fun i hi hne => (k.block i (Nat.lt_of_lt_of_le hi h.size) (fun e => by have := hr i e.symm; omega)).trans (h.block i hi hne)⟩
end Go.Proofs.YtfnjndbnogeddaaGreatDoor
