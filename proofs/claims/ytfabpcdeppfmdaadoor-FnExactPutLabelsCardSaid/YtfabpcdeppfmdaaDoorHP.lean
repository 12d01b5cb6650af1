/- Pairs of indices for which a test holds, in order. -/
import Derived.Test.YtfabpcdeppfmdaaDoorGQ
import Derived.Test.YtfabpcdeppfmdaaDoorQR
import Derived.Lib.SliceRun
namespace Go.Proofs.YtfabpcdeppfmdaaDoor
open Go.ChangeShapes Go.WideShapes Go.ChangeAt Go.RowKit Go.Deep

def prR (p : Nat → Nat → Bool) (i k : Nat) : List (Int × Int) := ((List.range k).filter fun j => decide (i < j) && p i j).map fun j : Nat => ((i : Int), (j : Int))
def prP (p : Nat → Nat → Bool) (n i : Nat) : List (Int × Int) := (List.range i).flatMap fun i' => prR p i' n
theorem prR_none {p : Nat → Nat → Bool} {i k : Nat} (hk : k ≤ i + 1) : prR p i k = [] := by
  rw [prR, List.filter_eq_nil_iff.2 (fun j hj => by have := List.mem_range.1 hj; simp; omega)]
  rfl
theorem prR_yes {p : Nat → Nat → Bool} {i k : Nat} (hik : i < k) (h : p i k = true) : prR p i (k + 1) = prR p i k ++ [((i : Int), (k : Int))] := by
  unfold prR
  rw [List.range_succ, List.filter_append, List.map_append]
  simp [hik, h]
theorem prR_no {p : Nat → Nat → Bool} {i k : Nat} (h : p i k = false) : prR p i (k + 1) = prR p i k := by
  unfold prR
  rw [List.range_succ, List.filter_append, List.map_append]
  simp [h]
theorem prP_step (p : Nat → Nat → Bool) (n i : Nat) : prP p n (i + 1) = prP p n i ++ prR p i n := by
  unfold prP
  rw [List.range_succ, List.flatMap_append]
  simp
theorem prR_len (p : Nat → Nat → Bool) (i k : Nat) : (prR p i k).length ≤ k := by
  unfold prR
  rw [List.length_map]
  have := List.length_filter_le (fun j => decide (i < j) && p i j) (List.range k)
  simpa using this
theorem prP_len (p : Nat → Nat → Bool) (n : Nat) : ∀ i, (prP p n i).length ≤ i * n
  | 0 => by simp [prP]
  | i + 1 => by
    have ih := prP_len p n i
    have h := prR_len p i n
    rw [prP_step, List.length_append, Nat.add_mul, Nat.one_mul]
    omega
theorem QJ_info : (Tryd.prog.info? 26).map (fun i => (i.zero, i.size, i.bytes)) = some (some (.slice none 0 0), 1, 24) := by kernel_rfl
theorem two_newsP (W : World) (a b : Int) (T1 T2 : TypeId) {w1 : World} (hw : w1 = (W.alloc (.cells #[.int .i64 a, .int .i64 b] T1)).alloc (.cells #[.slice (some ⟨W.heap.size, 0, none⟩) 2 2] T2)) :
    w1.heap[W.heap.size]? = some (.cells #[.int .i64 a, .int .i64 b] T1) ∧ (∀ j u, [Value.slice (some ⟨W.heap.size, 0, none⟩) 2 2][j]? = some u → w1.cell? ((⟨W.heap.size + 1, 0, none⟩ : Addr).add j) = some u) ∧ Below W.heap.size W w1 ∧ w1.heap.size = W.heap.size + 1 + 1 := by
  subst hw
  have hB : Below W.heap.size W ((W.alloc (.cells #[.int .i64 a, .int .i64 b] T1)).alloc (.cells #[.slice (some ⟨W.heap.size, 0, none⟩) 2 2] T2)) := by (repeat (first | assumption | exact Below.refl _ _ | refine belowDN ?_ _ | refine Below.drew ?_ | refine Below.setCell ?_ (by first | omega | (simp <;> omega)) _ | refine Below.alloc ?_ (by first | omega | (simp <;> omega)) _ | refine belowCall ?_ (by assumption)))
  refine ⟨?_, fun j u hj => ?_, hB, by simp⟩
  · rw [(Below.alloc (Below.refl (W.alloc (.cells #[.int .i64 a, .int .i64 b] T1)).heap.size _) (Nat.le_refl _) _).block _ (by simp)]
    exact World.alloc_heap_new W _
  · match j, hj with
    | 0, hj =>
      cases hj
      rw [Go.WideShapes.add_plain]
      have h := World.cell?_alloc_new (W.alloc (.cells #[.int .i64 a, .int .i64 b] T1)) #[.slice (some ⟨W.heap.size, 0, none⟩) 2 2] T2 0
      rw [World.size_alloc] at h
      exact h
    | j + 1, hj => simp at hj
end Go.Proofs.YtfabpcdeppfmdaaDoor
