/- FoldOrder, the program's: the walk. -/
import Derived.Test.YtidiiladlmaigaaFC
namespace Go.Proofs.Ytidiiladlmaigaa
open Go.ChangeShapes Go.WideShapes Go.ChangeAt Go.RowKit Go.Deep Go.Shelf
open Go.Sort (swp PermIn SortedIn SWO grow Holds)

/-- the indices, one behind the other -/
def d0A (N : Nat) (n : Nat) : Array (Fin (N + 1)) := ((List.range n).map fun i => Fin.ofNat (N + 1) i).toArray
theorem d0A_size (N n : Nat) : (d0A N n).size = n := by simp [d0A]
theorem d0A_at {N n i : Nat} (hi : i < n) (hn : n ≤ N + 1) : ((d0A N n)[i]!).val = i := by
  rw [getElem!_pos _ i (by rw [d0A_size]; exact hi)]
  simp [d0A, Fin.ofNat]
  omega
theorem fold_of {N n : Nat} {e p : Int} {xs : List Pt} {d' : Array (Fin (N + 1))} (hn : n ≤ N + 1) (M : Mrg (fun x : Fin (N + 1) => keyP e p xs x.val) (fun x => x.val) 0 n (d0A N n) d') :
    d'.toList.map (fun x => (x.val : Int)) = (idxL n).mergeSort (leF e p xs) := by
  have hs : d'.size = n := by rw [M.1.1, d0A_size]
  refine fold_unique ?_ ?_
  · have h := M.1.2.2
    have e1 : d'.extract 0 n = d' := by rw [← hs]; exact Array.extract_size
    have e2 : (d0A N n).extract 0 n = d0A N n := by
      have := d0A_size N n
      conv => lhs; rw [← this]
      rw [this]
      have h3 : (d0A N n).extract 0 (d0A N n).size = d0A N n := Array.extract_size
      rwa [this] at h3
    rw [e1, e2] at h
    have h2 := h.map (fun x : Fin (N + 1) => (x.val : Int))
    have e3 : (d0A N n).toList.map (fun x : Fin (N + 1) => (x.val : Int)) = idxL n := by
      apply List.ext_getElem
      · simp [d0A, idxL]
      · intro i h1 h2
        simp [d0A] at h1
        simp [d0A, idxL, Fin.ofNat]
        exact Int.emod_eq_of_lt (by omega) (by omega)
    rwa [e3] at h2
  · rw [List.pairwise_map, List.pairwise_iff_getElem]
    intro i j hi hj hij
    have hi' : i < d'.size := by simpa using hi
    have hj' : j < d'.size := by simpa using hj
    have h := M.2 i j (Nat.zero_le _) hij (by omega)
    rw [ltX_no, getElem!_pos d' i hi', getElem!_pos d' j hj'] at h
    show leF e p xs (d'.toList[i].val : Int) (d'.toList[j].val : Int) = true
    unfold leF
    rw [decide_eq_true_eq, Int.toNat_natCast, Int.toNat_natCast]
    simp only [Array.getElem_toList]
    omega
theorem holdsF_own {N : Nat} {w : World} {B T g n c : Nat} (d : Array (Fin (N + 1))) (h : w.ownsRow B T 1 (.slice (some ⟨g, 0, none⟩) n c) n (d.toList.map encF)) : Holds encF w g 0 d := fun j hj => by
  have hl : (d.toList.map (encF (N := N + 1))).length = d.size := by simp
  refine ⟨?_, by rw [Nat.zero_add]; exact h.frozenAt j⟩
  have h1 := h.1
  rw [Nat.zero_add, h.cellAt j (by omega), getElem!_pos d j hj]
  simp [hj]
theorem heapF {N : Nat} {w : World} {g q : Nat} {os : Array Obj} {cur : Array Value} {e : TypeId} {fr : Nat × Nat} (F : Array (Fin (N + 1))) (hb : w.heap[g]? = some (.cells cur e fr)) :
    (sortWorld encF w g 0 q F os).heap[g]? = some (.cells (Go.Sort.putCells encF 0 F cur) e fr) := by
  have hg : g < w.heap.size := (Array.getElem?_eq_some_iff.1 hb).1
  unfold sortWorld
  rw [Go.Sort.heap_grow_old _ _ (by simpa using hg)]
  simp [Go.Sort.putRow, Go.Sort.mapBlock, Go.Sort.ahead, Array.getElem?_modify, hb, Go.Sort.onCells]
theorem grownF {N : Nat} {w : World} {g q : Nat} {os : Array Obj} (F : Array (Fin (N + 1))) : w.grownBy (sortWorld encF w g 0 q F os) (some g) := by
  unfold sortWorld
  refine ⟨rfl, rfl, rfl, by simp, fun k hk hne => ?_⟩
  rw [Go.Sort.heap_grow_old _ _ (by simpa using hk)]
  have : g ≠ k := fun e => hne (by rw [e])
  simp [Go.Sort.putRow, Go.Sort.mapBlock, Go.Sort.ahead, Array.getElem?_modify, this]
theorem takeF {N : Nat} (cur : Array Value) (F : Array (Fin (N + 1))) (h : F.size ≤ cur.size) : (Go.Sort.putCells encF 0 F cur).toList.take F.size = F.toList.map encF := by
  apply List.ext_getElem?
  intro j
  by_cases hj : j < F.size
  · rw [List.getElem?_take_of_lt hj, Array.getElem?_toList]
    simp [Go.Sort.putCells, hj, show j < cur.size by omega]
  · rw [List.getElem?_take_eq_none (by omega), List.getElem?_eq_none (by simp; omega)]
theorem sortW_own {N : Nat} {w : World} {B T g n c q : Nat} {d d' : Array (Fin (N + 1))} {os : Array Obj} (h : w.ownsRow B T 1 (.slice (some ⟨g, 0, none⟩) n c) n (d.toList.map encF)) (hs : d'.size = n) :
    (sortWorld encF w g 0 q d' os).ownsRow B T 1 (.slice (some ⟨g, 0, none⟩) n c) n (d'.toList.map encF) := by
  rcases h.2 with ⟨h0, _⟩ | ⟨g', cap, cur, hv, hb, hheap, hnc, hcm, hcs, _⟩
  · cases h0
  · cases hv
    refine ⟨by simp [hs], .inr ⟨g, c, _, rfl, hb, heapF _ hheap, hnc, hcm, by simp [Go.Sort.putCells, hcs], ?_⟩⟩
    rw [Nat.mul_one, ← hs]
    exact takeF cur d' (by rw [hs, hcs]; omega)
theorem encF_list {N : Nat} (F : Array (Fin (N + 1))) : F.toList.map encF = (F.toList.map (fun x => (x.val : Int))).map (Value.int .i64) := by
  rw [List.map_map]; rfl
theorem d0A_idx {N n : Nat} (hn : n ≤ N + 1) : (d0A N n).toList.map encF = (idxL n).map (Value.int .i64) := by
  rw [encF_list]
  congr 1
  apply List.ext_getElem
  · simp [d0A, idxL]
  · intro i h1 h2
    simp [d0A] at h1
    simp [d0A, idxL, Fin.ofNat]
    exact Int.emod_eq_of_lt (by omega) (by omega)
/-! ### an empty slice -/
theorem ins_zero (a : Option Addr) (c : Nat) (fv : Value) (w : World) :
    Calls Try.prog 88 #[.slice a 0 c, .int .i64 0, .int .i64 0, fv] w fun e w' => e = .returned (.tuple #[]) ∧ w = w' := by
  go_enter Try.func88, Try.ntmps88
  go_wp2
  refine wp_loop_rounds 1 ?_
  rw [rounds_succ]
  go_wp2
  go_end0
  exact ⟨rfl, rfl⟩
theorem stab_zero (a : Option Addr) (c : Nat) (fv : Value) (w : World) :
    Calls Try.prog 84 #[.slice a 0 c, .int .i64 0, fv] w fun e w' => e = .returned (.tuple #[]) ∧ w = w' := by
  go_enter Try.func84, Try.ntmps84
  go_wp2
  refine wp_loop_rounds 1 ?_
  rw [rounds_succ]
  go_wp2_with (go_at_call 88; refine (ins_zero _ _ _ _).mono ?_; rintro x w' ⟨rfl, rfl⟩)
  refine wp_loop_rounds 1 ?_
  rw [rounds_succ]
  go_wp2
  go_end0
  exact ⟨rfl, rfl⟩
theorem sortStab_zero (a : Option Addr) (c : Nat) (fv : Value) (w : World) :
    Calls Try.prog 75 #[.slice a 0 c, fv] w fun e w' => e = .returned (.tuple #[]) ∧ w = w' := by
  go_enter Try.func75, Try.ntmps75
  go_wp2_with (go_at_call 84; refine (stab_zero _ _ _ _).mono ?_; rintro x w' ⟨rfl, rfl⟩)
  go_end0
  exact ⟨rfl, rfl⟩
/-! ### the function -/
theorem cell_sortW {N : Nat} {w : World} {g q b o : Nat} {dk : Array (Fin (N + 1))} {os : Array Obj} (hb : b < w.heap.size) (hne : b ≠ g) : (sortWorld encF w g 0 q dk os).cell? ⟨b, o, none⟩ = w.cell? ⟨b, o, none⟩ := by
  unfold sortWorld
  rw [Go.Sort.cell?_grow _ _ _ (by simpa using hb), Go.Sort.cell?_putRow_other _ _ g 0 _ _ (Or.inl hne)]
  rfl
theorem size_sortW {N : Nat} (w : World) (g q : Nat) (dk : Array (Fin (N + 1))) (os : Array Obj) : w.heap.size ≤ (sortWorld encF w g 0 q dk os).heap.size := (grownF dk).size
/-- the sort, over the indices of at least one point -/
theorem fold_sort (e p : Int) (eb cb b1 o1 n c g B T : Nat) (xs : List Pt) (w : World) (h1 : 0 ≤ e) (h2 : e ≤ 10000000) (h3 : 1 ≤ p) (h4 : p ≤ 1000000) (h0 : 0 < n) (hn : n ≤ 100) (hbd : ∀ k, k < n → 0 ≤ (xs[k]?.getD pt0).1 ∧ (xs[k]?.getD pt0).1 ≤ 10000000)
    (q0 : eb < w.heap.size) (q1 : cb < w.heap.size) (n0 : eb ≠ g) (n1 : cb ≠ g) (n2 : b1 ≠ g) (k0 : w.cell? ⟨eb, 0, none⟩ = some (.int .i64 e)) (k1 : w.cell? ⟨eb, 1, none⟩ = some (.int .i64 p)) (k2 : w.cell? ⟨cb, 0, none⟩ = some (.slice (some ⟨b1, o1, none⟩) n c)) (hx : PtL w (some ⟨b1, o1, none⟩) n xs)
    (hown : w.ownsRow B T 1 (.slice (some ⟨g, 0, none⟩) n n) n ((idxL n).map (Value.int .i64))) :
    Calls Try.prog 75 #[.slice (some ⟨g, 0, none⟩) n n, .func (.func 76) #[] #[.pointer (some ⟨eb, 0, none⟩), .pointer (some ⟨cb, 0, none⟩)]] w fun x w' => x = .returned (.tuple #[]) ∧ w'.ownsRow B T 1 (.slice (some ⟨g, 0, none⟩) n n) n (((idxL n).mergeSort (leF e p xs)).map (Value.int .i64)) ∧ w.grownBy w' (some g) := by
  obtain ⟨N, rfl⟩ : ∃ N, n = N + 1 := ⟨n - 1, by omega⟩
  rw [← d0A_idx (N := N) (Nat.le_refl _)] at hown
  have hg := (hown.lt g rfl).2
  have hH : Holds encF w g 0 (d0A N (N + 1)) := holdsF_own _ hown
  have hR : Row1 encF w g 0 (d0A N (N + 1)) := ⟨encF_one, hH, hg⟩
  have hcmp : CmpLays1 Try.prog 76 #[.pointer (some ⟨eb, 0, none⟩), .pointer (some ⟨cb, 0, none⟩)] (encF (N := N + 1)) (fun x y => sgI (keyP e p xs x.val) (keyP e p xs y.val)) g 0 (d0A N (N + 1)).size w := by
    intro m os dk hs x y
    obtain ⟨b', o', e1, hbx, hcx⟩ := hx.2 x.val x.isLt
    cases e1
    obtain ⟨b'', o'', e2, hby⟩ := hx.2 y.val y.isLt
    cases e2
    have hsz := size_sortW w g m dk os
    obtain ⟨-, px, -⟩ := PtC.parts (x0 := (xs[x.val]?.getD pt0).1) (x1 := (xs[x.val]?.getD pt0).2) ⟨hbx, hcx⟩
    obtain ⟨-, py, -⟩ := PtC.parts (x0 := (xs[y.val]?.getD pt0).1) (x1 := (xs[y.val]?.getD pt0).2) hby
    exact foldCl_any e p eb cb b1 o1 (N + 1) c x.val y.val _ _ _ h1 h2 h3 h4 x.isLt y.isLt hn (hbd _ x.isLt) (hbd _ y.isLt) (by omega) (by omega) (by omega)
      (by rw [cell_sortW q0 n0]; exact k0) (by rw [cell_sortW q0 n0]; exact k1) (by rw [cell_sortW q1 n1]; exact k2) (by rw [cell_sortW hbx n2]; exact px) (by rw [cell_sortW hbx n2]; exact py)
  have hl : ∀ x y : Fin (N + 1), ltOf (fun x y : Fin (N + 1) => sgI (keyP e p xs x.val) (keyP e p xs y.val)) x y = decide (keyP e p xs x.val < keyP e p xs y.val) := fun x y => by
    unfold ltOf
    congr 1
    exact propext sgI_neg
  have hS := sortStab_any (cap := N + 1) (ix := fun x : Fin (N + 1) => x.val) hl (enters_of Try.func76 (by kernel_rfl) rfl) hcmp hR (N + 1) w (d0A_size _ _) hn (SW.start hH) (fun s t hst ht => by
    rw [d0A_at (by omega) (Nat.le_refl _), d0A_at ht (Nat.le_refl _)]; exact hst)
  refine hS.mono ?_
  rintro x w' ⟨rfl, d', hM, q, os, rfl⟩
  have hs' : d'.size = N + 1 := by rw [hM.1.1, d0A_size]
  refine ⟨rfl, ?_, grownF d'⟩
  have h9 := sortW_own (q := q) (d' := d') (os := os) hown hs'
  rw [encF_list, fold_of (Nat.le_refl _) hM] at h9
  exact h9
end Go.Proofs.Ytidiiladlmaigaa
