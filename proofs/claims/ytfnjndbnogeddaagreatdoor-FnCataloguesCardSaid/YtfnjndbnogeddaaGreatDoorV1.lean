/- AddStar: stars sorted by slices.SortFunc. -/
import Derived.Test.YtfnjndbnogeddaaGreatDoorVF
import Derived.Test.YtfnjndbnogeddaaGreatDoorSB
import Derived.Shelf.SlSortCmp.WholeK
import Derived.Shelf.Small.Strs
import Derived.Shelf.SlGeneric
import Derived.Shelf.Lay
import Derived.Ground.SlsfProg
import Derived.Ground.NamesProg
import Derived.Sort.Walk0
import Derived.Deep.RegionHeld3
import Derived.Handy
namespace Go.Proofs.YtfnjndbnogeddaaGreatDoor
open Go.ChangeShapes Go.WideShapes Go.ChangeAt Go.RowKit Go.Deep Go.Shelf
open Go.Sort (grow putRow putCells Holds HoldsK flatK PermIn SortedIn SWO)

def encS (x : St) : List Value := [fld x 0, fld x 1, fld x 2, fld x 3, fld x 4]
def cfS (x y : St) : Int := Lib.compareBytes x.1.data.toList y.1.data.toList
theorem cmpB_lt : ∀ x y : List UInt8, decide (Lib.compareBytes x y < 0) = decide (x < y)
  | [], [] => by simp [Lib.compareBytes]
  | [], _ :: _ => by simp [Lib.compareBytes]
  | _ :: _, [] => by simp [Lib.compareBytes]
  | a :: xs, b :: bs => by
    have ih := cmpB_lt xs bs
    simp only [Lib.compareBytes]
    by_cases h1 : a < b
    · simp [h1, List.cons_lt_cons_iff]
    · by_cases h2 : b < a
      · have h3 : a ≠ b := fun e => by subst e; exact h1 h2
        simp [h1, h2, h3, List.cons_lt_cons_iff]
      · have h3 : a = b := UInt8.le_antisymm (UInt8.not_lt.1 h2) (UInt8.not_lt.1 h1)
        subst h3
        simp only [if_neg h1]
        rw [ih]
        simp
theorem ltS (x y : St) : ltOf cfS x y = decide (x.1.data.toList < y.1.data.toList) := cmpB_lt _ _
theorem swoS : SWO (ltOf cfS) where
  irrefl x := by rw [ltS]; simp [List.lt_irrefl]
  trans x y z h1 h2 := by
    rw [ltS] at *
    simp only [decide_eq_true_eq] at *
    exact List.lt_trans h1 h2
  ntrans x y z h1 h2 := by
    rw [ltS] at *
    simp only [decide_eq_false_iff_not] at *
    exact List.not_lt.2 (List.le_trans (List.not_lt.1 h2) (List.not_lt.1 h1))
theorem flat_eq (d : Array St) : flatK encS 5 d = (flatS d.toList).toArray := by
  refine Go.Sort.ext_get! (by simp [flatS_len]) fun t ht => ?_
  have ht' : t < d.size * 5 := by simpa using ht
  rw [Go.Sort.get_flatK encS 5 d t ht']
  have h1 := flatS_at d.toList (t / 5) (t % 5) (by simp; omega) (by omega)
  rw [show t / 5 * 5 + t % 5 = t from by omega] at h1
  have h2 : t < (flatS d.toList).toArray.size := by simp [flatS_len]; omega
  have h3 : t / 5 < d.size := by omega
  rw [getElem!_pos _ t h2, getElem!_pos d _ h3]
  rw [List.getElem?_eq_getElem (by simpa using h2)] at h1
  have h4 := Option.some.inj h1
  have h5 : t % 5 < 5 := by omega
  rw [show (flatS d.toList).toArray[t] = fld (d.toList[t / 5]?.getD st0) (t % 5) from h4]
  simp only [Array.getElem?_toList, Array.getElem?_eq_getElem h3, Option.getD_some]
  generalize d[t / 5] = x
  match t % 5, h5 with
  | 0, _ => rfl
  | 1, _ => rfl
  | 2, _ => rfl
  | 3, _ => rfl
  | 4, _ => rfl
theorem holds_own {w : World} {B e g n c : Nat} {xs : List St} (h : w.ownsRow B e 5 (.slice (some ⟨g, 0, none⟩) n c) n (flatS xs)) : HoldsK encS 5 w g 0 xs.toArray := by
  unfold HoldsK
  rw [flat_eq]
  intro j hj
  have hj' : j < (flatS xs).length := by simpa using hj
  have h1 := h.cells (g := g) rfl j _ (List.getElem?_eq_getElem hj')
  rw [Go.WideShapes.add_plain] at h1
  refine ⟨?_, by rw [Nat.zero_add]; exact h.frozenAt j⟩
  rw [h1, getElem!_pos _ j hj]
  simp
theorem heap_sK {w : World} {g n : Nat} {os : Array Obj} {cur : Array Value} {e : TypeId} {fr : Nat × Nat} (F : Array Value) (hb : w.heap[g]? = some (.cells cur e fr)) :
    (grow (putRow id (Go.Sort.ahead w n) g 0 F) os).heap[g]? = some (.cells (putCells id 0 F cur) e fr) := by
  have hg : g < w.heap.size := (Array.getElem?_eq_some_iff.1 hb).1
  rw [Go.Sort.heap_grow_old _ _ (by simpa using hg)]
  simp [putRow, Go.Sort.mapBlock, Go.Sort.ahead, Array.getElem?_modify, hb, Go.Sort.onCells]
theorem grown_sK {w : World} {g n : Nat} {os : Array Obj} (F : Array Value) : w.grownBy (grow (putRow id (Go.Sort.ahead w n) g 0 F) os) (some g) := by
  refine ⟨rfl, rfl, rfl, by simp, fun k hk hne => ?_⟩
  rw [Go.Sort.heap_grow_old _ _ (by simpa using hk)]
  have : g ≠ k := fun e => hne (by rw [e])
  simp [putRow, Go.Sort.mapBlock, Go.Sort.ahead, Array.getElem?_modify, this]
theorem take_put (cur : Array Value) (ts : List Value) (h : ts.length ≤ cur.size) : (putCells id 0 ts.toArray cur).toList.take ts.length = ts := by
  apply List.ext_getElem?
  intro j
  by_cases hj : j < ts.length
  · rw [List.getElem?_take_of_lt hj, Array.getElem?_toList]
    simp [putCells, hj, show j < cur.size by omega]
  · rw [List.getElem?_take_eq_none (by omega), List.getElem?_eq_none (by omega)]
theorem own_sK {w : World} {B e g n c q : Nat} {os : Array Obj} {xs ys : List St} (h : w.ownsRow B e 5 (.slice (some ⟨g, 0, none⟩) n c) n (flatS xs)) (hl : ys.length = n) :
    (grow (putRow id (Go.Sort.ahead w q) g 0 (flatS ys).toArray) os).ownsRow B e 5 (.slice (some ⟨g, 0, none⟩) n c) n (flatS ys) := by
  rcases h.2 with ⟨h0, _⟩ | ⟨g', cap, cur, hv, hb, hheap, hnc, hcm, hcs, _⟩
  · cases h0
  · cases hv
    refine ⟨by rw [flatS_len, hl], .inr ⟨g, c, _, rfl, hb, heap_sK _ hheap, hnc, hcm, by simp [putCells, hcs], ?_⟩⟩
    rw [← hl, ← flatS_len]
    exact take_put cur _ (by rw [flatS_len, hl, hcs]; exact Nat.mul_le_mul_right 5 hnc)
theorem sorted_facts {xs : List St} {n : Nat} {d' : Array St} (hn : xs.length = n) (hp : PermIn 0 n xs.toArray d') (hs : SortedIn (ltOf cfS) 0 n d') : d'.toList.length = n ∧ d'.toList.Perm xs ∧ d'.toList.Pairwise (fun a b => ¬ b.1.data.toList < a.1.data.toList) := by
  have hsz : d'.size = n := by rw [hp.1]; simpa using hn
  refine ⟨by simpa using hsz, ?_, ?_⟩
  · have h := hp.2.2
    have e1 : d'.extract 0 n = d' := by rw [← hsz]; exact Array.extract_size
    have e2 : xs.toArray.extract 0 n = xs.toArray := by
      have h3 : xs.toArray.size = n := by simpa using hn
      rw [← h3]; exact Array.extract_size
    rw [e1, e2] at h
    simpa using h
  · rw [List.pairwise_iff_getElem]
    intro i j hi hj hij
    have hi' : i < d'.size := by simpa using hi
    have hj' : j < d'.size := by simpa using hj
    have h := hs i j (Nat.zero_le _) hij (by omega)
    rw [ltS, decide_eq_false_iff_not] at h
    rw [getElem!_pos d' i hi', getElem!_pos d' j hj'] at h
    simpa using h
shelf_lay_g SlLaysF0.n6 Slsf 6 at Tryz 63 as Tryz.sortS
shelf_lay Lays.n106 Nm 106 at Tryz as Tryz.strCmp
theorem stNameX (x0 : ByteArray) (x1 x2 x3 x4 : Int) (w : World) :
    Calls Tryz.prog 196 #[.agg #[.string x0, .int .i64 x1, .int .i64 x2, .int .i64 x3, .int .i64 x4]] w fun e w' => e = .returned (.string x0) ∧ w' = w.alloc (.cells #[.string x0, .int .i64 x1, .int .i64 x2, .int .i64 x3, .int .i64 x4] 27) := by
  go_enter Tryz.func196, Tryz.ntmps196
  go_wp2
  go_ret
  exact ⟨rfl, rfl⟩
set_option maxRecDepth 100000 in
set_option maxHeartbeats 8000000 in
theorem clos_any (x y : St) (W : World) : Calls Tryz.prog 64 #[.agg (encS x).toArray, .agg (encS y).toArray] W fun e w' => e = .returned (.int .i64 (cfS x y)) ∧ ∃ q os', w' = grow (W.drewN q) os' := by
  obtain ⟨nm, a, d, u, v⟩ := x
  obtain ⟨nm', a', d', u', v'⟩ := y
  show Calls Tryz.prog 64 #[.agg #[.string nm, .int .i64 a, .int .i64 d, .int .i64 u, .int .i64 v], .agg #[.string nm', .int .i64 a', .int .i64 d', .int .i64 u', .int .i64 v']] W _
  have hcon := fun W' => Any.strings_Compare Tryz.strCmp nm nm' W'
  change ∀ W', Calls Tryz.prog 91 _ _ _ at hcon
  have hr : cfS (nm, a, d, u, v) (nm', a', d', u', v') = Lib.compareBytes nm.data.toList nm'.data.toList := rfl
  rw [hr]
  clear hr
  generalize Lib.compareBytes nm.data.toList nm'.data.toList = r at hcon ⊢
  go_enter Tryz.func64, Tryz.ntmps64
  go_wp2_with fail
  go_region_held3 (fun W' => W'.cell? ⟨W.heap.size, 0, none⟩ = some (.string nm) ∧ W'.cell? ⟨W.heap.size, 1, none⟩ = some (.int .i64 a) ∧ W'.cell? ⟨W.heap.size, 2, none⟩ = some (.int .i64 d) ∧ W'.cell? ⟨W.heap.size, 3, none⟩ = some (.int .i64 u) ∧ W'.cell? ⟨W.heap.size, 4, none⟩ = some (.int .i64 v) ∧ W'.cell? ⟨W.heap.size + 1, 0, none⟩ = some (.string nm') ∧ W'.cell? ⟨W.heap.size + 1, 1, none⟩ = some (.int .i64 a') ∧ W'.cell? ⟨W.heap.size + 1, 2, none⟩ = some (.int .i64 d') ∧ W'.cell? ⟨W.heap.size + 1, 3, none⟩ = some (.int .i64 u') ∧ W'.cell? ⟨W.heap.size + 1, 4, none⟩ = some (.int .i64 v')) (refine ⟨?_, ?_, ?_, ?_, ?_, ?_, ?_, ?_, ?_, ?_⟩ <;> go_keep) (first | (go_at_call 196; refine (stNameX _ _ _ _ _ _).mono ?_; rintro e w' ⟨rfl, rfl⟩) | (go_at_call 91; refine (hcon _).mono ?_; rintro e w' ⟨rfl, rfl⟩))
  all_goals
    go_wp2
    go_ret
    exact ⟨rfl, 1, _, by simp only [Go.Sort.alloc_eq_grow, Go.Sort.grow_grow]; rfl⟩
theorem sortS_any (g n c B : Nat) (xs : List St) (w : World) (hown : w.ownsRow B 27 5 (.slice (some ⟨g, 0, none⟩) n c) n (flatS xs)) (hl : xs.length = n) (hn : n ≤ 1048576) :
    Calls Tryz.prog 63 #[.slice (some ⟨g, 0, none⟩) n c, .func (.func 64) #[] #[]] w fun e w' => e = .returned (.tuple #[]) ∧ ∃ ys, ys.length = n ∧ ys.Perm xs ∧ ys.Pairwise (fun a b => ¬ b.1.data.toList < a.1.data.toList) ∧ w'.ownsRow B 27 5 (.slice (some ⟨g, 0, none⟩) n c) n (flatS ys) ∧ w.grownBy w' (some g) := by
  have hsz : xs.toArray.size = n := by simpa using hl
  have hcon := AnyQ.slices_SortFunc Tryz.sortS 5 (fun _ => by kernel_rfl) (fun _ => by kernel_rfl) encS (fun _ => rfl) (fun x v hv => by simp [encS] at hv; rcases hv with rfl | rfl | rfl | rfl | rfl <;> rfl) cfS swoS 64 #[] g 0 c xs.toArray w
    (enters_of Tryz.func64 (by kernel_rfl) rfl) (fun _ _ _ _ x y => clos_any x y _) (holds_own hown) (hown.lt g rfl).2 (by omega)
  change Calls Tryz.prog 63 _ _ _ at hcon
  rw [hsz] at hcon
  refine hcon.mono ?_
  rintro e w' ⟨rfl, d', q, os, hp, hs, rfl⟩
  obtain ⟨f1, f2, f3⟩ := sorted_facts hl hp hs
  refine ⟨rfl, d'.toList, f1, f2, f3, ?_, ?_⟩
  · have h := own_sK (q := q) (os := os) hown f1
    rw [← flat_eq] at h
    exact h
  · exact grown_sK _
end Go.Proofs.YtfnjndbnogeddaaGreatDoor
