/- l09Fold, the model's. -/
import Derived.Test.YtidiiladlmaigaaFC
import Derived.Test.YtidiiladlmaigaaM3
import Derived.Test.YtidiiladlmaigaaF1
import Derived.Test.YtidiiladlmaigaaFK
import Derived.Deep.RegionLaw
import Derived.Deep.RegionHeld3
import Derived.Deep.AppendLies
import Derived.Shelf.SlSortCmp.QuietGrown
namespace Go.Proofs.Ytidiiladlmaigaa
open Go.ChangeShapes Go.WideShapes Go.ChangeAt Go.RowKit Go.Deep

theorem putAt_pw {R : Int → Int → Prop} {l : List Int} {k : Nat} {x : Int} (h : l.Pairwise R) (h1 : ∀ y ∈ l.take k, R y x) (h2 : ∀ y ∈ l.drop k, R x y) : (putAt l k x).Pairwise R := by
  have e : putAt l k x = l.take k ++ x :: l.drop k := by simp [putAt]
  rw [← List.take_append_drop k l, List.pairwise_append] at h
  rw [e, List.pairwise_append]
  refine ⟨h.1, List.pairwise_cons.2 ⟨h2, h.2.1⟩, fun a ha b hb => ?_⟩
  rcases List.mem_cons.1 hb with rfl | hb
  · exact h1 a ha
  · exact h.2.2 a ha b hb
theorem idxL_put {i : Nat} {ys : List Int} (h : ys.Perm (idxL i)) (k : Nat) : (putAt ys k (i : Int)).Perm (idxL (i + 1)) := by
  have e : idxL (i + 1) = idxL i ++ [(i : Int)] := by simp [idxL, List.range_succ]
  rw [e]
  exact ((putAt_perm ys k (i : Int)).trans (List.Perm.cons _ h)).trans (List.perm_append_singleton _ _).symm
theorem idxL_mem {y : Int} {i : Nat} (h : y ∈ idxL i) : ∃ q : Nat, y = q ∧ q < i := by
  simp only [idxL, List.mem_map, List.mem_range] at h
  obtain ⟨q, hq, rfl⟩ := h
  exact ⟨q, rfl, hq⟩
theorem fold_nth {ys : List Int} {i j : Nat} (hyl : ys.length = i) (hP : ys.Perm (idxL i)) (hj : j < i) : ∃ q : Nat, ys[j]?.getD 0 = (q : Int) ∧ q < i := by
  rw [List.getElem?_eq_getElem (by omega), Option.getD_some]
  exact idxL_mem (hP.mem_iff.1 (List.getElem_mem _))
theorem fold_put {e p : Int} {xs : List Pt} {i k : Nat} {ys : List Int} (hyl : ys.length = i) (hP : ys.Perm (idxL i)) (hR : ys.Pairwise (fun a b => leF e p xs a b = true))
    (hall : ∀ j, k ≤ j → j < i → keyP e p xs i < keyP e p xs (ys[j]?.getD 0).toNat) (hf : k = 0 ∨ keyP e p xs (ys[k - 1]?.getD 0).toNat ≤ keyP e p xs i) (hki : k ≤ i) :
    (putAt ys k (i : Int)).Pairwise (fun a b => leF e p xs a b = true) := by
  refine putAt_pw hR (fun y hy => ?_) (fun y hy => ?_)
  · obtain ⟨j, hj, rfl⟩ := List.getElem_of_mem hy
    rw [List.length_take] at hj
    rw [List.getElem_take]
    obtain ⟨q, hq, hqi⟩ := fold_nth (j := j) hyl hP (by omega)
    have hlast := hf.resolve_left (by omega)
    have hkey : keyP e p xs (ys[j]?.getD 0).toNat ≤ keyP e p xs (ys[k - 1]?.getD 0).toNat := by
      by_cases hjk : j = k - 1
      · rw [hjk]; exact Int.le_refl _
      · have h9 := List.pairwise_iff_getElem.1 hR j (k - 1) (by omega) (by omega) (by omega)
        rw [List.getElem?_eq_getElem (by omega : j < ys.length), List.getElem?_eq_getElem (by omega : k - 1 < ys.length), Option.getD_some, Option.getD_some]
        unfold leF at h9
        simp only [decide_eq_true_eq] at h9
        omega
    rw [List.getElem?_eq_getElem (by omega : j < ys.length), Option.getD_some] at hq hkey
    unfold leF
    simp only [decide_eq_true_eq, Int.toNat_natCast]
    omega
  · obtain ⟨j, hj, rfl⟩ := List.getElem_of_mem hy
    rw [List.length_drop] at hj
    rw [List.getElem_drop]
    have h9 := hall (k + j) (by omega) (by omega)
    rw [List.getElem?_eq_getElem (by omega : k + j < ys.length), Option.getD_some] at h9
    unfold leF
    simp only [decide_eq_true_eq, Int.toNat_natCast]
    omega
theorem sCycG (e p t : Int) (w : World) (h1 : 0 ≤ e) (h2 : e ≤ 10000000) (h3 : 1 ≤ p) (h4 : p ≤ 1000000) (h5 : -1 ≤ t) (h6 : t ≤ 20000000) :
    Calls Try.prog 79 #[.agg #[.int .i64 e, .int .i64 p], .int .i64 t] w fun x w' => x = .returned (.int .i64 (cyc e p t)) ∧ GRW w w' := by
  go_enter Try.func79, Try.ntmps79
  go_wp2_with (go_at_call 61; refine (l02Floor_any _ _ _ (by omega) (by omega) (by omega) (by omega)).mono ?_; rintro x w' ⟨rfl, rfl⟩)
  go_ret
  exact ⟨rfl, by (repeat (first | assumption | exact GRW.refl _ | refine GRW.drewN ?_ _ | refine GRW.drew ?_ | refine GRW.alloc ?_ _ | refine GRW.trans ?_ (by assumption)))⟩
set_option maxHeartbeats 1000000 in
theorem sPhsG (e p t : Int) (w : World) (h1 : 0 ≤ e) (h2 : e ≤ 10000000) (h3 : 1 ≤ p) (h4 : p ≤ 1000000) (h5 : 0 ≤ t) (h6 : t ≤ 20000000) :
    Calls Try.prog 54 #[.agg #[.int .i64 e, .int .i64 p], .int .i64 t] w fun x w' => x = .returned (.int .i64 (phs e p t)) ∧ GRW w w' := by
  have hc := cyc_bd (e := e) (t := t) h3
  have HC : ∀ W, Calls Try.prog 79 #[.agg #[.int .i64 e, .int .i64 p], .int .i64 t] W fun x w' => x = .returned (.int .i64 (cyc e p t)) ∧ GRW W w' := fun W => sCycG e p t W h1 h2 h3 h4 (by omega) h6
  have HV := Lib.hid (phs_eq2 e p t)
  generalize cyc e p t = c at HC hc HV
  replace HV : Hid (IntKind.i64.wrap (IntKind.i64.wrap (t - e) - IntKind.i64.wrap (c * p)) = phs e p t) := Lib.hid (by rw [IntWalk.i64_in (t - e) (by omega), IntWalk.i64_in (c * p) (by omega), IntWalk.i64_in _ (by omega)]; exact HV.out)
  obtain ⟨hlt, k0, k1⟩ := (PtC.fresh w 44 e p).parts
  rw [Nat.zero_add] at k1
  have B1 : GRW w (w.alloc (.cells #[.int .i64 e, .int .i64 p] 44)) := (GRW.refl _).alloc _
  go_enter Try.func54, Try.ntmps54
  go_wp2_with fail
  generalize w.alloc (.cells #[.int .i64 e, .int .i64 p] 44) = v at hlt k0 k1 B1 ⊢
  go_region_held3 (fun W' => W'.cell? ⟨w.heap.size, 0, none⟩ = some (.int .i64 e) ∧ W'.cell? ⟨w.heap.size, 1, none⟩ = some (.int .i64 p)) (refine ⟨?_, ?_⟩ <;> first | assumption | exact ((show GRW v _ by (repeat (first | assumption | exact GRW.refl _ | refine GRW.drewN ?_ _ | refine GRW.drew ?_ | refine GRW.alloc ?_ _ | refine GRW.trans ?_ (by assumption)))).below.cell (p := ⟨w.heap.size, 0, none⟩) hlt).trans k0 | exact ((show GRW v _ by (repeat (first | assumption | exact GRW.refl _ | refine GRW.drewN ?_ _ | refine GRW.drew ?_ | refine GRW.alloc ?_ _ | refine GRW.trans ?_ (by assumption)))).below.cell (p := ⟨w.heap.size, 1, none⟩) hlt).trans k1) (first | (go_at_call 79; refine (HC _).mono ?_; rintro x wA ⟨rfl, bA⟩))
  all_goals
    go_wp2
    go_ret
    exact ⟨ret_int HV.out, B1.trans (by (repeat (first | assumption | exact GRW.refl _ | refine GRW.drewN ?_ _ | refine GRW.drew ?_ | refine GRW.alloc ?_ _ | refine GRW.trans ?_ (by assumption))))⟩
theorem grow_below (w : World) (n : Nat) (os : Array Obj) : Below w.heap.size w (Go.Sort.grow (w.drewN n) os) := below_grown_sl _ _ _ _ (Nat.le_refl _)
end Go.Proofs.Ytidiiladlmaigaa
