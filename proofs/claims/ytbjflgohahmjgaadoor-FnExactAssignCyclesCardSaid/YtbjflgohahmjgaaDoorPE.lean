/- Residuals of one minimum, both sides. -/
import Derived.Test.YtbjflgohahmjgaaDoorPA
import Derived.Test.YtbjflgohahmjgaaDoorB2
namespace Go.Proofs.YtbjflgohahmjgaaDoor
open Go.ChangeShapes Go.WideShapes Go.ChangeAt Go.RowKit Go.Deep

theorem iExtW_any (e p c : Int) (w : World) (h1 : 0 ≤ e) (h2 : e ≤ 10000000) (h5 : -100000000000 ≤ c * p) (h6 : c * p ≤ 100000000000) :
    Calls Tryd.prog 77 #[.agg #[.int .i64 e, .int .i64 p], .int .i64 c] w fun x w' => x = .returned (.int .i64 (e + c * p)) ∧ Below w.heap.size w w' := by
  go_enter Tryd.func77, Tryd.ntmps77
  go_wp2
  go_ret
  exact ⟨rfl, by (repeat (first | assumption | exact Below.refl _ _ | refine belowDN ?_ _ | refine Below.drew ?_ | refine Below.setCell ?_ (by first | omega | (simp <;> omega)) _ | refine Below.alloc ?_ (by first | omega | (simp <;> omega)) _ | refine belowCall ?_ (by assumption)))⟩
set_option maxHeartbeats 1000000 in
theorem res_any (e p x0 x1 : Int) (w : World) (h1 : 0 ≤ e) (h2 : e ≤ 10000000) (h5 : -100000000000 ≤ x0 * p) (h6 : x0 * p ≤ 100000000000) (h7 : 0 ≤ x1) (h8 : x1 ≤ 10000000) :
    Calls Tryd.prog 43 #[.agg #[.int .i64 e, .int .i64 p], .agg #[.int .i64 x0, .int .i64 x1]] w fun r w' => r = .returned (.int .i64 (x1 - (e + x0 * p))) ∧ Below w.heap.size w w' := by
  have HX : ∀ W, Calls Tryd.prog 77 #[.agg #[.int .i64 e, .int .i64 p], .int .i64 x0] W fun x w' => x = .returned (.int .i64 (e + x0 * p)) ∧ Below W.heap.size W w' := fun W => iExtW_any e p _ W h1 h2 h5 h6
  have hbx := Bx2.fresh w e p x0 x1 27 34
  obtain ⟨m, hm⟩ : ∃ m, e + x0 * p = m := ⟨_, rfl⟩
  have hmb : -200000000000 ≤ m ∧ m ≤ 200000000000 := by omega
  have HV : Hid (IntKind.i64.wrap (x1 - m) = x1 - m) := Lib.hid (IntWalk.i64_in _ (by omega))
  rw [hm] at HX ⊢
  clear hm h5 h6
  go_enter Tryd.func43, Tryd.ntmps43
  go_upto_region 1 with fail
  generalize ((w.alloc (.cells #[.int .i64 e, .int .i64 p] 27)).alloc (.cells #[.int .i64 x0, .int .i64 x1] 34)) = v at hbx ⊢
  obtain ⟨⟨k0, k1⟩, l0, l1⟩ := hbx.cells
  have hl0 := hbx.a.1
  have hl1 := hbx.b.1
  have B1 := hbx.below
  clear hbx
  go_region_held3 (fun W' => W'.cell? ⟨w.heap.size, 0, none⟩ = some (.int .i64 e) ∧ W'.cell? ⟨w.heap.size, 1, none⟩ = some (.int .i64 p) ∧ W'.cell? ⟨w.heap.size + 1, 0, none⟩ = some (.int .i64 x0) ∧ W'.cell? ⟨w.heap.size + 1, 1, none⟩ = some (.int .i64 x1)) (refine ⟨?_, ?_, ?_, ?_⟩ <;> first | assumption | exact ((show Below v.heap.size v _ by (repeat (first | assumption | exact Below.refl _ _ | refine belowDN ?_ _ | refine Below.drew ?_ | refine Below.setCell ?_ (by first | omega | (simp <;> omega)) _ | refine Below.alloc ?_ (by first | omega | (simp <;> omega)) _ | refine belowCall ?_ (by assumption)))).cell (p := ⟨w.heap.size, 0, none⟩) hl0).trans k0 | exact ((show Below v.heap.size v _ by (repeat (first | assumption | exact Below.refl _ _ | refine belowDN ?_ _ | refine Below.drew ?_ | refine Below.setCell ?_ (by first | omega | (simp <;> omega)) _ | refine Below.alloc ?_ (by first | omega | (simp <;> omega)) _ | refine belowCall ?_ (by assumption)))).cell (p := ⟨w.heap.size, 1, none⟩) hl0).trans k1 | exact ((show Below v.heap.size v _ by (repeat (first | assumption | exact Below.refl _ _ | refine belowDN ?_ _ | refine Below.drew ?_ | refine Below.setCell ?_ (by first | omega | (simp <;> omega)) _ | refine Below.alloc ?_ (by first | omega | (simp <;> omega)) _ | refine belowCall ?_ (by assumption)))).cell (p := ⟨w.heap.size + 1, 0, none⟩) hl1).trans l0 | exact ((show Below v.heap.size v _ by (repeat (first | assumption | exact Below.refl _ _ | refine belowDN ?_ _ | refine Below.drew ?_ | refine Below.setCell ?_ (by first | omega | (simp <;> omega)) _ | refine Below.alloc ?_ (by first | omega | (simp <;> omega)) _ | refine belowCall ?_ (by assumption)))).cell (p := ⟨w.heap.size + 1, 1, none⟩) hl1).trans l1) (first | (go_at_call 77; refine (HX _).mono ?_; rintro x wA ⟨rfl, bA⟩) | fail)
  all_goals
    go_wp2
    go_ret
    exact ⟨ret_int HV.out, belowCall B1 (by (repeat (first | assumption | exact Below.refl _ _ | refine belowDN ?_ _ | refine Below.drew ?_ | refine Below.setCell ?_ (by first | omega | (simp <;> omega)) _ | refine Below.alloc ?_ (by first | omega | (simp <;> omega)) _ | refine belowCall ?_ (by assumption))))⟩
theorem sRsd_any (e p x0 x1 : Int) (w : World) (h1 : 0 ≤ e) (h2 : e ≤ 10000000) (h5 : -100000000000 ≤ x0 * p) (h6 : x0 * p ≤ 100000000000) (h7 : 0 ≤ x1) (h8 : x1 ≤ 10000000) :
    Calls Tryd.prog 66 #[.agg #[.int .i64 x0, .int .i64 x1], .agg #[.int .i64 e, .int .i64 p]] w fun r w' => r = .returned (.int .i64 (x1 - (e + x0 * p))) ∧ Below w.heap.size w w' := by
  have HV : Hid (x1 - e - x0 * p = x1 - (e + x0 * p)) := Lib.hid (by omega)
  go_enter Tryd.func66, Tryd.ntmps66
  go_wp2
  go_ret
  exact ⟨ret_int (by rw [← HV.out]), by (repeat (first | assumption | exact Below.refl _ _ | refine belowDN ?_ _ | refine Below.drew ?_ | refine Below.setCell ?_ (by first | omega | (simp <;> omega)) _ | refine Below.alloc ?_ (by first | omega | (simp <;> omega)) _ | refine belowCall ?_ (by assumption)))⟩
end Go.Proofs.YtbjflgohahmjgaaDoor
