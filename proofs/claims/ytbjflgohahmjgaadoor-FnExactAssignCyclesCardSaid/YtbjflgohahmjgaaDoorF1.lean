/- Ephemerides: the methods, the codes, single times; both sides. -/
import Derived.Test.YtbjflgohahmjgaaDoorF0
import Derived.Test.YtbjflgohahmjgaaDoorGPt1
import Derived.Test.YtbjflgohahmjgaaDoorB3
import Derived.Deep.RegionHeld3
namespace Go.Proofs.YtbjflgohahmjgaaDoor
open Go.ChangeShapes Go.WideShapes Go.ChangeAt Go.RowKit Go.Deep

theorem toEp_any (e p : Int) (w : World) :
    Calls Tryd.prog 31 #[.agg #[.int .i64 e, .int .i64 p]] w fun x w' => x = .returned (.agg #[.int .i64 e, .int .i64 p]) ∧ Below w.heap.size w w' := by
  go_enter Tryd.func31, Tryd.ntmps31
  go_wp2
  exact bodyPost_ret (v := .agg #[.int .i64 e, .int .i64 p]) (by simp [results, Tryd.results31, go_sem]) rfl ⟨rfl, by (repeat (first | assumption | exact Below.refl _ _ | refine belowDN ?_ _ | refine Below.drew ?_ | refine Below.setCell ?_ (by first | omega | (simp <;> omega)) _ | refine Below.alloc ?_ (by first | omega | (simp <;> omega)) _ | refine belowCall ?_ (by assumption)))⟩
theorem isPer_any (p : Int) (w : World) :
    Calls Tryd.prog 76 #[.int .i64 p] w fun e w' => e = .returned (.bool (perB p)) ∧ w = w' := by
  go_enter Tryd.func76, Tryd.ntmps76
  go_wp2_with (go_at_call 48; refine (inRange_any _ _ _ _).mono ?_; rintro e w' ⟨rfl, rfl⟩)
  go_ret
  exact ⟨rfl, rfl⟩
theorem l09Per_any (p : Int) (w : World) :
    Calls Tryd.prog 88 #[.int .i64 p] w fun e w' => e = .returned (.bool (perB p)) ∧ w = w' := by
  go_enter Tryd.func88, Tryd.ntmps88
  go_wp2_with (go_at_call 63; refine (l00In_any _ _ _ _).mono ?_; rintro e w' ⟨rfl, rfl⟩)
  go_ret
  exact ⟨rfl, rfl⟩
theorem iValidEp_any (e p : Int) (w : World) :
    Calls Tryd.prog 41 #[.agg #[.int .i64 e, .int .i64 p]] w fun x w' => x = .returned (.bool (ephB e p)) ∧ Below w.heap.size w w' := by
  cases h0 : tmB e
  all_goals
    go_enter Tryd.func41, Tryd.ntmps41
    go_wp2_with (first | (go_at_call 75; refine (iTm_any _ _).mono ?_; rintro x w' ⟨rfl, rfl⟩) | (go_at_call 76; refine (isPer_any _ _).mono ?_; rintro x w' ⟨rfl, rfl⟩))
    go_ret
    exact ⟨by simp [ephB, h0], by (repeat (first | assumption | exact Below.refl _ _ | refine belowDN ?_ _ | refine Below.drew ?_ | refine Below.setCell ?_ (by first | omega | (simp <;> omega)) _ | refine Below.alloc ?_ (by first | omega | (simp <;> omega)) _ | refine belowCall ?_ (by assumption)))⟩
theorem l09Ok_any (e p : Int) (w : World) :
    Calls Tryd.prog 60 #[.agg #[.int .i64 e, .int .i64 p]] w fun x w' => x = .returned (.bool (ephB e p)) ∧ Below w.heap.size w w' := by
  cases h0 : tmB e
  all_goals
    go_enter Tryd.func60, Tryd.ntmps60
    go_wp2_with (first | (go_at_call 68; refine (l06Time_any _ _).mono ?_; rintro x w' ⟨rfl, rfl⟩) | (go_at_call 88; refine (l09Per_any _ _).mono ?_; rintro x w' ⟨rfl, rfl⟩))
    go_ret
    exact ⟨by simp [ephB, h0], by (repeat (first | assumption | exact Below.refl _ _ | refine belowDN ?_ _ | refine Below.drew ?_ | refine Below.setCell ?_ (by first | omega | (simp <;> omega)) _ | refine Below.alloc ?_ (by first | omega | (simp <;> omega)) _ | refine belowCall ?_ (by assumption)))⟩
theorem iExt_any (e p c : Int) (w : World) (h1 : 0 ≤ e) (h2 : e ≤ 10000000) (h5 : -100000000 ≤ c * p) (h6 : c * p ≤ 100000000) :
    Calls Tryd.prog 77 #[.agg #[.int .i64 e, .int .i64 p], .int .i64 c] w fun x w' => x = .returned (.int .i64 (e + c * p)) ∧ Below w.heap.size w w' := by
  go_enter Tryd.func77, Tryd.ntmps77
  go_wp2
  go_ret
  exact ⟨rfl, by (repeat (first | assumption | exact Below.refl _ _ | refine belowDN ?_ _ | refine Below.drew ?_ | refine Below.setCell ?_ (by first | omega | (simp <;> omega)) _ | refine Below.alloc ?_ (by first | omega | (simp <;> omega)) _ | refine belowCall ?_ (by assumption)))⟩
end Go.Proofs.YtbjflgohahmjgaaDoor
