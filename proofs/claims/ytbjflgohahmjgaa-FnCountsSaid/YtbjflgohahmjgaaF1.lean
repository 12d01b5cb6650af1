/- Ephemerides: the methods, the codes, single times; both sides. -/
import Derived.Test.YtbjflgohahmjgaaF0
import Derived.Test.YtbjflgohahmjgaaGPt1
import Derived.Test.YtbjflgohahmjgaaB3
import Derived.Deep.RegionHeld3
namespace Go.Proofs.Ytbjflgohahmjgaa
open Go.ChangeShapes Go.WideShapes Go.ChangeAt Go.RowKit Go.Deep

theorem toEp_any (e p : Int) (w : World) :
    Calls Try.prog 22 #[.agg #[.int .i64 e, .int .i64 p]] w fun x w' => x = .returned (.agg #[.int .i64 e, .int .i64 p]) ∧ Below w.heap.size w w' := by
  go_enter Try.func22, Try.ntmps22
  go_wp2
  exact bodyPost_ret (v := .agg #[.int .i64 e, .int .i64 p]) (by simp [results, Try.results22, go_sem]) rfl ⟨rfl, by (repeat (first | assumption | exact Below.refl _ _ | refine belowDN ?_ _ | refine Below.drew ?_ | refine Below.setCell ?_ (by first | omega | (simp <;> omega)) _ | refine Below.alloc ?_ (by first | omega | (simp <;> omega)) _ | refine belowCall ?_ (by assumption)))⟩
theorem isPer_any (p : Int) (w : World) :
    Calls Try.prog 40 #[.int .i64 p] w fun e w' => e = .returned (.bool (perB p)) ∧ w = w' := by
  go_enter Try.func40, Try.ntmps40
  go_wp2_with (go_at_call 64; refine (inRange_any _ _ _ _).mono ?_; rintro e w' ⟨rfl, rfl⟩)
  go_ret
  exact ⟨rfl, rfl⟩
theorem l09Per_any (p : Int) (w : World) :
    Calls Try.prog 60 #[.int .i64 p] w fun e w' => e = .returned (.bool (perB p)) ∧ w = w' := by
  go_enter Try.func60, Try.ntmps60
  go_wp2_with (go_at_call 52; refine (l00In_any _ _ _ _).mono ?_; rintro e w' ⟨rfl, rfl⟩)
  go_ret
  exact ⟨rfl, rfl⟩
theorem iValidEp_any (e p : Int) (w : World) :
    Calls Try.prog 49 #[.agg #[.int .i64 e, .int .i64 p]] w fun x w' => x = .returned (.bool (ephB e p)) ∧ Below w.heap.size w w' := by
  cases h0 : tmB e
  all_goals
    go_enter Try.func49, Try.ntmps49
    go_wp2_with (first | (go_at_call 39; refine (iTm_any _ _).mono ?_; rintro x w' ⟨rfl, rfl⟩) | (go_at_call 40; refine (isPer_any _ _).mono ?_; rintro x w' ⟨rfl, rfl⟩))
    go_ret
    exact ⟨by simp [ephB, h0], by (repeat (first | assumption | exact Below.refl _ _ | refine belowDN ?_ _ | refine Below.drew ?_ | refine Below.setCell ?_ (by first | omega | (simp <;> omega)) _ | refine Below.alloc ?_ (by first | omega | (simp <;> omega)) _ | refine belowCall ?_ (by assumption)))⟩
theorem l09Ok_any (e p : Int) (w : World) :
    Calls Try.prog 47 #[.agg #[.int .i64 e, .int .i64 p]] w fun x w' => x = .returned (.bool (ephB e p)) ∧ Below w.heap.size w w' := by
  cases h0 : tmB e
  all_goals
    go_enter Try.func47, Try.ntmps47
    go_wp2_with (first | (go_at_call 59; refine (l06Time_any _ _).mono ?_; rintro x w' ⟨rfl, rfl⟩) | (go_at_call 60; refine (l09Per_any _ _).mono ?_; rintro x w' ⟨rfl, rfl⟩))
    go_ret
    exact ⟨by simp [ephB, h0], by (repeat (first | assumption | exact Below.refl _ _ | refine belowDN ?_ _ | refine Below.drew ?_ | refine Below.setCell ?_ (by first | omega | (simp <;> omega)) _ | refine Below.alloc ?_ (by first | omega | (simp <;> omega)) _ | refine belowCall ?_ (by assumption)))⟩
theorem iExt_any (e p c : Int) (w : World) (h1 : 0 ≤ e) (h2 : e ≤ 10000000) (h5 : -100000000 ≤ c * p) (h6 : c * p ≤ 100000000) :
    Calls Try.prog 67 #[.agg #[.int .i64 e, .int .i64 p], .int .i64 c] w fun x w' => x = .returned (.int .i64 (e + c * p)) ∧ Below w.heap.size w w' := by
  go_enter Try.func67, Try.ntmps67
  go_wp2
  go_ret
  exact ⟨rfl, by (repeat (first | assumption | exact Below.refl _ _ | refine belowDN ?_ _ | refine Below.drew ?_ | refine Below.setCell ?_ (by first | omega | (simp <;> omega)) _ | refine Below.alloc ?_ (by first | omega | (simp <;> omega)) _ | refine belowCall ?_ (by assumption)))⟩
end Go.Proofs.Ytbjflgohahmjgaa
