/- Times (both sides) and cmp.Compare at whole numbers. -/
import Derived.Test.YtbjflgohahmjgaaDoorB1
import Derived.Test.YtbjflgohahmjgaaDoorG0
import Derived.Handy
namespace Go.Proofs.YtbjflgohahmjgaaDoor
open Go.ChangeShapes Go.WideShapes Go.ChangeAt Go.RowKit Go.Deep

/-- what cmp.Compare hands back -/
def sgI (x y : Int) : Int := if x < y then -1 else if y < x then 1 else 0
theorem sgI_zero {x y : Int} : sgI x y = 0 ↔ x = y := by unfold sgI; split <;> (try split) <;> omega
theorem sgI_neg {x y : Int} : sgI x y < 0 ↔ x < y := by unfold sgI; split <;> (try split) <;> omega
theorem sgI_rng (x y : Int) : sgI x y = -1 ∨ sgI x y = 0 ∨ sgI x y = 1 := by unfold sgI; split <;> (try split) <;> omega
def tmB (t : Int) : Bool := inB t 0 10000000
theorem iTm_any (t : Int) (w : World) :
    Calls Tryd.prog 75 #[.int .i64 t] w fun e w' => e = .returned (.bool (tmB t)) ∧ w = w' := by
  go_enter Tryd.func75, Tryd.ntmps75
  go_wp2_with (go_at_call 48; refine (inRange_any _ _ _ _).mono ?_; rintro e w' ⟨rfl, rfl⟩)
  go_ret
  exact ⟨rfl, rfl⟩
theorem l06Time_any (t : Int) (w : World) :
    Calls Tryd.prog 68 #[.int .i64 t] w fun e w' => e = .returned (.bool (tmB t)) ∧ w = w' := by
  go_enter Tryd.func68, Tryd.ntmps68
  go_wp2_with (go_at_call 63; refine (l00In_any _ _ _ _).mono ?_; rintro e w' ⟨rfl, rfl⟩)
  go_ret
  exact ⟨rfl, rfl⟩
theorem cmpI_any (x y : Int) (w : World) :
    Calls Tryd.prog 83 #[.int .i64 x, .int .i64 y] w fun e w' => e = .returned (.int .i64 (sgI x y)) ∧ w' = w := by
  have n1 := intSelf x
  have n2 := intSelf y
  by_cases h1 : x < y
  · have HV : Hid (sgI x y = -1) := Lib.hid (by simp [sgI, h1])
    go_enter Tryd.func83, Tryd.ntmps83
    go_wp2
    go_ret
    exact ⟨by rw [HV.out]; rfl, rfl⟩
  by_cases h2 : y < x
  · have HV : Hid (sgI x y = 1) := Lib.hid (by simp [sgI, h1, h2])
    go_enter Tryd.func83, Tryd.ntmps83
    go_wp2
    go_ret
    exact ⟨by rw [HV.out]; rfl, rfl⟩
  · have HV : Hid (sgI x y = 0) := Lib.hid (by simp [sgI, h1, h2])
    go_enter Tryd.func83, Tryd.ntmps83
    go_wp2
    go_ret
    exact ⟨by rw [HV.out]; rfl, rfl⟩
end Go.Proofs.YtbjflgohahmjgaaDoor
