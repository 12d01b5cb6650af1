/- Times (both sides) and cmp.Compare at whole numbers. -/
import Derived.Test.YtejkflacpbjkjaaDoorB1
import Derived.Test.YtejkflacpbjkjaaDoorG0
import Derived.Handy
namespace Go.Proofs.YtejkflacpbjkjaaDoor
open Go.ChangeShapes Go.WideShapes Go.ChangeAt Go.RowKit Go.Deep

/-- what cmp.Compare hands back -/
def sgI (x y : Int) : Int := if x < y then -1 else if y < x then 1 else 0
theorem sgI_zero {x y : Int} : sgI x y = 0 ↔ x = y := by unfold sgI; split <;> (try split) <;> omega
theorem sgI_neg {x y : Int} : sgI x y < 0 ↔ x < y := by unfold sgI; split <;> (try split) <;> omega
theorem sgI_rng (x y : Int) : sgI x y = -1 ∨ sgI x y = 0 ∨ sgI x y = 1 := by unfold sgI; split <;> (try split) <;> omega
def tmB (t : Int) : Bool := inB t 0 10000000
theorem iTm_any (t : Int) (w : World) :
    Calls Tryd.prog 34 #[.int .i64 t] w fun e w' => e = .returned (.bool (tmB t)) ∧ w = w' := by
  go_enter Tryd.func34, Tryd.ntmps34
  go_wp2_with (go_at_call 45; refine (inRange_any _ _ _ _).mono ?_; rintro e w' ⟨rfl, rfl⟩)
  go_ret
  exact ⟨rfl, rfl⟩
theorem l06Time_any (t : Int) (w : World) :
    Calls Tryd.prog 41 #[.int .i64 t] w fun e w' => e = .returned (.bool (tmB t)) ∧ w = w' := by
  go_enter Tryd.func41, Tryd.ntmps41
  go_wp2_with (go_at_call 49; refine (l00In_any _ _ _ _).mono ?_; rintro e w' ⟨rfl, rfl⟩)
  go_ret
  exact ⟨rfl, rfl⟩
end Go.Proofs.YtejkflacpbjkjaaDoor
