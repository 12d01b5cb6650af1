/- Ephemerides: the methods, the codes, single times; both sides. -/
import Derived.Test.YtejkflacpbjkjabDoorF0
import Derived.Test.YtejkflacpbjkjabDoorGPt1
import Derived.Test.YtejkflacpbjkjabDoorB3
import Derived.Deep.RegionHeld3
namespace Go.Proofs.YtejkflacpbjkjabDoor
open Go.ChangeShapes Go.WideShapes Go.ChangeAt Go.RowKit Go.Deep

theorem toEp_any (e p : Int) (w : World) :
    Calls Tryd.prog 7 #[.agg #[.int .i64 e, .int .i64 p]] w fun x w' => x = .returned (.agg #[.int .i64 e, .int .i64 p]) ∧ Below w.heap.size w w' := by
  go_enter Tryd.func7, Tryd.ntmps7
  go_wp2
  exact bodyPost_ret (v := .agg #[.int .i64 e, .int .i64 p]) (by simp [results, Tryd.results7, go_sem]) rfl ⟨rfl, by (repeat (first | assumption | exact Below.refl _ _ | refine belowDN ?_ _ | refine Below.drew ?_ | refine Below.setCell ?_ (by first | omega | (simp <;> omega)) _ | refine Below.alloc ?_ (by first | omega | (simp <;> omega)) _ | refine belowCall ?_ (by assumption)))⟩
theorem isPer_any (p : Int) (w : World) :
    Calls Tryd.prog 41 #[.int .i64 p] w fun e w' => e = .returned (.bool (perB p)) ∧ w = w' := by
  go_enter Tryd.func41, Tryd.ntmps41
  go_wp2_with (go_at_call 56; refine (inRange_any _ _ _ _).mono ?_; rintro e w' ⟨rfl, rfl⟩)
  go_ret
  exact ⟨rfl, rfl⟩
theorem l09Per_any (p : Int) (w : World) :
    Calls Tryd.prog 39 #[.int .i64 p] w fun e w' => e = .returned (.bool (perB p)) ∧ w = w' := by
  go_enter Tryd.func39, Tryd.ntmps39
  go_wp2_with (go_at_call 55; refine (l00In_any _ _ _ _).mono ?_; rintro e w' ⟨rfl, rfl⟩)
  go_ret
  exact ⟨rfl, rfl⟩
theorem iValidEp_any (e p : Int) (w : World) :
    Calls Tryd.prog 20 #[.agg #[.int .i64 e, .int .i64 p]] w fun x w' => x = .returned (.bool (ephB e p)) ∧ Below w.heap.size w w' := by
  cases h0 : tmB e
  all_goals
    go_enter Tryd.func20, Tryd.ntmps20
    go_wp2_with (first | (go_at_call 40; refine (iTm_any _ _).mono ?_; rintro x w' ⟨rfl, rfl⟩) | (go_at_call 41; refine (isPer_any _ _).mono ?_; rintro x w' ⟨rfl, rfl⟩))
    go_ret
    exact ⟨by simp [ephB, h0], by (repeat (first | assumption | exact Below.refl _ _ | refine belowDN ?_ _ | refine Below.drew ?_ | refine Below.setCell ?_ (by first | omega | (simp <;> omega)) _ | refine Below.alloc ?_ (by first | omega | (simp <;> omega)) _ | refine belowCall ?_ (by assumption)))⟩
theorem l09Ok_any (e p : Int) (w : World) :
    Calls Tryd.prog 18 #[.agg #[.int .i64 e, .int .i64 p]] w fun x w' => x = .returned (.bool (ephB e p)) ∧ Below w.heap.size w w' := by
  cases h0 : tmB e
  all_goals
    go_enter Tryd.func18, Tryd.ntmps18
    go_wp2_with (first | (go_at_call 38; refine (l06Time_any _ _).mono ?_; rintro x w' ⟨rfl, rfl⟩) | (go_at_call 39; refine (l09Per_any _ _).mono ?_; rintro x w' ⟨rfl, rfl⟩))
    go_ret
    exact ⟨by simp [ephB, h0], by (repeat (first | assumption | exact Below.refl _ _ | refine belowDN ?_ _ | refine Below.drew ?_ | refine Below.setCell ?_ (by first | omega | (simp <;> omega)) _ | refine Below.alloc ?_ (by first | omega | (simp <;> omega)) _ | refine belowCall ?_ (by assumption)))⟩
end Go.Proofs.YtejkflacpbjkjabDoor
