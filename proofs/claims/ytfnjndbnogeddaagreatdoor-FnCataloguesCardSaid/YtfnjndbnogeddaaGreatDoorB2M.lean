/- magBetween. -/
import Derived.Test.YtfnjndbnogeddaaGreatDoorB1
namespace Go.Proofs.YtfnjndbnogeddaaGreatDoor
open Go.ChangeShapes Go.WideShapes Go.ChangeAt Go.RowKit

theorem magBetw_any (a b p q : Int) (w : World) (h1 : 1 ≤ p + q) (h2 : p + q ≤ 1000000000000) (h3 : -400000000000000000 ≤ a * q) (h4 : a * q ≤ 400000000000000000) (h5 : -400000000000000000 ≤ b * p) (h6 : b * p ≤ 400000000000000000) :
    Calls Tryz.prog 47 #[.int .i64 a, .int .i64 b, .int .i64 p, .int .i64 q] w fun e w' => e = .returned (.int .i64 (rnd (a * q + b * p) (p + q))) ∧ Below w.heap.size w w' := by
  go_enter Tryz.func47, Tryz.ntmps47
  go_wp2_with (go_at_call 50; refine (nearest_any _ _ _ (by omega) (by omega) (by omega) (by omega)).mono ?_; rintro e w' ⟨rfl, hbel⟩)
  go_ret
  exact ⟨rfl, by (repeat (first | assumption | exact Below.refl _ _ | refine belowDN ?_ _ | refine Below.drew ?_ | refine Below.setCell ?_ (by first | omega | (simp <;> omega)) _ | refine Below.alloc ?_ (by first | omega | (simp <;> omega)) _ | refine belowCall ?_ (by assumption)))⟩
end Go.Proofs.YtfnjndbnogeddaaGreatDoor
