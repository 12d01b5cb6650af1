/- Chapter 4: ascensions apart, the box around a star; the program's and the model's. -/
import Derived.Test.YtfnjndbnogeddaaGreatDoorS1
namespace Go.Proofs.YtfnjndbnogeddaaGreatDoor
open Go.ChangeShapes Go.WideShapes Go.ChangeAt Go.RowKit

theorem flipS {P : Program} {f : FuncId} {args : Array Value} {w : World} {v : Value} (h : Calls P f args w fun e w' => e = .returned v ∧ w = w') : Calls P f args w fun e w' => e = .returned v ∧ w' = w :=
  h.mono fun _ _ hh => ⟨hh.1, hh.2.symm⟩
def mn (a b : Int) : Int := if b < a then b else a
def mx (a b : Int) : Int := if a < b then b else a
theorem mn_le {a b : Int} (h : a ≤ b) : mn a b = a := by unfold mn; rw [if_neg (by omega)]
theorem mn_gt {a b : Int} (h : b < a) : mn a b = b := by unfold mn; rw [if_pos h]
theorem mx_le {a b : Int} (h : b ≤ a) : mx a b = a := by unfold mx; rw [if_neg (by omega)]
theorem mx_gt {a b : Int} (h : a < b) : mx a b = b := by unfold mx; rw [if_pos h]
theorem sMin_any (a b : Int) (w : World) :
    Calls Tryz.prog 59 #[.int .i64 a, .int .i64 b] w fun e w' => e = .returned (.int .i64 (mn a b)) ∧ w = w' := by
  by_cases h : a < b
  all_goals
    go_enter Tryz.func59, Tryz.ntmps59
    go_wp2
    go_ret
    exact ⟨ret_int (by simp only [mn]; split <;> omega), rfl⟩
def apV (a b : Int) : Value := if ascB a && ascB b then .tuple #[.int .i64 (mn (a - b).natAbs (86400 - (a - b).natAbs)), .int .i64 0] else .tuple #[.int .i64 0, .int .i64 2]
theorem apV_no {a b : Int} (h : (ascB a && ascB b) = false) : apV a b = .tuple #[.int .i64 0, .int .i64 2] := by simp [apV, h]
theorem apV_yes {a b : Int} (h1 : ascB a = true) (h2 : ascB b = true) : apV a b = .tuple #[.int .i64 (mn (a - b).natAbs (86400 - (a - b).natAbs)), .int .i64 0] := by simp [apV, h1, h2]
end Go.Proofs.YtfnjndbnogeddaaGreatDoor
