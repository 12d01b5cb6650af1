/- Contracts of chapter 3's functions of times (no dates, no texts), the program's and the model's, over one seat's translation. -/
import Derived.Test.YtfnjndbnogeddaaGreatDoorB1
namespace Go.Proofs.YtfnjndbnogeddaaGreatDoor
open Go.ChangeShapes Go.WideShapes Go.ChangeAt Go.RowKit

def timB (t : Int) : Bool := inB t 0 10000000
theorem timB_iff {t : Int} : timB t = true ↔ 0 ≤ t ∧ t ≤ 10000000 := inB_iff
def pr (a b : Int) : Value := .tuple #[.int .i64 a, .int .i64 b]
def dayV (t : Int) : Value := if timB t then pr (t / 10000) 0 else pr 0 2
def clkV (t : Int) : Value := if timB t then .tuple #[.int .i64 (t % 10000 * 1440 / 10000 / 60), .int .i64 (t % 10000 * 1440 / 10000 % 60), .int .i64 0] else .tuple #[.int .i64 0, .int .i64 0, .int .i64 2]
def tmN (d h m : Int) : Int := d * 10000 + ((60 * h + m) * 10000 + 1439) / 1440
def tmOk (d h m : Int) : Bool := inB d 0 100000 && inB h 0 23 && inB m 0 59
def tmV (d h m : Int) : Value := if tmOk d h m then (if timB (tmN d h m) then pr (tmN d h m) 0 else pr 0 5) else pr 0 2
def wkV (d : Int) : Value := if inB d 0 100000 then pr (d % 7 + 1) 0 else pr 0 2
def hrV (a b : Int) : Value := if timB a && timB b then .tuple #[.agg #[.int .i64 (lowN (24 * (b - a)) 10000), .int .i64 (lowD (24 * (b - a)) 10000)], .int .i64 0] else .tuple #[.agg #[.int .i64 0, .int .i64 0], .int .i64 2]
theorem pr_form_day (t : Int) : ∃ m c, dayV t = .tuple #[.int .i64 m, .int .i64 c] := by
  unfold dayV pr; split <;> exact ⟨_, _, rfl⟩
theorem pr_form_wk (t : Int) : ∃ m c, wkV t = .tuple #[.int .i64 m, .int .i64 c] := by
  unfold wkV pr; split <;> exact ⟨_, _, rfl⟩
theorem pr_form_clk (t : Int) : ∃ m n c, clkV t = .tuple #[.int .i64 m, .int .i64 n, .int .i64 c] := by
  unfold clkV; split <;> exact ⟨_, _, _, rfl⟩
theorem pr_form_tm (d h m : Int) : ∃ x c, tmV d h m = .tuple #[.int .i64 x, .int .i64 c] := by
  unfold tmV pr; split
  · split <;> exact ⟨_, _, rfl⟩
  · exact ⟨_, _, rfl⟩
theorem pr_form_hr (a b : Int) : ∃ m d c, hrV a b = .tuple #[.agg #[.int .i64 m, .int .i64 d], .int .i64 c] := by
  unfold hrV; split <;> exact ⟨_, _, _, rfl⟩
end Go.Proofs.YtfnjndbnogeddaaGreatDoor
