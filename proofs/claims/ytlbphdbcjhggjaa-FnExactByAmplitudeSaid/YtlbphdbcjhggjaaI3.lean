/- VisibleAt, the program's. -/
import Derived.Test.YtlbphdbcjhggjaaI2
import Derived.Lib.SmallJoins
namespace Go.Proofs.Ytlbphdbcjhggjaa
open Go.ChangeShapes Go.WideShapes Go.ChangeAt Go.RowKit
/-- what a function that chooses stars hands back: a slice of the call's own (nil where it is empty), or nil and a code -/
def ChosenI (B : Nat) (good : Bool) (code : Int) (zs : List Int) (w' : World) (e : Ending) : Prop :=
  (good = true ∧ ∃ v, e = .returned (.tuple #[v, .int .i64 0]) ∧ w'.ownsRow B 2 1 v zs.length (zs.map (Value.int .i64))) ∨
  (good = false ∧ e = .returned (.tuple #[.slice none 0 0, .int .i64 code]))
end Go.Proofs.Ytlbphdbcjhggjaa
