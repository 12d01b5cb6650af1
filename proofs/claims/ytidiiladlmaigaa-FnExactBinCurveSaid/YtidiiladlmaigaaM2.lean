/- The model's copy of a list (l00Own). -/
import Derived.Test.YtidiiladlmaigaaM1
import Derived.Test.YtidiiladlmaigaaB3
import Derived.WalkLawsBesides
import Derived.Laws.Rows
namespace Go.Proofs.Ytidiiladlmaigaa
open Go.ChangeShapes Go.WideShapes Go.ChangeAt Go.RowKit
end Go.Proofs.Ytidiiladlmaigaa
