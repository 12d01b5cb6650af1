/- magBetween. -/
import Derived.Test.YtidiiladlmaigaaB1
namespace Go.Proofs.Ytidiiladlmaigaa
open Go.ChangeShapes Go.WideShapes Go.ChangeAt Go.RowKit

end Go.Proofs.Ytidiiladlmaigaa
