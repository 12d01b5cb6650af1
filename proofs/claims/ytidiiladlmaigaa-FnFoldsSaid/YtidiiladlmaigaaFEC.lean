/- FoldOrder with its list's room: stands in FE. -/
import Derived.Test.YtidiiladlmaigaaFE
namespace Go.Proofs.Ytidiiladlmaigaa
end Go.Proofs.Ytidiiladlmaigaa
