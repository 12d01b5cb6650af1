/- magBetween. -/
import Derived.Test.YtejkflacpbjkjaaDoorB1
namespace Go.Proofs.YtejkflacpbjkjaaDoor
open Go.ChangeShapes Go.WideShapes Go.ChangeAt Go.RowKit

end Go.Proofs.YtejkflacpbjkjaaDoor
