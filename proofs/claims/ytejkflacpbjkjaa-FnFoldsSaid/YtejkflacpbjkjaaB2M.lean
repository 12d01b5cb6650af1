/- magBetween. -/
import Derived.Test.YtejkflacpbjkjaaB1
namespace Go.Proofs.Ytejkflacpbjkjaa
open Go.ChangeShapes Go.WideShapes Go.ChangeAt Go.RowKit

end Go.Proofs.Ytejkflacpbjkjaa
