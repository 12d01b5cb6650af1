/- magBetween. -/
import Derived.Test.YtbjflgohahmjgaaB1
namespace Go.Proofs.Ytbjflgohahmjgaa
open Go.ChangeShapes Go.WideShapes Go.ChangeAt Go.RowKit

end Go.Proofs.Ytbjflgohahmjgaa
