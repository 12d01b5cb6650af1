/- magBetween. -/
import Derived.Test.YtbjflgohahmjgaaDoorB1
namespace Go.Proofs.YtbjflgohahmjgaaDoor
open Go.ChangeShapes Go.WideShapes Go.ChangeAt Go.RowKit

end Go.Proofs.YtbjflgohahmjgaaDoor
