/- ResidualsOf, the model's. -/
import Derived.Test.YtbjflgohahmjgaaDoorPD
import Derived.Test.YtbjflgohahmjgaaDoorPF
namespace Go.Proofs.YtbjflgohahmjgaaDoor
open Go.ChangeShapes Go.WideShapes Go.ChangeAt Go.RowKit Go.Deep

end Go.Proofs.YtbjflgohahmjgaaDoor
