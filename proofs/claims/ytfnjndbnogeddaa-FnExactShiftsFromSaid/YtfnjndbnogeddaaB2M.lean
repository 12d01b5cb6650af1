/- magBetween. -/
import Derived.Test.YtfnjndbnogeddaaB1
namespace Go.Proofs.Ytfnjndbnogeddaa
open Go.ChangeShapes Go.WideShapes Go.ChangeAt Go.RowKit

end Go.Proofs.Ytfnjndbnogeddaa
