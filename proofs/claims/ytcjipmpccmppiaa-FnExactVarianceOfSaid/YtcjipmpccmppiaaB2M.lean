/- magBetween. -/
import Derived.Test.YtcjipmpccmppiaaB1
namespace Go.Proofs.Ytcjipmpccmppiaa
open Go.ChangeShapes Go.WideShapes Go.ChangeAt Go.RowKit

end Go.Proofs.Ytcjipmpccmppiaa
