/- magBetween. -/
import Derived.Test.YtkjdkjnhfdcafaaB1
namespace Go.Proofs.Ytkjdkjnhfdcafaa
open Go.ChangeShapes Go.WideShapes Go.ChangeAt Go.RowKit

end Go.Proofs.Ytkjdkjnhfdcafaa
