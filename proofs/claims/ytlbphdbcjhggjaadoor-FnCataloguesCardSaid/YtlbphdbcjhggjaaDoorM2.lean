/- The model's copy of a list (l00Own). -/
import Derived.Test.YtlbphdbcjhggjaaDoorM1
import Derived.Test.YtlbphdbcjhggjaaDoorB3
import Derived.WalkLawsBesides
import Derived.Laws.Rows
namespace Go.Proofs.YtlbphdbcjhggjaaDoor
open Go.ChangeShapes Go.WideShapes Go.ChangeAt Go.RowKit
end Go.Proofs.YtlbphdbcjhggjaaDoor
