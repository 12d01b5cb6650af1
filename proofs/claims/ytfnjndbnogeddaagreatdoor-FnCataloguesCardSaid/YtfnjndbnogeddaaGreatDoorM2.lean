/- The model's copy of a list (l00Own). -/
import Derived.Test.YtfnjndbnogeddaaGreatDoorM1
import Derived.Test.YtfnjndbnogeddaaGreatDoorB3
import Derived.WalkLawsBesides
import Derived.Laws.Rows
namespace Go.Proofs.YtfnjndbnogeddaaGreatDoor
open Go.ChangeShapes Go.WideShapes Go.ChangeAt Go.RowKit
end Go.Proofs.YtfnjndbnogeddaaGreatDoor
