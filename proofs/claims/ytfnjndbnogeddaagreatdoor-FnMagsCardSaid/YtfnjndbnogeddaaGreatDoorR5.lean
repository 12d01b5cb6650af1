/- ReadTime: the model's walk. -/
import Derived.Test.YtfnjndbnogeddaaGreatDoorR4
namespace Go.Proofs.YtfnjndbnogeddaaGreatDoor
open Go.ChangeShapes Go.WideShapes Go.ChangeAt Go.RowKit

def dgV (l : List UInt8) : Value := if l.all isDg then .tuple #[.int .i64 (dval l), .bool true] else noV
end Go.Proofs.YtfnjndbnogeddaaGreatDoor
