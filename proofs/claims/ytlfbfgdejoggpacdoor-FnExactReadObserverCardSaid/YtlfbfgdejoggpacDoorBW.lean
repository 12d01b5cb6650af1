/- strings.Builder at this seat's program: the shelf's contracts of WriteByte, WriteString and String, laid by hand (shelf_lay falls at copyCheck's closure: it names a type that no body of it names); a builder stands while what lies below is kept. -/
import Derived.Test.YtlfbfgdejoggpacDoorD1
import Derived.Shelf.Strings.Builder1
import Derived.Test.YtlfbfgdejoggpacDoorProg
namespace Go.Proofs.YtlfbfgdejoggpacDoor
open Go.ChangeShapes Go.WideShapes Go.ChangeAt Go.RowKit
end Go.Proofs.YtlfbfgdejoggpacDoor
