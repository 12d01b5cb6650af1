/- ValidChart, the model's. -/
import Derived.Test.YtfabpcdeppfmdabDoorH1
namespace Go.Proofs.YtfabpcdeppfmdabDoor
open Go.ChangeShapes Go.WideShapes Go.ChangeAt Go.RowKit Go.Deep

end Go.Proofs.YtfabpcdeppfmdabDoor
