/- StarsIn, the model's: a name put into a list. -/
import Derived.Test.YtichcfahmdlndabP0
import Derived.Lib.SliceRun
namespace Go.Proofs.Ytichcfahmdlndab
open Go.ChangeShapes Go.WideShapes Go.ChangeAt Go.RowKit Go.Deep

theorem S_info : (Try.prog.info? 9).map (fun i => (i.zero, i.size, i.bytes)) = some (some (.string ByteArray.empty), 1, 16) := by kernel_rfl
/-- what PutName hands back: the slice itself where it has the name, else a new one -/
def PutPost (v0 : Value) (B T : Nat) (ps : List ByteArray) (nm : ByteArray) (v : Value) (w' : World) : Prop :=
  (nm ∈ ps ∧ v = v0) ∨ (v ≠ .slice none 0 0 ∧ w'.ownsRow B T 1 v (putN ps nm).length ((putN ps nm).map Value.string))
end Go.Proofs.Ytichcfahmdlndab
