/- A row of cells as marks see it. -/
import Derived.Test.YtbjflgohahmjgaaDoorG0
namespace Go.Proofs.YtbjflgohahmjgaaDoor
open Go.ChangeShapes Go.WideShapes Go.ChangeAt Go.RowKit Go.Deep

theorem SMG.of_row {w : World} {g N : Nat} {T : TypeId} {f : Nat → Value} {k : Nat → Option Value} (h : w.rowIs g T N f) (hk : ∀ j, k j = none) : SMG w g N k := fun j hj =>
  ⟨h.lt, ⟨_, h.cell hj, fun u hu => by rw [hk] at hu; cases hu⟩, h.frozen j⟩
end Go.Proofs.YtbjflgohahmjgaaDoor
