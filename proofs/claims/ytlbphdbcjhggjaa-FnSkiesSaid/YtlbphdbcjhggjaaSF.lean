/- The model's boxes: l04Box, l04In. -/
import Derived.Test.YtlbphdbcjhggjaaSQ
namespace Go.Proofs.Ytlbphdbcjhggjaa
open Go.ChangeShapes Go.WideShapes Go.ChangeAt Go.RowKit

def boxOk (fa ta fd td : Int) : Bool := ascB fa && ascB ta && decB fd && decB td && decide (fd ≤ td)
/-- the star x lies in the box -/
def inP (fa ta fd td : Int) (x : St) : Bool := inB x.2.2.1 fd td && (if fa ≤ ta then inB x.2.1 fa ta else (decide (fa ≤ x.2.1) || decide (x.2.1 ≤ ta)))
/-- the four cells of block b from o on hold a box -/
def BxC (w : World) (b o : Nat) (fa ta fd td : Int) : Prop := b < w.heap.size ∧ w.cell? ⟨b, o, none⟩ = some (.int .i64 fa) ∧ w.cell? ⟨b, o + 1, none⟩ = some (.int .i64 ta) ∧ w.cell? ⟨b, o + 2, none⟩ = some (.int .i64 fd) ∧ w.cell? ⟨b, o + 3, none⟩ = some (.int .i64 td)
theorem BxC.mono {w w' : World} {b o : Nat} {fa ta fd td : Int} (h : BxC w b o fa ta fd td) (hb : Below w.heap.size w w') : BxC w' b o fa ta fd td := by
  obtain ⟨h1, h2, h3, h4, h5⟩ := h
  exact ⟨Nat.lt_of_lt_of_le h1 hb.size, (hb.cell (p := ⟨b, o, none⟩) h1).trans h2, (hb.cell (p := ⟨b, o + 1, none⟩) h1).trans h3, (hb.cell (p := ⟨b, o + 2, none⟩) h1).trans h4, (hb.cell (p := ⟨b, o + 3, none⟩) h1).trans h5⟩
end Go.Proofs.Ytlbphdbcjhggjaa
