/- InBox, the model's. -/
import Derived.Test.YtlbphdbcjhggjaaSF
import Derived.Test.YtlbphdbcjhggjaaSE
import Derived.Test.YtlbphdbcjhggjaaI2
import Derived.Lib.SmallJoins
namespace Go.Proofs.Ytlbphdbcjhggjaa
open Go.ChangeShapes Go.WideShapes Go.ChangeAt Go.RowKit Go.Deep

/-- the four numbers of a box -/
abbrev boxV (fa ta fd td : Int) : Value := .agg #[.int .i64 fa, .int .i64 ta, .int .i64 fd, .int .i64 td]
theorem BxC.fresh (w : World) (T : TypeId) (fa ta fd td : Int) : BxC (w.alloc (.cells #[.int .i64 fa, .int .i64 ta, .int .i64 fd, .int .i64 td] T)) w.heap.size 0 fa ta fd td :=
  ⟨by simp, by rw [World.cell?_alloc_new]; rfl, by rw [World.cell?_alloc_new]; rfl, by rw [World.cell?_alloc_new]; rfl, by rw [World.cell?_alloc_new]; rfl⟩
end Go.Proofs.Ytlbphdbcjhggjaa
