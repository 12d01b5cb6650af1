/- Point by value and in memory (by gen.py). -/
import Derived.Test.YtbjflgohahmjgaaDoorG0
namespace Go.Proofs.YtbjflgohahmjgaaDoor
open Go.ChangeShapes Go.WideShapes Go.ChangeAt Go.RowKit Go.Deep

abbrev Pt := Int × Int
def pt0 : Pt := (0, 0)
def fldPt (x : Pt) : Nat → Value
  | 0 => .int .i64 x.1
  | _ => .int .i64 x.2
/-- the cells of block b from o on hold x -/
def PtC (w : World) (b o : Nat) (x : Pt) : Prop := b < w.heap.size ∧ ∀ f, f < 2 → w.cell? ⟨b, o + f, none⟩ = some (fldPt x f)
theorem PtC.mono {w w' : World} {b o : Nat} {x : Pt} (h : PtC w b o x) (hb : Below w.heap.size w w') : PtC w' b o x :=
  ⟨Nat.lt_of_lt_of_le h.1 hb.size, fun f hf => by rw [hb.cell (p := ⟨b, o + f, none⟩) h.1]; exact h.2 f hf⟩
theorem PtC.of_block {w w' : World} {b o : Nat} {x : Pt} (h : PtC w b o x) (hs : w.heap.size ≤ w'.heap.size) (e : w'.heap[b]? = w.heap[b]?) : PtC w' b o x :=
  ⟨Nat.lt_of_lt_of_le h.1 hs, fun f hf => by rw [World.cell?_of_block (a := ⟨b, o + f, none⟩) e]; exact h.2 f hf⟩
theorem PtC.parts {w : World} {b o : Nat} {x0 : Int} {x1 : Int} (h : PtC w b o (x0, x1)) : b < w.heap.size ∧ w.cell? ⟨b, o, none⟩ = some (.int .i64 x0) ∧ w.cell? ⟨b, o + 1, none⟩ = some (.int .i64 x1) :=
  ⟨h.1, h.2 0 (by decide), h.2 1 (by decide)⟩
theorem PtC.fresh (w : World) (T : TypeId) (x0 : Int) (x1 : Int) : PtC (w.alloc (.cells #[.int .i64 x0, .int .i64 x1] T)) w.heap.size 0 (x0, x1) :=
  ⟨by simp, fun f hf => by
    rw [Nat.zero_add, World.cell?_alloc_new]
    match f, hf with
    | 0, _ => rfl
    | 1, _ => rfl⟩
theorem PtC.fresh2 (w : World) (T : TypeId) (o : Obj) (x0 : Int) (x1 : Int) : PtC ((w.alloc (.cells #[.int .i64 x0, .int .i64 x1] T)).alloc o) w.heap.size 0 (x0, x1) :=
  (PtC.fresh w T x0 x1).mono ((Below.refl _ _).alloc (Nat.le_refl _) _)
def PtE (x y : Pt) : Bool := x.1 == y.1 && x.2 == y.2
theorem PtE_eq {x y : Pt} (h : PtE x y = true) : x = y := by
  obtain ⟨x0, x1⟩ := x
  obtain ⟨y0, y1⟩ := y
  simp only [PtE, Bool.and_eq_true, beq_iff_eq] at h
  obtain ⟨h0, h1⟩ := h
  subst h0
  subst h1
  rfl
theorem PtE_self (x : Pt) : PtE x x = true := by simp [PtE]
end Go.Proofs.YtbjflgohahmjgaaDoor
