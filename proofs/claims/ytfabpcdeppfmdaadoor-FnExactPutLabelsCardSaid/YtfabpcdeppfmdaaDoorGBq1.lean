/- plotBox by value and in memory (by gen.py). -/
import Derived.Test.YtfabpcdeppfmdaaDoorG0
namespace Go.Proofs.YtfabpcdeppfmdaaDoor
open Go.ChangeShapes Go.WideShapes Go.ChangeAt Go.RowKit Go.Deep

abbrev Bq := Int × Int × Int × Int
def bq0 : Bq := (0, 0, 0, 0)
def fldBq (x : Bq) : Nat → Value
  | 0 => .int .i64 x.1
  | 1 => .int .i64 x.2.1
  | 2 => .int .i64 x.2.2.1
  | _ => .int .i64 x.2.2.2
/-- the cells of block b from o on hold x -/
def BqC (w : World) (b o : Nat) (x : Bq) : Prop := b < w.heap.size ∧ ∀ f, f < 4 → w.cell? ⟨b, o + f, none⟩ = some (fldBq x f)
theorem BqC.mono {w w' : World} {b o : Nat} {x : Bq} (h : BqC w b o x) (hb : Below w.heap.size w w') : BqC w' b o x :=
  ⟨Nat.lt_of_lt_of_le h.1 hb.size, fun f hf => by rw [hb.cell (p := ⟨b, o + f, none⟩) h.1]; exact h.2 f hf⟩
theorem BqC.of_block {w w' : World} {b o : Nat} {x : Bq} (h : BqC w b o x) (hs : w.heap.size ≤ w'.heap.size) (e : w'.heap[b]? = w.heap[b]?) : BqC w' b o x :=
  ⟨Nat.lt_of_lt_of_le h.1 hs, fun f hf => by rw [World.cell?_of_block (a := ⟨b, o + f, none⟩) e]; exact h.2 f hf⟩
theorem BqC.parts {w : World} {b o : Nat} {x0 : Int} {x1 : Int} {x2 : Int} {x3 : Int} (h : BqC w b o (x0, x1, x2, x3)) : b < w.heap.size ∧ w.cell? ⟨b, o, none⟩ = some (.int .i64 x0) ∧ w.cell? ⟨b, o + 1, none⟩ = some (.int .i64 x1) ∧ w.cell? ⟨b, o + 2, none⟩ = some (.int .i64 x2) ∧ w.cell? ⟨b, o + 3, none⟩ = some (.int .i64 x3) :=
  ⟨h.1, h.2 0 (by decide), h.2 1 (by decide), h.2 2 (by decide), h.2 3 (by decide)⟩
theorem BqC.fresh (w : World) (T : TypeId) (x0 : Int) (x1 : Int) (x2 : Int) (x3 : Int) : BqC (w.alloc (.cells #[.int .i64 x0, .int .i64 x1, .int .i64 x2, .int .i64 x3] T)) w.heap.size 0 (x0, x1, x2, x3) :=
  ⟨by simp, fun f hf => by
    rw [Nat.zero_add, World.cell?_alloc_new]
    match f, hf with
    | 0, _ => rfl
    | 1, _ => rfl
    | 2, _ => rfl
    | 3, _ => rfl⟩
theorem BqC.fresh2 (w : World) (T : TypeId) (o : Obj) (x0 : Int) (x1 : Int) (x2 : Int) (x3 : Int) : BqC ((w.alloc (.cells #[.int .i64 x0, .int .i64 x1, .int .i64 x2, .int .i64 x3] T)).alloc o) w.heap.size 0 (x0, x1, x2, x3) :=
  (BqC.fresh w T x0 x1 x2 x3).mono ((Below.refl _ _).alloc (Nat.le_refl _) _)
def BqE (x y : Bq) : Bool := x.1 == y.1 && (x.2.1 == y.2.1 && (x.2.2.1 == y.2.2.1 && x.2.2.2 == y.2.2.2))
theorem neq_Bq (x0 : Int) (x1 : Int) (x2 : Int) (x3 : Int) (y0 : Int) (y1 : Int) (y2 : Int) (y3 : Int) (w : World) :
    (binOp .neq 70 (.agg #[.int .i64 x0, .int .i64 x1, .int .i64 x2, .int .i64 x3]) (.agg #[.int .i64 y0, .int .i64 y1, .int .i64 y2, .int .i64 y3])).run Tryd.prog w = .ok (.bool (!BqE (x0, x1, x2, x3) (y0, y1, y2, y3))) w := by
  rw [run_neq_struct]
  cases h0 : (x0 == y0)
  · simp [go_sem, h0, BqE]
  cases h1 : (x1 == y1)
  · simp [go_sem, h0, h1, BqE]
  cases h2 : (x2 == y2)
  · simp [go_sem, h0, h1, h2, BqE]
  cases h3 : (x3 == y3)
  · simp [go_sem, h0, h1, h2, h3, BqE]
  · simp [go_sem, h0, h1, h2, h3, BqE]
theorem BqE_eq {x y : Bq} (h : BqE x y = true) : x = y := by
  obtain ⟨x0, x1, x2, x3⟩ := x
  obtain ⟨y0, y1, y2, y3⟩ := y
  simp only [BqE, Bool.and_eq_true, beq_iff_eq] at h
  obtain ⟨h0, h1, h2, h3⟩ := h
  subst h0
  subst h1
  subst h2
  subst h3
  rfl
theorem BqE_self (x : Bq) : BqE x x = true := by simp [BqE]
end Go.Proofs.YtfabpcdeppfmdaaDoor
