/- Observer by value and in memory (by gen.py). -/
import Derived.Test.YtfnjndbnogeddaaG0
namespace Go.Proofs.Ytfnjndbnogeddaa
open Go.ChangeShapes Go.WideShapes Go.ChangeAt Go.RowKit Go.Deep

abbrev Ob := ByteArray × Int
def ob0 : Ob := (⟨#[]⟩, 0)
def fldOb (x : Ob) : Nat → Value
  | 0 => .string x.1
  | _ => .int .i64 x.2
/-- the cells of block b from o on hold x -/
def ObC (w : World) (b o : Nat) (x : Ob) : Prop := b < w.heap.size ∧ ∀ f, f < 2 → w.cell? ⟨b, o + f, none⟩ = some (fldOb x f)
theorem ObC.mono {w w' : World} {b o : Nat} {x : Ob} (h : ObC w b o x) (hb : Below w.heap.size w w') : ObC w' b o x :=
  ⟨Nat.lt_of_lt_of_le h.1 hb.size, fun f hf => by rw [hb.cell (p := ⟨b, o + f, none⟩) h.1]; exact h.2 f hf⟩
theorem ObC.of_block {w w' : World} {b o : Nat} {x : Ob} (h : ObC w b o x) (hs : w.heap.size ≤ w'.heap.size) (e : w'.heap[b]? = w.heap[b]?) : ObC w' b o x :=
  ⟨Nat.lt_of_lt_of_le h.1 hs, fun f hf => by rw [World.cell?_of_block (a := ⟨b, o + f, none⟩) e]; exact h.2 f hf⟩
theorem ObC.parts {w : World} {b o : Nat} {x0 : ByteArray} {x1 : Int} (h : ObC w b o (x0, x1)) : b < w.heap.size ∧ w.cell? ⟨b, o, none⟩ = some (.string x0) ∧ w.cell? ⟨b, o + 1, none⟩ = some (.int .i64 x1) :=
  ⟨h.1, h.2 0 (by decide), h.2 1 (by decide)⟩
theorem ObC.fresh (w : World) (T : TypeId) (x0 : ByteArray) (x1 : Int) : ObC (w.alloc (.cells #[.string x0, .int .i64 x1] T)) w.heap.size 0 (x0, x1) :=
  ⟨by simp, fun f hf => by
    rw [Nat.zero_add, World.cell?_alloc_new]
    match f, hf with
    | 0, _ => rfl
    | 1, _ => rfl⟩
theorem ObC.fresh2 (w : World) (T : TypeId) (o : Obj) (x0 : ByteArray) (x1 : Int) : ObC ((w.alloc (.cells #[.string x0, .int .i64 x1] T)).alloc o) w.heap.size 0 (x0, x1) :=
  (ObC.fresh w T x0 x1).mono ((Below.refl _ _).alloc (Nat.le_refl _) _)
def ObE (x y : Ob) : Bool := x.1.toList == y.1.toList && x.2 == y.2
theorem ObE_eq {x y : Ob} (h : ObE x y = true) : x = y := by
  obtain ⟨x0, x1⟩ := x
  obtain ⟨y0, y1⟩ := y
  simp only [ObE, Bool.and_eq_true, beq_iff_eq] at h
  obtain ⟨h0, h1⟩ := h
  have e0 : x0 = y0 := by
    rw [ByteArray.toList_eq, ByteArray.toList_eq] at h0
    cases x0; cases y0; simp at h0; rw [h0]
  subst e0
  subst h1
  rfl
theorem ObE_self (x : Ob) : ObE x x = true := by simp [ObE]
end Go.Proofs.Ytfnjndbnogeddaa
