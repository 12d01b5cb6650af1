/- Minimum by value and in memory (by gen.py). -/
import Derived.Test.YtbjflgohahmjgaaDoorG0
namespace Go.Proofs.YtbjflgohahmjgaaDoor
open Go.ChangeShapes Go.WideShapes Go.ChangeAt Go.RowKit Go.Deep

abbrev Mi := Int × Int
def mi0 : Mi := (0, 0)
def fldMi (x : Mi) : Nat → Value
  | 0 => .int .i64 x.1
  | _ => .int .i64 x.2
/-- the cells of block b from o on hold x -/
def MiC (w : World) (b o : Nat) (x : Mi) : Prop := b < w.heap.size ∧ ∀ f, f < 2 → w.cell? ⟨b, o + f, none⟩ = some (fldMi x f)
theorem MiC.mono {w w' : World} {b o : Nat} {x : Mi} (h : MiC w b o x) (hb : Below w.heap.size w w') : MiC w' b o x :=
  ⟨Nat.lt_of_lt_of_le h.1 hb.size, fun f hf => by rw [hb.cell (p := ⟨b, o + f, none⟩) h.1]; exact h.2 f hf⟩
theorem MiC.of_block {w w' : World} {b o : Nat} {x : Mi} (h : MiC w b o x) (hs : w.heap.size ≤ w'.heap.size) (e : w'.heap[b]? = w.heap[b]?) : MiC w' b o x :=
  ⟨Nat.lt_of_lt_of_le h.1 hs, fun f hf => by rw [World.cell?_of_block (a := ⟨b, o + f, none⟩) e]; exact h.2 f hf⟩
theorem MiC.parts {w : World} {b o : Nat} {x0 : Int} {x1 : Int} (h : MiC w b o (x0, x1)) : b < w.heap.size ∧ w.cell? ⟨b, o, none⟩ = some (.int .i64 x0) ∧ w.cell? ⟨b, o + 1, none⟩ = some (.int .i64 x1) :=
  ⟨h.1, h.2 0 (by decide), h.2 1 (by decide)⟩
theorem MiC.fresh (w : World) (T : TypeId) (x0 : Int) (x1 : Int) : MiC (w.alloc (.cells #[.int .i64 x0, .int .i64 x1] T)) w.heap.size 0 (x0, x1) :=
  ⟨by simp, fun f hf => by
    rw [Nat.zero_add, World.cell?_alloc_new]
    match f, hf with
    | 0, _ => rfl
    | 1, _ => rfl⟩
theorem MiC.fresh2 (w : World) (T : TypeId) (o : Obj) (x0 : Int) (x1 : Int) : MiC ((w.alloc (.cells #[.int .i64 x0, .int .i64 x1] T)).alloc o) w.heap.size 0 (x0, x1) :=
  (MiC.fresh w T x0 x1).mono ((Below.refl _ _).alloc (Nat.le_refl _) _)
def MiE (x y : Mi) : Bool := x.1 == y.1 && x.2 == y.2
theorem neq_Mi (x0 : Int) (x1 : Int) (y0 : Int) (y1 : Int) (w : World) :
    (binOp .neq 34 (.agg #[.int .i64 x0, .int .i64 x1]) (.agg #[.int .i64 y0, .int .i64 y1])).run Tryd.prog w = .ok (.bool (!MiE (x0, x1) (y0, y1))) w := by
  rw [run_neq_struct]
  cases h0 : (x0 == y0)
  · simp [go_sem, h0, MiE]
  cases h1 : (x1 == y1)
  · simp [go_sem, h0, h1, MiE]
  · simp [go_sem, h0, h1, MiE]
theorem MiE_eq {x y : Mi} (h : MiE x y = true) : x = y := by
  obtain ⟨x0, x1⟩ := x
  obtain ⟨y0, y1⟩ := y
  simp only [MiE, Bool.and_eq_true, beq_iff_eq] at h
  obtain ⟨h0, h1⟩ := h
  subst h0
  subst h1
  rfl
theorem MiE_self (x : Mi) : MiE x x = true := by simp [MiE]
theorem toMi_any (x0 : Int) (x1 : Int) (w : World) :
    Calls Tryd.prog 57 #[.agg #[.int .i64 x0, .int .i64 x1]] w fun e w' => e = .returned (.agg #[.int .i64 x0, .int .i64 x1]) ∧ Below w.heap.size w w' := by
  go_enter Tryd.func57, Tryd.ntmps57
  go_wp2
  exact bodyPost_ret (v := .agg #[.int .i64 x0, .int .i64 x1]) (by simp [results, Tryd.results57, go_sem]) rfl ⟨rfl, by (repeat (first | assumption | exact Below.refl _ _ | refine belowDN ?_ _ | refine Below.drew ?_ | refine Below.setCell ?_ (by first | omega | (simp <;> omega)) _ | refine Below.alloc ?_ (by first | omega | (simp <;> omega)) _ | refine belowCall ?_ (by assumption)))⟩
theorem eqMi_self (x0 : Int) (x1 : Int) (w : World) :
    Calls Tryd.prog 58 #[.agg #[.int .i64 x0, .int .i64 x1], .agg #[.int .i64 x0, .int .i64 x1]] w fun e w' => e = .returned (.bool true) ∧ Below w.heap.size w w' := by
  have h0 := intSelf x0
  have h1 := intSelf x1
  go_enter Tryd.func58, Tryd.ntmps58
  go_wp2
  go_ret
  exact ⟨rfl, by (repeat (first | assumption | exact Below.refl _ _ | refine belowDN ?_ _ | refine Below.drew ?_ | refine Below.setCell ?_ (by first | omega | (simp <;> omega)) _ | refine Below.alloc ?_ (by first | omega | (simp <;> omega)) _ | refine belowCall ?_ (by assumption)))⟩
end Go.Proofs.YtbjflgohahmjgaaDoor
