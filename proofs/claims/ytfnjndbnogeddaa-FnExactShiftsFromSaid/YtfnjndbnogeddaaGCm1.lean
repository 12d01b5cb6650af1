/- Common by value and in memory (by gen.py). -/
import Derived.Test.YtfnjndbnogeddaaG0
namespace Go.Proofs.Ytfnjndbnogeddaa
open Go.ChangeShapes Go.WideShapes Go.ChangeAt Go.RowKit Go.Deep

abbrev Cm := Int × Int × Int
def cm0 : Cm := (0, 0, 0)
def fldCm (x : Cm) : Nat → Value
  | 0 => .int .i64 x.1
  | 1 => .int .i64 x.2.1
  | _ => .int .i64 x.2.2
/-- the cells of block b from o on hold x -/
def CmC (w : World) (b o : Nat) (x : Cm) : Prop := b < w.heap.size ∧ ∀ f, f < 3 → w.cell? ⟨b, o + f, none⟩ = some (fldCm x f)
theorem CmC.mono {w w' : World} {b o : Nat} {x : Cm} (h : CmC w b o x) (hb : Below w.heap.size w w') : CmC w' b o x :=
  ⟨Nat.lt_of_lt_of_le h.1 hb.size, fun f hf => by rw [hb.cell (p := ⟨b, o + f, none⟩) h.1]; exact h.2 f hf⟩
theorem CmC.of_block {w w' : World} {b o : Nat} {x : Cm} (h : CmC w b o x) (hs : w.heap.size ≤ w'.heap.size) (e : w'.heap[b]? = w.heap[b]?) : CmC w' b o x :=
  ⟨Nat.lt_of_lt_of_le h.1 hs, fun f hf => by rw [World.cell?_of_block (a := ⟨b, o + f, none⟩) e]; exact h.2 f hf⟩
theorem CmC.parts {w : World} {b o : Nat} {x0 : Int} {x1 : Int} {x2 : Int} (h : CmC w b o (x0, x1, x2)) : b < w.heap.size ∧ w.cell? ⟨b, o, none⟩ = some (.int .i64 x0) ∧ w.cell? ⟨b, o + 1, none⟩ = some (.int .i64 x1) ∧ w.cell? ⟨b, o + 2, none⟩ = some (.int .i64 x2) :=
  ⟨h.1, h.2 0 (by decide), h.2 1 (by decide), h.2 2 (by decide)⟩
theorem CmC.fresh (w : World) (T : TypeId) (x0 : Int) (x1 : Int) (x2 : Int) : CmC (w.alloc (.cells #[.int .i64 x0, .int .i64 x1, .int .i64 x2] T)) w.heap.size 0 (x0, x1, x2) :=
  ⟨by simp, fun f hf => by
    rw [Nat.zero_add, World.cell?_alloc_new]
    match f, hf with
    | 0, _ => rfl
    | 1, _ => rfl
    | 2, _ => rfl⟩
theorem CmC.fresh2 (w : World) (T : TypeId) (o : Obj) (x0 : Int) (x1 : Int) (x2 : Int) : CmC ((w.alloc (.cells #[.int .i64 x0, .int .i64 x1, .int .i64 x2] T)).alloc o) w.heap.size 0 (x0, x1, x2) :=
  (CmC.fresh w T x0 x1 x2).mono ((Below.refl _ _).alloc (Nat.le_refl _) _)
def CmE (x y : Cm) : Bool := x.1 == y.1 && (x.2.1 == y.2.1 && x.2.2 == y.2.2)
theorem neq_Cm (x0 : Int) (x1 : Int) (x2 : Int) (y0 : Int) (y1 : Int) (y2 : Int) (w : World) :
    (binOp .neq 67 (.agg #[.int .i64 x0, .int .i64 x1, .int .i64 x2]) (.agg #[.int .i64 y0, .int .i64 y1, .int .i64 y2])).run Try.prog w = .ok (.bool (!CmE (x0, x1, x2) (y0, y1, y2))) w := by
  rw [run_neq_struct]
  cases h0 : (x0 == y0)
  · simp [go_sem, h0, CmE]
  cases h1 : (x1 == y1)
  · simp [go_sem, h0, h1, CmE]
  cases h2 : (x2 == y2)
  · simp [go_sem, h0, h1, h2, CmE]
  · simp [go_sem, h0, h1, h2, CmE]
theorem CmE_eq {x y : Cm} (h : CmE x y = true) : x = y := by
  obtain ⟨x0, x1, x2⟩ := x
  obtain ⟨y0, y1, y2⟩ := y
  simp only [CmE, Bool.and_eq_true, beq_iff_eq] at h
  obtain ⟨h0, h1, h2⟩ := h
  subst h0
  subst h1
  subst h2
  rfl
theorem CmE_self (x : Cm) : CmE x x = true := by simp [CmE]
theorem toCm_any (x0 : Int) (x1 : Int) (x2 : Int) (w : World) :
    Calls Try.prog 40 #[.agg #[.int .i64 x0, .int .i64 x1, .int .i64 x2]] w fun e w' => e = .returned (.agg #[.int .i64 x0, .int .i64 x1, .int .i64 x2]) ∧ Below w.heap.size w w' := by
  go_enter Try.func40, Try.ntmps40
  go_wp2
  exact bodyPost_ret (v := .agg #[.int .i64 x0, .int .i64 x1, .int .i64 x2]) (by simp [results, Try.results40, go_sem]) rfl ⟨rfl, by (repeat (first | assumption | exact Below.refl _ _ | refine belowDN ?_ _ | refine Below.drew ?_ | refine Below.setCell ?_ (by first | omega | (simp <;> omega)) _ | refine Below.alloc ?_ (by first | omega | (simp <;> omega)) _ | refine belowCall ?_ (by assumption)))⟩
theorem eqCm_self (x0 : Int) (x1 : Int) (x2 : Int) (w : World) :
    Calls Try.prog 45 #[.agg #[.int .i64 x0, .int .i64 x1, .int .i64 x2], .agg #[.int .i64 x0, .int .i64 x1, .int .i64 x2]] w fun e w' => e = .returned (.bool true) ∧ Below w.heap.size w w' := by
  have h0 := intSelf x0
  have h1 := intSelf x1
  have h2 := intSelf x2
  go_enter Try.func45, Try.ntmps45
  go_wp2
  go_ret
  exact ⟨rfl, by (repeat (first | assumption | exact Below.refl _ _ | refine belowDN ?_ _ | refine Below.drew ?_ | refine Below.setCell ?_ (by first | omega | (simp <;> omega)) _ | refine Below.alloc ?_ (by first | omega | (simp <;> omega)) _ | refine belowCall ?_ (by assumption)))⟩
end Go.Proofs.Ytfnjndbnogeddaa
