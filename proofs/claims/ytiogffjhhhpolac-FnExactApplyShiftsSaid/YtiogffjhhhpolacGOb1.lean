/- Observer by value and in memory (by gen.py). -/
import Derived.Test.YtiogffjhhhpolacG0
namespace Go.Proofs.Ytiogffjhhhpolac
open Go.ChangeShapes Go.WideShapes Go.ChangeAt Go.RowKit Go.Deep

abbrev Ob := ByteArray × Int
def ob0 : Ob := (⟨#[]⟩, 0)
def fldOb (x : Ob) : Nat → Value
  | 0 => .string x.1
  | _ => .int .i64 x.2
/-- the cells of block b from o on hold x -/
def ObC (w : World) (b o : Nat) (x : Ob) : Prop := b < w.heap.size ∧ ∀ f, f < 2 → w.cell? ⟨b, o + f, none⟩ = some (fldOb x f)
theorem ObC.mono {w w' : World} {b o : Nat} {x : Ob} (h : ObC w b o x) (hb : Below w.heap.size w w') : ObC w' b o x :=
  ⟨Nat.lt_of_lt_of_le h.1 hb.size, fun f hf => by rw [hb.cell (p := ⟨b, o + f, none⟩) h.1]; exact h.2 f hf⟩
theorem ObC.of_block {w w' : World} {b o : Nat} {x : Ob} (h : ObC w b o x) (hs : w.heap.size ≤ w'.heap.size) (e : w'.heap[b]? = w.heap[b]?) : ObC w' b o x :=
  ⟨Nat.lt_of_lt_of_le h.1 hs, fun f hf => by rw [World.cell?_of_block (a := ⟨b, o + f, none⟩) e]; exact h.2 f hf⟩
theorem ObC.parts {w : World} {b o : Nat} {x0 : ByteArray} {x1 : Int} (h : ObC w b o (x0, x1)) : b < w.heap.size ∧ w.cell? ⟨b, o, none⟩ = some (.string x0) ∧ w.cell? ⟨b, o + 1, none⟩ = some (.int .i64 x1) :=
  ⟨h.1, h.2 0 (by decide), h.2 1 (by decide)⟩
theorem ObC.fresh (w : World) (T : TypeId) (x0 : ByteArray) (x1 : Int) : ObC (w.alloc (.cells #[.string x0, .int .i64 x1] T)) w.heap.size 0 (x0, x1) :=
  ⟨by simp, fun f hf => by
    rw [Nat.zero_add, World.cell?_alloc_new]
    match f, hf with
    | 0, _ => rfl
    | 1, _ => rfl⟩
theorem ObC.fresh2 (w : World) (T : TypeId) (o : Obj) (x0 : ByteArray) (x1 : Int) : ObC ((w.alloc (.cells #[.string x0, .int .i64 x1] T)).alloc o) w.heap.size 0 (x0, x1) :=
  (ObC.fresh w T x0 x1).mono ((Below.refl _ _).alloc (Nat.le_refl _) _)
def ObE (x y : Ob) : Bool := x.1.toList == y.1.toList && x.2 == y.2
theorem neq_Ob (x0 : ByteArray) (x1 : Int) (y0 : ByteArray) (y1 : Int) (w : World) :
    (binOp .neq 54 (.agg #[.string x0, .int .i64 x1]) (.agg #[.string y0, .int .i64 y1])).run Try.prog w = .ok (.bool (!ObE (x0, x1) (y0, y1))) w := by
  rw [run_neq_struct]
  cases h0 : (x0.toList == y0.toList)
  · simp [go_sem, h0, ObE]
  cases h1 : (x1 == y1)
  · simp [go_sem, h0, h1, ObE]
  · simp [go_sem, h0, h1, ObE]
theorem ObE_eq {x y : Ob} (h : ObE x y = true) : x = y := by
  obtain ⟨x0, x1⟩ := x
  obtain ⟨y0, y1⟩ := y
  simp only [ObE, Bool.and_eq_true, beq_iff_eq] at h
  obtain ⟨h0, h1⟩ := h
  have e0 : x0 = y0 := by
    rw [ByteArray.toList_eq, ByteArray.toList_eq] at h0
    cases x0; cases y0; simp at h0; rw [h0]
  subst e0
  subst h1
  rfl
theorem ObE_self (x : Ob) : ObE x x = true := by simp [ObE]
theorem toOb_any (x0 : ByteArray) (x1 : Int) (w : World) :
    Calls Try.prog 27 #[.agg #[.string x0, .int .i64 x1]] w fun e w' => e = .returned (.agg #[.string x0, .int .i64 x1]) ∧ Below w.heap.size w w' := by
  go_enter Try.func27, Try.ntmps27
  go_wp2
  exact bodyPost_ret (v := .agg #[.string x0, .int .i64 x1]) (by simp [results, Try.results27, go_sem]) rfl ⟨rfl, by (repeat (first | assumption | exact Below.refl _ _ | refine belowDN ?_ _ | refine Below.drew ?_ | refine Below.setCell ?_ (by first | omega | (simp <;> omega)) _ | refine Below.alloc ?_ (by first | omega | (simp <;> omega)) _ | refine belowCall ?_ (by assumption)))⟩
theorem szOb_any (x0 : ByteArray) (x1 : Int) (left : Int) (w : World) (hs0 : x0.size ≤ maxLen) (h1 : 0 ≤ left) (h2 : left ≤ 1048576) :
    Calls Try.prog 24 #[.agg #[.string x0, .int .i64 x1], .int .i64 left] w fun e w' => e = .returned (.int .i64 (szQ ((x0.size : Int)) left)) ∧ Below w.heap.size w w' := by
  have hm0 : (x0.size : Int) ≤ 9223372036854775807 := by unfold maxLen at hs0; omega
  by_cases hlt0 : left < (x0.size : Int)
  · have hneg0 : left - (x0.size : Int) < 0 := by omega
    have HS := Lib.hid (szQ_no (n := (x0.size : Int)) (left := left) (by omega))
    go_enter Try.func24, Try.ntmps24
    go_wp2
    go_ret
    exact ⟨by rw [HS.out]; first | rfl | (congr 2; omega), by (repeat (first | assumption | exact Below.refl _ _ | refine belowDN ?_ _ | refine Below.drew ?_ | refine Below.setCell ?_ (by first | omega | (simp <;> omega)) _ | refine Below.alloc ?_ (by first | omega | (simp <;> omega)) _ | refine belowCall ?_ (by assumption)))⟩
  have hneg0 : ¬ left - (x0.size : Int) < 0 := by omega
  have HS := Lib.hid ((szQ_yes (n := (x0.size : Int)) (left := left) (by omega)).trans (show left - ((x0.size : Int)) = left - (x0.size : Int) from by omega))
  go_enter Try.func24, Try.ntmps24
  go_wp2
  go_ret
  exact ⟨by rw [HS.out]; first | rfl | (congr 2; omega), by (repeat (first | assumption | exact Below.refl _ _ | refine belowDN ?_ _ | refine Below.drew ?_ | refine Below.setCell ?_ (by first | omega | (simp <;> omega)) _ | refine Below.alloc ?_ (by first | omega | (simp <;> omega)) _ | refine belowCall ?_ (by assumption)))⟩
theorem eqOb_self (x0 : ByteArray) (x1 : Int) (w : World) :
    Calls Try.prog 31 #[.agg #[.string x0, .int .i64 x1], .agg #[.string x0, .int .i64 x1]] w fun e w' => e = .returned (.bool true) ∧ Below w.heap.size w w' := by
  have h0 := strSelf x0
  have h1 := intSelf x1
  go_enter Try.func31, Try.ntmps31
  go_wp2
  go_ret
  exact ⟨rfl, by (repeat (first | assumption | exact Below.refl _ _ | refine belowDN ?_ _ | refine Below.drew ?_ | refine Below.setCell ?_ (by first | omega | (simp <;> omega)) _ | refine Below.alloc ?_ (by first | omega | (simp <;> omega)) _ | refine belowCall ?_ (by assumption)))⟩
end Go.Proofs.Ytiogffjhhhpolac
