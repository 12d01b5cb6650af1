/- Estimate by value and in memory (by gen.py). -/
import Derived.Test.YtfnjndbnogeddaaDoorG0
namespace Go.Proofs.YtfnjndbnogeddaaDoor
open Go.ChangeShapes Go.WideShapes Go.ChangeAt Go.RowKit Go.Deep

abbrev Es := Int × ByteArray × ByteArray × Int × Bool
def es0 : Es := (0, ⟨#[]⟩, ⟨#[]⟩, 0, false)
def fldEs (x : Es) : Nat → Value
  | 0 => .int .i64 x.1
  | 1 => .string x.2.1
  | 2 => .string x.2.2.1
  | 3 => .int .i64 x.2.2.2.1
  | _ => .bool x.2.2.2.2
/-- the cells of block b from o on hold x -/
def EsC (w : World) (b o : Nat) (x : Es) : Prop := b < w.heap.size ∧ ∀ f, f < 5 → w.cell? ⟨b, o + f, none⟩ = some (fldEs x f)
theorem EsC.mono {w w' : World} {b o : Nat} {x : Es} (h : EsC w b o x) (hb : Below w.heap.size w w') : EsC w' b o x :=
  ⟨Nat.lt_of_lt_of_le h.1 hb.size, fun f hf => by rw [hb.cell (p := ⟨b, o + f, none⟩) h.1]; exact h.2 f hf⟩
theorem EsC.of_block {w w' : World} {b o : Nat} {x : Es} (h : EsC w b o x) (hs : w.heap.size ≤ w'.heap.size) (e : w'.heap[b]? = w.heap[b]?) : EsC w' b o x :=
  ⟨Nat.lt_of_lt_of_le h.1 hs, fun f hf => by rw [World.cell?_of_block (a := ⟨b, o + f, none⟩) e]; exact h.2 f hf⟩
theorem EsC.parts {w : World} {b o : Nat} {x0 : Int} {x1 : ByteArray} {x2 : ByteArray} {x3 : Int} {x4 : Bool} (h : EsC w b o (x0, x1, x2, x3, x4)) : b < w.heap.size ∧ w.cell? ⟨b, o, none⟩ = some (.int .i64 x0) ∧ w.cell? ⟨b, o + 1, none⟩ = some (.string x1) ∧ w.cell? ⟨b, o + 2, none⟩ = some (.string x2) ∧ w.cell? ⟨b, o + 3, none⟩ = some (.int .i64 x3) ∧ w.cell? ⟨b, o + 4, none⟩ = some (.bool x4) :=
  ⟨h.1, h.2 0 (by decide), h.2 1 (by decide), h.2 2 (by decide), h.2 3 (by decide), h.2 4 (by decide)⟩
theorem EsC.fresh (w : World) (T : TypeId) (x0 : Int) (x1 : ByteArray) (x2 : ByteArray) (x3 : Int) (x4 : Bool) : EsC (w.alloc (.cells #[.int .i64 x0, .string x1, .string x2, .int .i64 x3, .bool x4] T)) w.heap.size 0 (x0, x1, x2, x3, x4) :=
  ⟨by simp, fun f hf => by
    rw [Nat.zero_add, World.cell?_alloc_new]
    match f, hf with
    | 0, _ => rfl
    | 1, _ => rfl
    | 2, _ => rfl
    | 3, _ => rfl
    | 4, _ => rfl⟩
theorem EsC.fresh2 (w : World) (T : TypeId) (o : Obj) (x0 : Int) (x1 : ByteArray) (x2 : ByteArray) (x3 : Int) (x4 : Bool) : EsC ((w.alloc (.cells #[.int .i64 x0, .string x1, .string x2, .int .i64 x3, .bool x4] T)).alloc o) w.heap.size 0 (x0, x1, x2, x3, x4) :=
  (EsC.fresh w T x0 x1 x2 x3 x4).mono ((Below.refl _ _).alloc (Nat.le_refl _) _)
def EsE (x y : Es) : Bool := x.1 == y.1 && (x.2.1.toList == y.2.1.toList && (x.2.2.1.toList == y.2.2.1.toList && (x.2.2.2.1 == y.2.2.2.1 && x.2.2.2.2 == y.2.2.2.2)))
theorem neq_Es (x0 : Int) (x1 : ByteArray) (x2 : ByteArray) (x3 : Int) (x4 : Bool) (y0 : Int) (y1 : ByteArray) (y2 : ByteArray) (y3 : Int) (y4 : Bool) (w : World) :
    (binOp .neq 37 (.agg #[.int .i64 x0, .string x1, .string x2, .int .i64 x3, .bool x4]) (.agg #[.int .i64 y0, .string y1, .string y2, .int .i64 y3, .bool y4])).run Tryd.prog w = .ok (.bool (!EsE (x0, x1, x2, x3, x4) (y0, y1, y2, y3, y4))) w := by
  rw [run_neq_struct]
  cases h0 : (x0 == y0)
  · simp [go_sem, h0, EsE]
  cases h1 : (x1.toList == y1.toList)
  · simp [go_sem, h0, h1, EsE]
  cases h2 : (x2.toList == y2.toList)
  · simp [go_sem, h0, h1, h2, EsE]
  cases h3 : (x3 == y3)
  · simp [go_sem, h0, h1, h2, h3, EsE]
  cases h4 : (x4 == y4)
  · simp [go_sem, h0, h1, h2, h3, h4, EsE]
  · simp [go_sem, h0, h1, h2, h3, h4, EsE]
theorem EsE_eq {x y : Es} (h : EsE x y = true) : x = y := by
  obtain ⟨x0, x1, x2, x3, x4⟩ := x
  obtain ⟨y0, y1, y2, y3, y4⟩ := y
  simp only [EsE, Bool.and_eq_true, beq_iff_eq] at h
  obtain ⟨h0, h1, h2, h3, h4⟩ := h
  subst h0
  have e1 : x1 = y1 := by
    rw [ByteArray.toList_eq, ByteArray.toList_eq] at h1
    cases x1; cases y1; simp at h1; rw [h1]
  subst e1
  have e2 : x2 = y2 := by
    rw [ByteArray.toList_eq, ByteArray.toList_eq] at h2
    cases x2; cases y2; simp at h2; rw [h2]
  subst e2
  subst h3
  subst h4
  rfl
theorem EsE_self (x : Es) : EsE x x = true := by simp [EsE]
theorem toEs_any (x0 : Int) (x1 : ByteArray) (x2 : ByteArray) (x3 : Int) (x4 : Bool) (w : World) :
    Calls Tryd.prog 17 #[.agg #[.int .i64 x0, .string x1, .string x2, .int .i64 x3, .bool x4]] w fun e w' => e = .returned (.agg #[.int .i64 x0, .string x1, .string x2, .int .i64 x3, .bool x4]) ∧ Below w.heap.size w w' := by
  go_enter Tryd.func17, Tryd.ntmps17
  go_wp2
  exact bodyPost_ret (v := .agg #[.int .i64 x0, .string x1, .string x2, .int .i64 x3, .bool x4]) (by simp [results, Tryd.results17, go_sem]) rfl ⟨rfl, by (repeat (first | assumption | exact Below.refl _ _ | refine belowDN ?_ _ | refine Below.drew ?_ | refine Below.setCell ?_ (by first | omega | (simp <;> omega)) _ | refine Below.alloc ?_ (by first | omega | (simp <;> omega)) _ | refine belowCall ?_ (by assumption)))⟩
theorem szEs_any (x0 : Int) (x1 : ByteArray) (x2 : ByteArray) (x3 : Int) (x4 : Bool) (left : Int) (w : World) (hs1 : x1.size ≤ maxLen) (hs2 : x2.size ≤ maxLen) (h1 : 0 ≤ left) (h2 : left ≤ 1048576) :
    Calls Tryd.prog 14 #[.agg #[.int .i64 x0, .string x1, .string x2, .int .i64 x3, .bool x4], .int .i64 left] w fun e w' => e = .returned (.int .i64 (szQ ((x1.size : Int) + (x2.size : Int)) left)) ∧ Below w.heap.size w w' := by
  have hm1 : (x1.size : Int) ≤ 9223372036854775807 := by unfold maxLen at hs1; omega
  have hm2 : (x2.size : Int) ≤ 9223372036854775807 := by unfold maxLen at hs2; omega
  by_cases hlt1 : left < (x1.size : Int)
  · have hneg1 : left - (x1.size : Int) < 0 := by omega
    have HS := Lib.hid (szQ_no (n := (x1.size : Int) + (x2.size : Int)) (left := left) (by omega))
    go_enter Tryd.func14, Tryd.ntmps14
    go_wp2
    go_ret
    exact ⟨by rw [HS.out]; first | rfl | (congr 2; omega), by (repeat (first | assumption | exact Below.refl _ _ | refine belowDN ?_ _ | refine Below.drew ?_ | refine Below.setCell ?_ (by first | omega | (simp <;> omega)) _ | refine Below.alloc ?_ (by first | omega | (simp <;> omega)) _ | refine belowCall ?_ (by assumption)))⟩
  have hneg1 : ¬ left - (x1.size : Int) < 0 := by omega
  by_cases hlt2 : left - (x1.size : Int) < (x2.size : Int)
  · have hneg2 : left - (x1.size : Int) - (x2.size : Int) < 0 := by omega
    have HS := Lib.hid (szQ_no (n := (x1.size : Int) + (x2.size : Int)) (left := left) (by omega))
    go_enter Tryd.func14, Tryd.ntmps14
    go_wp2
    go_ret
    exact ⟨by rw [HS.out]; first | rfl | (congr 2; omega), by (repeat (first | assumption | exact Below.refl _ _ | refine belowDN ?_ _ | refine Below.drew ?_ | refine Below.setCell ?_ (by first | omega | (simp <;> omega)) _ | refine Below.alloc ?_ (by first | omega | (simp <;> omega)) _ | refine belowCall ?_ (by assumption)))⟩
  have hneg2 : ¬ left - (x1.size : Int) - (x2.size : Int) < 0 := by omega
  have HS := Lib.hid ((szQ_yes (n := (x1.size : Int) + (x2.size : Int)) (left := left) (by omega)).trans (show left - ((x1.size : Int) + (x2.size : Int)) = left - (x1.size : Int) - (x2.size : Int) from by omega))
  go_enter Tryd.func14, Tryd.ntmps14
  go_wp2
  go_ret
  exact ⟨by rw [HS.out]; first | rfl | (congr 2; omega), by (repeat (first | assumption | exact Below.refl _ _ | refine belowDN ?_ _ | refine Below.drew ?_ | refine Below.setCell ?_ (by first | omega | (simp <;> omega)) _ | refine Below.alloc ?_ (by first | omega | (simp <;> omega)) _ | refine belowCall ?_ (by assumption)))⟩
theorem eqEs_self (x0 : Int) (x1 : ByteArray) (x2 : ByteArray) (x3 : Int) (x4 : Bool) (w : World) :
    Calls Tryd.prog 23 #[.agg #[.int .i64 x0, .string x1, .string x2, .int .i64 x3, .bool x4], .agg #[.int .i64 x0, .string x1, .string x2, .int .i64 x3, .bool x4]] w fun e w' => e = .returned (.bool true) ∧ Below w.heap.size w w' := by
  have h0 := intSelf x0
  have h1 := strSelf x1
  have h2 := strSelf x2
  have h3 := intSelf x3
  have h4 := boolSelf x4
  go_enter Tryd.func23, Tryd.ntmps23
  go_wp2
  go_ret
  exact ⟨rfl, by (repeat (first | assumption | exact Below.refl _ _ | refine belowDN ?_ _ | refine Below.drew ?_ | refine Below.setCell ?_ (by first | omega | (simp <;> omega)) _ | refine Below.alloc ?_ (by first | omega | (simp <;> omega)) _ | refine belowCall ?_ (by assumption)))⟩
end Go.Proofs.YtfnjndbnogeddaaDoor
