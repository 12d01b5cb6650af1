/- FieldOf, both sides. -/
import Derived.Test.YtiogffjhhhpolabH2
import Derived.Test.YtiogffjhhhpolabH3
import Derived.Test.YtiogffjhhhpolabH7R
import Derived.Test.YtiogffjhhhpolabQR
import Derived.Lib.SliceRun
namespace Go.Proofs.Ytiogffjhhhpolab
open Go.ChangeShapes Go.WideShapes Go.ChangeAt Go.RowKit Go.Deep

theorem ownKeepH {w w' : World} {B e s n : Nat} {v : Value} {xs : List Value} (h : w.ownsRow B e s v n xs) (hb : Below w.heap.size w w') : w'.ownsRow B e s v n xs :=
  h.kept (gBut hb none) (by
    cases hv : v.ownBlock with
    | none => exact .inl rfl
    | some g => exact .inr (by simp))
def hmn (a b : Int) : Int := if b < a then b else a
def hmx (a b : Int) : Int := if a < b then b else a
abbrev Q4 := Int × Int × Int × Int
def fdS (x : Mk) : Q4 := (x.1, x.2.1, x.1, x.2.1)
def fdU (t : Q4) (x : Mk) : Q4 := (hmn t.1 x.1, hmn t.2.1 x.2.1, hmx t.2.2.1 x.1, hmx t.2.2.2 x.2.1)
/-- the box of the first k marks (and of the first one) -/
def fdTo (xs : List Mk) : Nat → Q4
  | 0 => fdS (xs[0]?.getD mk0)
  | k + 1 => fdU (fdTo xs k) (xs[k]?.getD mk0)
theorem fdTo_one (xs : List Mk) : fdTo xs 1 = fdTo xs 0 := by
  simp only [fdTo, fdU, fdS, hmn, hmx]
  simp
def fdC (xs : List Mk) : Int := if okC xs then (if xs.length = 0 then 3 else 0) else 1
def q4L (t : Q4) : List Int := [t.1, t.2.1, t.2.2.1, t.2.2.2]
def fdL (xs : List Mk) : List Int := if fdC xs = 0 then q4L (fdTo xs xs.length) else []
theorem fd_1 {xs : List Mk} (h : okC xs = false) : fdC xs = 1 ∧ fdL xs = [] := by simp [fdL, fdC, h]
theorem fd_3 {xs : List Mk} {n : Nat} (hn : xs.length = n) (h : okC xs = true) (h2 : n = 0) : fdC xs = 3 ∧ fdL xs = [] := by
  have : xs.length = 0 := by omega
  simp [fdL, fdC, h, this]
theorem fd_0 {xs : List Mk} {n : Nat} (hn : xs.length = n) (h : okC xs = true) (h2 : 0 < n) : fdC xs = 0 ∧ fdL xs = q4L (fdTo xs n) := by
  have : ¬ n = 0 := by omega
  simp [fdL, fdC, h, hn, this]
theorem fdL_len (xs : List Mk) : (fdL xs).length ≤ 1048576 := by
  unfold fdL
  split <;> simp [q4L]
theorem flipH {P : Program} {f : FuncId} {args : Array Value} {w : World} {v : Value} (h : Calls P f args w fun e w' => e = .returned v ∧ w = w') : Calls P f args w fun e w' => e = .returned v ∧ w' = w :=
  h.mono fun _ _ hh => ⟨hh.1, hh.2.symm⟩
theorem hMin_any (a b : Int) (w : World) :
    Calls Try.prog 56 #[.int .i64 a, .int .i64 b] w fun e w' => e = .returned (.int .i64 (hmn a b)) ∧ w = w' := by
  by_cases h : a < b
  all_goals
    go_enter Try.func56, Try.ntmps56
    go_wp2
    go_ret
    exact ⟨ret_int (by unfold hmn; split <;> omega), rfl⟩
theorem hMax_any (a b : Int) (w : World) :
    Calls Try.prog 57 #[.int .i64 a, .int .i64 b] w fun e w' => e = .returned (.int .i64 (hmx a b)) ∧ w = w' := by
  by_cases h : a > b
  all_goals
    go_enter Try.func57, Try.ntmps57
    go_wp2
    go_ret
    exact ⟨ret_int (by unfold hmx; split <;> omega), rfl⟩
def q4F (t : Q4) (j : Nat) : Option Value := if j = 0 then some (.int .i64 t.1) else if j = 1 then some (.int .i64 t.2.1) else if j = 2 then some (.int .i64 t.2.2.1) else some (.int .i64 t.2.2.2)
/-- a box in a block -/
def Bx4 (w : World) (g : Nat) (t : Q4) : Prop := SMG w g 4 (q4F t)
theorem Bx4.below {w w' : World} {g : Nat} {t : Q4} (h : Bx4 w g t) (hb : Below w.heap.size w w') : Bx4 w' g t := SMG.below h hb
theorem Bx4.put {w : World} {g : Nat} {t : Q4} (h : Bx4 w g t) (a b c d : Int) : Bx4 ((((w.setCell ⟨g, 0, none⟩ (.int .i64 a)).setCell ⟨g, 1, none⟩ (.int .i64 b)).setCell ⟨g, 2, none⟩ (.int .i64 c)).setCell ⟨g, 3, none⟩ (.int .i64 d)) g (a, b, c, d) :=
  ((((SMG.put h 0 _).put 1 _).put 2 _).put 3 _).congr (fun j u hj hu => by
    match j, hj with
    | 0, _ => simpa [q4F] using hu
    | 1, _ => simpa [q4F] using hu
    | 2, _ => simpa [q4F] using hu
    | 3, _ => simpa [q4F] using hu)
theorem Bx4.parts {w : World} {g : Nat} {t0 t1 t2 t3 : Int} (h : Bx4 w g (t0, t1, t2, t3)) : g < w.heap.size ∧ (w.cell? ⟨g, 0, none⟩ = some (.int .i64 t0) ∧ w.cell? ⟨g, 1, none⟩ = some (.int .i64 t1) ∧ w.cell? ⟨g, 2, none⟩ = some (.int .i64 t2) ∧ w.cell? ⟨g, 3, none⟩ = some (.int .i64 t3)) ∧ w.frozen? ⟨g, 0, none⟩ = false ∧ w.frozen? ⟨g, 1, none⟩ = false ∧ w.frozen? ⟨g, 2, none⟩ = false ∧ w.frozen? ⟨g, 3, none⟩ = false := by
  obtain ⟨hl, ⟨v0, c0, e0⟩, f0⟩ := h 0 (by decide)
  obtain ⟨-, ⟨v1, c1, e1⟩, f1⟩ := h 1 (by decide)
  obtain ⟨-, ⟨v2, c2, e2⟩, f2⟩ := h 2 (by decide)
  obtain ⟨-, ⟨v3, c3, e3⟩, f3⟩ := h 3 (by decide)
  exact ⟨hl, ⟨by rw [c0, e0 _ rfl], by rw [c1, e1 _ rfl], by rw [c2, e2 _ rfl], by rw [c3, e3 _ rfl]⟩, f0, f1, f2, f3⟩
theorem fresh_unfrozen (w : World) (c : Array Value) (T : TypeId) (j : Nat) : (w.alloc (.cells c T)).frozen? ⟨w.heap.size, j, none⟩ = false := by go_keep
theorem Bx4.fresh (w : World) (T : TypeId) (t0 t1 t2 t3 : Int) : Bx4 (w.alloc (.cells #[.int .i64 t0, .int .i64 t1, .int .i64 t2, .int .i64 t3] T)) w.heap.size (t0, t1, t2, t3) := fun j hj => by
  refine ⟨by simp, ?_, ?_⟩
  · match j, hj with
    | 0, _ => exact ⟨_, World.cell?_alloc_new .., fun u hu => by simpa [q4F] using hu⟩
    | 1, _ => exact ⟨_, World.cell?_alloc_new .., fun u hu => by simpa [q4F] using hu⟩
    | 2, _ => exact ⟨_, World.cell?_alloc_new .., fun u hu => by simpa [q4F] using hu⟩
    | 3, _ => exact ⟨_, World.cell?_alloc_new .., fun u hu => by simpa [q4F] using hu⟩
  · exact fresh_unfrozen w _ T j
end Go.Proofs.Ytiogffjhhhpolab
