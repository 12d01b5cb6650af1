/- Minima: what a minimum and valid minima are; the small functions on minima. -/
import Derived.Test.YtbjflgohahmjgaaDoorGMi3
import Derived.Test.YtbjflgohahmjgaaDoorF1
import Derived.Test.YtbjflgohahmjgaaDoorQR
import Derived.Deep.RegionHeld3
import Derived.WalkLawsBesides
import Derived.Handy
import Derived.Deep.Cut
namespace Go.Proofs.YtbjflgohahmjgaaDoor
open Go.ChangeShapes Go.WideShapes Go.ChangeAt Go.RowKit Go.Deep

def cyB (c : Int) : Bool := inB c (-10000) 10000
theorem cyB_iff {c : Int} : cyB c = true ↔ -10000 ≤ c ∧ c ≤ 10000 := inB_iff
def miB (x : Mi) : Bool := cyB x.1 && tmB x.2
theorem miB_iff {x0 x1 : Int} : miB (x0, x1) = true ↔ (-10000 ≤ x0 ∧ x0 ≤ 10000) ∧ 0 ≤ x1 ∧ x1 ≤ 10000000 := by
  rw [miB, Bool.and_eq_true, cyB_iff, tmB_iff]
/-- one minimum is behind another one, by its cycle and by its time -/
def miLt (x y : Mi) : Bool := decide (x.1 < y.1) && decide (x.2 < y.2)
def okAtM (xs : List Mi) (k : Nat) : Bool := miB (xs[k]?.getD mi0) && (decide (k = 0) || miLt (xs[k - 1]?.getD mi0) (xs[k]?.getD mi0))
def okM (xs : List Mi) : Bool := decide (xs.length ≤ 50) && (List.range xs.length).all (okAtM xs)
theorem not_all_rangeM {n k : Nat} {f : Nat → Bool} (hk : k < n) (h : f k = false) : (List.range n).all f = false := by
  rw [List.all_eq_false]
  exact ⟨k, by simpa using hk, by simp [h]⟩
theorem all_rangeM {n : Nat} {f : Nat → Bool} (h : ∀ k, k < n → f k = true) : (List.range n).all f = true := by
  rw [List.all_eq_true]
  intro k hk
  exact h k (by simpa using hk)
theorem okM_long {xs : List Mi} {n : Nat} (hn : xs.length = n) (h : ¬ n ≤ 50) : okM xs = false := by simp [okM, hn, h]
theorem okM_bad {xs : List Mi} {n k : Nat} (hn : xs.length = n) (hk : k < n) (h : okAtM xs k = false) : okM xs = false := by
  rw [okM, not_all_rangeM (k := k) (by omega) h]; simp
theorem okM_yes {xs : List Mi} {n : Nat} (hn : xs.length = n) (h1 : n ≤ 50) (h : ∀ k, k < n → okAtM xs k = true) : okM xs = true := by
  rw [okM, all_rangeM (fun k hk => h k (by omega))]; simp; omega
theorem okM_at {xs : List Mi} {n : Nat} (hn : xs.length = n) (h : okM xs = true) : n ≤ 50 ∧ ∀ k, k < n → okAtM xs k = true := by
  simp only [okM, Bool.and_eq_true, decide_eq_true_eq, List.all_eq_true, List.mem_range] at h
  exact ⟨by omega, fun k hk => h.2 k (by omega)⟩
/-- what valid minima are, in numbers -/
theorem okM_num {xs : List Mi} {n : Nat} (hn : xs.length = n) (h : okM xs = true) : n ≤ 50 ∧ (∀ k, k < n → (-10000 ≤ (xs[k]?.getD mi0).1 ∧ (xs[k]?.getD mi0).1 ≤ 10000) ∧ 0 ≤ (xs[k]?.getD mi0).2 ∧ (xs[k]?.getD mi0).2 ≤ 10000000) ∧ ∀ k, k + 1 < n → (xs[k]?.getD mi0).1 < (xs[k + 1]?.getD mi0).1 ∧ (xs[k]?.getD mi0).2 < (xs[k + 1]?.getD mi0).2 := by
  obtain ⟨h1, h2⟩ := okM_at hn h
  refine ⟨h1, fun k hk => ?_, fun k hk => ?_⟩
  · have := h2 k hk
    simp only [okAtM, Bool.and_eq_true] at this
    exact miB_iff.1 this.1
  · have := h2 (k + 1) hk
    simp only [okAtM, miLt, Bool.and_eq_true, Bool.or_eq_true, decide_eq_true_eq, Nat.add_sub_cancel] at this
    omega
theorem okAtM_no {xs : List Mi} {k : Nat} {x : Mi} (hx : xs[k]?.getD mi0 = x) (h : miB x = false) : okAtM xs k = false := by simp [okAtM, hx, h]
theorem okAtM_zero {xs : List Mi} {k : Nat} {x : Mi} (hx : xs[k]?.getD mi0 = x) (h : miB x = true) (hk : k = 0) : okAtM xs k = true := by subst hk; simp [okAtM, hx, h]
theorem okAtM_succ {xs : List Mi} {k : Nat} {x y : Mi} {b : Bool} (hx : xs[k + 1]?.getD mi0 = x) (hy : xs[k]?.getD mi0 = y) (h : miB x = true) (hb : miLt y x = b) : okAtM xs (k + 1) = b := by
  simp only [okAtM, hx, h, Nat.add_sub_cancel, hy, hb]
  simp
theorem okM_next {xs : List Mi} {k : Nat} (h : ∀ j, j < k → okAtM xs j = true) (hk : okAtM xs k = true) : ∀ j, j < k + 1 → okAtM xs j = true := fun j hj => by
  by_cases e : j = k
  · subst e; exact hk
  · exact h j (by omega)
/-- what Minimum.compare hands back -/
def sgM (x y : Mi) : Int := if sgI x.1 y.1 < sgI x.2 y.2 then sgI x.2 y.2 else sgI x.1 y.1
theorem sgM_neg {x y : Mi} : sgM x y < 0 ↔ miLt x y = true := by
  have h1 := sgI_neg (x := x.1) (y := y.1)
  have h2 := sgI_neg (x := x.2) (y := y.2)
  simp only [miLt, Bool.and_eq_true, decide_eq_true_eq, ← h1, ← h2]
  unfold sgM
  split <;> omega
/-- two boxes of two numbers that a call makes first -/
structure Bx2 (w v : World) (a0 a1 b0 b1 : Int) : Prop where
  a : PtC v w.heap.size 0 (a0, a1)
  b : PtC v (w.heap.size + 1) 0 (b0, b1)
  below : Below w.heap.size w v
theorem Bx2.mono {w v v' : World} {a0 a1 b0 b1 : Int} (h : Bx2 w v a0 a1 b0 b1) (hb : Below v.heap.size v v') : Bx2 w v' a0 a1 b0 b1 :=
  ⟨h.a.mono hb, h.b.mono hb, belowCall h.below hb⟩
theorem Bx2.cells {w v : World} {a0 a1 b0 b1 : Int} (h : Bx2 w v a0 a1 b0 b1) : (v.cell? ⟨w.heap.size, 0, none⟩ = some (.int .i64 a0) ∧ v.cell? ⟨w.heap.size, 1, none⟩ = some (.int .i64 a1)) ∧ (v.cell? ⟨w.heap.size + 1, 0, none⟩ = some (.int .i64 b0) ∧ v.cell? ⟨w.heap.size + 1, 1, none⟩ = some (.int .i64 b1)) := by
  obtain ⟨-, a0, a1⟩ := h.a.parts
  obtain ⟨-, b0, b1⟩ := h.b.parts
  rw [Nat.zero_add] at a1 b1
  exact ⟨⟨a0, a1⟩, b0, b1⟩
theorem Bx2.fresh (w : World) (a0 a1 b0 b1 : Int) (T U : TypeId) : Bx2 w ((w.alloc (.cells #[.int .i64 a0, .int .i64 a1] T)).alloc (.cells #[.int .i64 b0, .int .i64 b1] U)) a0 a1 b0 b1 := by
  have e1 : (w.alloc (.cells #[.int .i64 a0, .int .i64 a1] T)).heap.size = w.heap.size + 1 := by simp
  have h1 := (PtC.fresh w T a0 a1).mono ((Below.refl _ _).alloc (Nat.le_refl _) (.cells #[.int .i64 b0, .int .i64 b1] U))
  have h2 := PtC.fresh (w.alloc (.cells #[.int .i64 a0, .int .i64 a1] T)) U b0 b1
  rw [e1] at h2
  exact ⟨h1, h2, ((Below.refl w.heap.size w).alloc (Nat.le_refl _) _).alloc (by rw [e1]; omega) _⟩
theorem isCy_any (c : Int) (w : World) :
    Calls Tryd.prog 50 #[.int .i64 c] w fun e w' => e = .returned (.bool (cyB c)) ∧ w = w' := by
  go_enter Tryd.func50, Tryd.ntmps50
  go_wp2_with (go_at_call 48; refine (inRange_any _ _ _ _).mono ?_; rintro e w' ⟨rfl, rfl⟩)
  go_ret
  exact ⟨rfl, rfl⟩
theorem miValid_any (x0 x1 : Int) (w : World) :
    Calls Tryd.prog 120 #[.agg #[.int .i64 x0, .int .i64 x1]] w fun e w' => e = .returned (.bool (miB (x0, x1))) ∧ Below w.heap.size w w' := by
  cases h0 : cyB x0
  all_goals
    go_enter Tryd.func120, Tryd.ntmps120
    go_wp2_with (first | (go_at_call 75; refine (iTm_any _ _).mono ?_; rintro x w' ⟨rfl, rfl⟩) | (go_at_call 50; refine (isCy_any _ _).mono ?_; rintro x w' ⟨rfl, rfl⟩))
    go_ret
    exact ⟨by simp [miB, h0], by (repeat (first | assumption | exact Below.refl _ _ | refine belowDN ?_ _ | refine Below.drew ?_ | refine Below.setCell ?_ (by first | omega | (simp <;> omega)) _ | refine Below.alloc ?_ (by first | omega | (simp <;> omega)) _ | refine belowCall ?_ (by assumption)))⟩
theorem l13One_any (x0 x1 : Int) (w : World) :
    Calls Tryd.prog 82 #[.agg #[.int .i64 x0, .int .i64 x1]] w fun e w' => e = .returned (.bool (miB (x0, x1))) ∧ Below w.heap.size w w' := by
  have HC : ∀ W, Calls Tryd.prog 63 #[.int .i64 x0, .int .i64 (-10000), .int .i64 10000] W fun e w' => e = .returned (.bool (cyB x0)) ∧ W = w' := fun W => l00In_any x0 (-10000) 10000 W
  cases h0 : cyB x0
  all_goals
    rw [h0] at HC
    go_enter Tryd.func82, Tryd.ntmps82
    go_wp2_with (first | (go_at_call 68; refine (l06Time_any _ _).mono ?_; rintro x w' ⟨rfl, rfl⟩) | (go_at_call 63; refine (HC _).mono ?_; rintro x w' ⟨rfl, rfl⟩))
    go_ret
    exact ⟨by simp [miB, h0], by (repeat (first | assumption | exact Below.refl _ _ | refine belowDN ?_ _ | refine Below.drew ?_ | refine Below.setCell ?_ (by first | omega | (simp <;> omega)) _ | refine Below.alloc ?_ (by first | omega | (simp <;> omega)) _ | refine belowCall ?_ (by assumption)))⟩
set_option maxHeartbeats 1000000 in
theorem miCmp_any (x0 x1 y0 y1 : Int) (w : World) :
    Calls Tryd.prog 55 #[.agg #[.int .i64 x0, .int .i64 x1], .agg #[.int .i64 y0, .int .i64 y1]] w fun e w' => e = .returned (.int .i64 (sgM (x0, x1) (y0, y1))) ∧ Below w.heap.size w w' := by
  have HCM : ∀ x y W, Calls Tryd.prog 83 #[.int .i64 x, .int .i64 y] W fun e w' => e = .returned (.int .i64 (sgI x y)) ∧ w' = W := fun x y W => cmpI_any x y W
  have hv : sgM (x0, x1) (y0, y1) = if sgI x0 y0 < sgI x1 y1 then sgI x1 y1 else sgI x0 y0 := rfl
  rw [hv]
  clear hv
  have hbx := Bx2.fresh w x0 x1 y0 y1 34 34
  by_cases h : sgI x0 y0 < sgI x1 y1
  · rw [if_pos h]
    go_enter Tryd.func55, Tryd.ntmps55
    go_upto_region 1 with fail
    generalize ((w.alloc (.cells #[.int .i64 x0, .int .i64 x1] 34)).alloc (.cells #[.int .i64 y0, .int .i64 y1] 34)) = v at hbx ⊢
    obtain ⟨⟨k0, k1⟩, l0, l1⟩ := hbx.cells
    have hl0 := hbx.a.1
    have hl1 := hbx.b.1
    have B1 := hbx.below
    clear hbx
    (go_big_quiet (first | (go_at_call 83; refine Calls.quiet_of_same (HCM _ _ _))))
    all_goals
      go_wp2
      go_ret
      exact ⟨rfl, belowCall B1 (by (repeat (first | assumption | exact Below.refl _ _ | refine belowDN ?_ _ | refine Below.drew ?_ | refine Below.setCell ?_ (by first | omega | (simp <;> omega)) _ | refine Below.alloc ?_ (by first | omega | (simp <;> omega)) _ | refine belowCall ?_ (by assumption))))⟩
  · rw [if_neg h]
    go_enter Tryd.func55, Tryd.ntmps55
    go_upto_region 1 with fail
    generalize ((w.alloc (.cells #[.int .i64 x0, .int .i64 x1] 34)).alloc (.cells #[.int .i64 y0, .int .i64 y1] 34)) = v at hbx ⊢
    obtain ⟨⟨k0, k1⟩, l0, l1⟩ := hbx.cells
    have hl0 := hbx.a.1
    have hl1 := hbx.b.1
    have B1 := hbx.below
    clear hbx
    (go_big_quiet (first | (go_at_call 83; refine Calls.quiet_of_same (HCM _ _ _))))
    all_goals
      go_wp2
      go_ret
      exact ⟨rfl, belowCall B1 (by (repeat (first | assumption | exact Below.refl _ _ | refine belowDN ?_ _ | refine Below.drew ?_ | refine Below.setCell ?_ (by first | omega | (simp <;> omega)) _ | refine Below.alloc ?_ (by first | omega | (simp <;> omega)) _ | refine belowCall ?_ (by assumption))))⟩
theorem miCmp_val (x0 x1 y0 y1 r : Int) (w : World) (hr : sgM (x0, x1) (y0, y1) = r) :
    Calls Tryd.prog 55 #[.agg #[.int .i64 x0, .int .i64 x1], .agg #[.int .i64 y0, .int .i64 y1]] w fun e w' => e = .returned (.int .i64 r) ∧ Below w.heap.size w w' :=
  (miCmp_any x0 x1 y0 y1 w).mono fun _ _ ⟨h1, h2⟩ => ⟨by rw [h1, hr], h2⟩
end Go.Proofs.YtbjflgohahmjgaaDoor
