/- Charts: what a chart is; ValidChart, both sides. -/
import Derived.Test.YtfabpcdeppfmdabDoorGMk3
import Derived.Test.YtfabpcdeppfmdabDoorB7
import Derived.Test.YtfabpcdeppfmdabDoorQR
import Derived.Deep.RegionHeld3
import Derived.WalkLawsBesides
import Derived.Handy
namespace Go.Proofs.YtfabpcdeppfmdabDoor
open Go.ChangeShapes Go.WideShapes Go.ChangeAt Go.RowKit Go.Deep

def plB (x y : Int) : Bool := inB x 0 2000 && inB y 0 2000
/-- a mark of a chart -/
def mrkB (x : Mk) : Bool := plB x.1 x.2.1 && magB x.2.2
/-- two marks at one place -/
def plcB (x y : Mk) : Bool := x.1 == y.1 && x.2.1 == y.2.1
theorem plcB_symm (x y : Mk) : plcB x y = plcB y x := by
  unfold plcB
  rw [Bool.eq_iff_iff]
  simp only [Bool.and_eq_true, beq_iff_eq]
  constructor <;> (rintro ⟨h1, h2⟩; exact ⟨h1.symm, h2.symm⟩)
def chF (xs : List Mk) (i : Nat) : Bool := mrkB (xs[i]?.getD mk0) && !(xs.take i).any (plcB (xs[i]?.getD mk0))
def okC (xs : List Mk) : Bool := decide (xs.length ≤ 30) && (List.range xs.length).all (chF xs)
theorem okC_long {xs : List Mk} {n : Nat} (hn : xs.length = n) (h : ¬ n ≤ 30) : okC xs = false := by simp [okC, hn, h]
theorem okC_bad {xs : List Mk} {n k : Nat} (hn : xs.length = n) (hk : k < n) (h : chF xs k = false) : okC xs = false := by
  rw [okC, not_all_range (k := k) (by omega) h]; simp
theorem okC_yes {xs : List Mk} {n : Nat} (hn : xs.length = n) (h1 : n ≤ 30) (h : ∀ k, k < n → chF xs k = true) : okC xs = true := by
  rw [okC, all_range (fun k hk => h k (by omega))]; simp; omega
theorem okC_at {xs : List Mk} {n : Nat} (hn : xs.length = n) (h : okC xs = true) : n ≤ 30 ∧ ∀ k, k < n → chF xs k = true := by
  simp only [okC, Bool.and_eq_true, decide_eq_true_eq, List.all_eq_true, List.mem_range] at h
  exact ⟨by omega, fun k hk => h.2 k (by omega)⟩
theorem okC_mark {xs : List Mk} {n k : Nat} {x : Mk} (hn : xs.length = n) (h : okC xs = true) (hk : k < n) (hx : xs[k]?.getD mk0 = x) : mrkB x = true := by
  have h1 := (okC_at hn h).2 k hk
  simp only [chF, hx, Bool.and_eq_true] at h1
  exact h1.1
theorem mrkB_bd {x0 x1 x2 : Int} (h : mrkB (x0, x1, x2) = true) : (0 ≤ x0 ∧ x0 ≤ 2000) ∧ (0 ≤ x1 ∧ x1 ≤ 2000) ∧ -2000 ≤ x2 ∧ x2 ≤ 20000 := by
  simp only [mrkB, plB, Bool.and_eq_true] at h
  exact ⟨inB_iff.1 h.1.1, inB_iff.1 h.1.2, magB_iff.1 h.2⟩
theorem chF_no {xs : List Mk} {k : Nat} {x : Mk} (hx : xs[k]?.getD mk0 = x) (h : mrkB x = false) : chF xs k = false := by simp [chF, hx, h]
theorem chF_twin {xs : List Mk} {k j n : Nat} {x y : Mk} (hx : xs[k]?.getD mk0 = x) (hy : xs[j]?.getD mk0 = y) (hn : xs.length = n) (hk : k < n) (hj : j < k) (h : plcB y x = true) : chF xs k = false := by
  have : (xs.take k).any (plcB x) = true := by
    rw [List.any_eq_true]
    refine ⟨y, ?_, by rw [plcB_symm]; exact h⟩
    have hlt : j < xs.length := by omega
    rw [List.getElem?_eq_getElem hlt, Option.getD_some] at hy
    rw [← hy]
    exact List.mem_take_iff_getElem.2 ⟨j, by omega, rfl⟩
  simp [chF, hx, this]
theorem chF_yes {xs : List Mk} {k : Nat} {x : Mk} (hx : xs[k]?.getD mk0 = x) (hv : mrkB x = true) (h : ∀ m, m < k → plcB (xs[m]?.getD mk0) x = false) : chF xs k = true := by
  have : (xs.take k).any (plcB x) = false := by
    rw [List.any_eq_false]
    intro y hy
    obtain ⟨j, hj, rfl⟩ := List.mem_take_iff_getElem.1 hy
    have := h j (by omega)
    rw [List.getElem?_eq_getElem (by omega), Option.getD_some, plcB_symm] at this
    simp [this]
  simp [chF, hx, hv, this]
theorem chF_val {xs : List Mk} {k : Nat} {x : Mk} {b : Bool} (hx : xs[k]?.getD mk0 = x) (hv : mrkB x = true) (h : (xs.take k).any (plcB x) = b) : chF xs k = !b := by simp [chF, hx, hv, h]
theorem chF_next {xs : List Mk} {k : Nat} (h : ∀ j, j < k → chF xs j = true) (hk : chF xs k = true) : ∀ j, j < k + 1 → chF xs j = true := fun j hj => by
  by_cases e : j = k
  · subst e; exact hk
  · exact h j (by omega)
theorem noNext {xs : List Mk} {k : Nat} {x y : Mk} (h : ∀ m, m < k → plcB (xs[m]?.getD mk0) x = false) (hy : xs[k]?.getD mk0 = y) (hk : plcB y x = false) : ∀ m, m < k + 1 → plcB (xs[m]?.getD mk0) x = false := fun j hj => by
  by_cases e : j = k
  · subst e; rw [hy]; exact hk
  · exact h j (by omega)
theorem sPlace_any (n : Int) (w : World) :
    Calls Tryd.prog 40 #[.int .i64 n] w fun e w' => e = .returned (.bool (inB n 0 2000)) ∧ w = w' := by
  go_enter Tryd.func40, Tryd.ntmps40
  go_wp2_with (go_at_call 59; refine (l00In_any _ _ _ _).mono ?_; rintro e w' ⟨rfl, rfl⟩)
  go_ret
  exact ⟨rfl, rfl⟩
theorem l07One_any (x y m : Int) (w : World) :
    Calls Tryd.prog 18 #[.agg #[.int .i64 x, .int .i64 y, .int .i64 m]] w fun e w' => e = .returned (.bool (mrkB (x, y, m))) ∧ Below w.heap.size w w' := by
  cases h1 : inB x 0 2000
  · (go_enter Tryd.func18, Tryd.ntmps18; go_wp2_with (first | (go_at_call 40; refine (sPlace_any _ _).mono ?_; rintro e w' ⟨rfl, rfl⟩) | (go_at_call 41; refine (l02Mag_any _ _).mono ?_; rintro e w' ⟨rfl, rfl⟩)); go_ret; exact ⟨by simp [mrkB, plB, *], by (repeat (first | assumption | exact Below.refl _ _ | refine belowDN ?_ _ | refine Below.drew ?_ | refine Below.setCell ?_ (by first | omega | (simp <;> omega)) _ | refine Below.alloc ?_ (by first | omega | (simp <;> omega)) _ | refine belowCall ?_ (by assumption)))⟩)
  cases h2 : inB y 0 2000
  · (go_enter Tryd.func18, Tryd.ntmps18; go_wp2_with (first | (go_at_call 40; refine (sPlace_any _ _).mono ?_; rintro e w' ⟨rfl, rfl⟩) | (go_at_call 41; refine (l02Mag_any _ _).mono ?_; rintro e w' ⟨rfl, rfl⟩)); go_ret; exact ⟨by simp [mrkB, plB, *], by (repeat (first | assumption | exact Below.refl _ _ | refine belowDN ?_ _ | refine Below.drew ?_ | refine Below.setCell ?_ (by first | omega | (simp <;> omega)) _ | refine Below.alloc ?_ (by first | omega | (simp <;> omega)) _ | refine belowCall ?_ (by assumption)))⟩)
  · (go_enter Tryd.func18, Tryd.ntmps18; go_wp2_with (first | (go_at_call 40; refine (sPlace_any _ _).mono ?_; rintro e w' ⟨rfl, rfl⟩) | (go_at_call 41; refine (l02Mag_any _ _).mono ?_; rintro e w' ⟨rfl, rfl⟩)); go_ret; exact ⟨by simp [mrkB, plB, *], by (repeat (first | assumption | exact Below.refl _ _ | refine belowDN ?_ _ | refine Below.drew ?_ | refine Below.setCell ?_ (by first | omega | (simp <;> omega)) _ | refine Below.alloc ?_ (by first | omega | (simp <;> omega)) _ | refine belowCall ?_ (by assumption)))⟩)
theorem isPlace_any (x y : Int) (w : World) :
    Calls Tryd.prog 43 #[.int .i64 x, .int .i64 y] w fun e w' => e = .returned (.bool (plB x y)) ∧ w = w' := by
  cases h1 : inB x 0 2000
  · go_enter Tryd.func43, Tryd.ntmps43
    go_wp2_with (go_at_call 61; refine (inRange_any _ _ _ _).mono ?_; rintro e w' ⟨rfl, rfl⟩)
    go_ret
    exact ⟨by simp [plB, h1], rfl⟩
  · go_enter Tryd.func43, Tryd.ntmps43
    go_wp2_with (go_at_call 61; refine (inRange_any _ _ _ _).mono ?_; rintro e w' ⟨rfl, rfl⟩)
    go_ret
    exact ⟨by simp [plB, h1], rfl⟩
theorem mkValid_any (x y m : Int) (w : World) :
    Calls Tryd.prog 21 #[.agg #[.int .i64 x, .int .i64 y, .int .i64 m]] w fun e w' => e = .returned (.bool (mrkB (x, y, m))) ∧ Below w.heap.size w w' := by
  cases h1 : plB x y
  · (go_enter Tryd.func21, Tryd.ntmps21; go_wp2_with (first | (go_at_call 43; refine (isPlace_any _ _ _).mono ?_; rintro e w' ⟨rfl, rfl⟩) | (go_at_call 44; refine (iValidMag_any _ _).mono ?_; rintro e w' ⟨rfl, rfl⟩)); go_ret; exact ⟨by simp [mrkB, *], by (repeat (first | assumption | exact Below.refl _ _ | refine belowDN ?_ _ | refine Below.drew ?_ | refine Below.setCell ?_ (by first | omega | (simp <;> omega)) _ | refine Below.alloc ?_ (by first | omega | (simp <;> omega)) _ | refine belowCall ?_ (by assumption)))⟩)
  · (go_enter Tryd.func21, Tryd.ntmps21; go_wp2_with (first | (go_at_call 43; refine (isPlace_any _ _ _).mono ?_; rintro e w' ⟨rfl, rfl⟩) | (go_at_call 44; refine (iValidMag_any _ _).mono ?_; rintro e w' ⟨rfl, rfl⟩)); go_ret; exact ⟨by simp [mrkB, *], by (repeat (first | assumption | exact Below.refl _ _ | refine belowDN ?_ _ | refine Below.drew ?_ | refine Below.setCell ?_ (by first | omega | (simp <;> omega)) _ | refine Below.alloc ?_ (by first | omega | (simp <;> omega)) _ | refine belowCall ?_ (by assumption)))⟩)
end Go.Proofs.YtfabpcdeppfmdabDoor
