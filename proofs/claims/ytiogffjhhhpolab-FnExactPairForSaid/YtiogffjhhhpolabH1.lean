/- Charts: what a chart is; ValidChart, both sides. -/
import Derived.Test.YtiogffjhhhpolabGMk3
import Derived.Test.YtiogffjhhhpolabB7
import Derived.Test.YtiogffjhhhpolabQR
import Derived.Deep.RegionHeld3
import Derived.WalkLawsBesides
import Derived.Handy
namespace Go.Proofs.Ytiogffjhhhpolab
open Go.ChangeShapes Go.WideShapes Go.ChangeAt Go.RowKit Go.Deep

def plB (x y : Int) : Bool := inB x 0 2000 && inB y 0 2000
/-- a mark of a chart -/
def mrkB (x : Mk) : Bool := plB x.1 x.2.1 && magB x.2.2
/-- two marks at one place -/
def plcB (x y : Mk) : Bool := x.1 == y.1 && x.2.1 == y.2.1
theorem plcB_symm (x y : Mk) : plcB x y = plcB y x := by
  unfold plcB
  rw [Bool.eq_iff_iff]
  simp only [Bool.and_eq_true, beq_iff_eq]
  constructor <;> (rintro ⟨h1, h2⟩; exact ⟨h1.symm, h2.symm⟩)
def chF (xs : List Mk) (i : Nat) : Bool := mrkB (xs[i]?.getD mk0) && !(xs.take i).any (plcB (xs[i]?.getD mk0))
def okC (xs : List Mk) : Bool := decide (xs.length ≤ 30) && (List.range xs.length).all (chF xs)
theorem okC_long {xs : List Mk} {n : Nat} (hn : xs.length = n) (h : ¬ n ≤ 30) : okC xs = false := by simp [okC, hn, h]
theorem okC_bad {xs : List Mk} {n k : Nat} (hn : xs.length = n) (hk : k < n) (h : chF xs k = false) : okC xs = false := by
  rw [okC, not_all_range (k := k) (by omega) h]; simp
theorem okC_yes {xs : List Mk} {n : Nat} (hn : xs.length = n) (h1 : n ≤ 30) (h : ∀ k, k < n → chF xs k = true) : okC xs = true := by
  rw [okC, all_range (fun k hk => h k (by omega))]; simp; omega
theorem okC_at {xs : List Mk} {n : Nat} (hn : xs.length = n) (h : okC xs = true) : n ≤ 30 ∧ ∀ k, k < n → chF xs k = true := by
  simp only [okC, Bool.and_eq_true, decide_eq_true_eq, List.all_eq_true, List.mem_range] at h
  exact ⟨by omega, fun k hk => h.2 k (by omega)⟩
theorem okC_mark {xs : List Mk} {n k : Nat} {x : Mk} (hn : xs.length = n) (h : okC xs = true) (hk : k < n) (hx : xs[k]?.getD mk0 = x) : mrkB x = true := by
  have h1 := (okC_at hn h).2 k hk
  simp only [chF, hx, Bool.and_eq_true] at h1
  exact h1.1
theorem mrkB_bd {x0 x1 x2 : Int} (h : mrkB (x0, x1, x2) = true) : (0 ≤ x0 ∧ x0 ≤ 2000) ∧ (0 ≤ x1 ∧ x1 ≤ 2000) ∧ -2000 ≤ x2 ∧ x2 ≤ 20000 := by
  simp only [mrkB, plB, Bool.and_eq_true] at h
  exact ⟨inB_iff.1 h.1.1, inB_iff.1 h.1.2, magB_iff.1 h.2⟩
theorem chF_no {xs : List Mk} {k : Nat} {x : Mk} (hx : xs[k]?.getD mk0 = x) (h : mrkB x = false) : chF xs k = false := by simp [chF, hx, h]
theorem chF_twin {xs : List Mk} {k j n : Nat} {x y : Mk} (hx : xs[k]?.getD mk0 = x) (hy : xs[j]?.getD mk0 = y) (hn : xs.length = n) (hk : k < n) (hj : j < k) (h : plcB y x = true) : chF xs k = false := by
  have : (xs.take k).any (plcB x) = true := by
    rw [List.any_eq_true]
    refine ⟨y, ?_, by rw [plcB_symm]; exact h⟩
    have hlt : j < xs.length := by omega
    rw [List.getElem?_eq_getElem hlt, Option.getD_some] at hy
    rw [← hy]
    exact List.mem_take_iff_getElem.2 ⟨j, by omega, rfl⟩
  simp [chF, hx, this]
theorem chF_yes {xs : List Mk} {k : Nat} {x : Mk} (hx : xs[k]?.getD mk0 = x) (hv : mrkB x = true) (h : ∀ m, m < k → plcB (xs[m]?.getD mk0) x = false) : chF xs k = true := by
  have : (xs.take k).any (plcB x) = false := by
    rw [List.any_eq_false]
    intro y hy
    obtain ⟨j, hj, rfl⟩ := List.mem_take_iff_getElem.1 hy
    have := h j (by omega)
    rw [List.getElem?_eq_getElem (by omega), Option.getD_some, plcB_symm] at this
    simp [this]
  simp [chF, hx, hv, this]
theorem chF_val {xs : List Mk} {k : Nat} {x : Mk} {b : Bool} (hx : xs[k]?.getD mk0 = x) (hv : mrkB x = true) (h : (xs.take k).any (plcB x) = b) : chF xs k = !b := by simp [chF, hx, hv, h]
theorem chF_next {xs : List Mk} {k : Nat} (h : ∀ j, j < k → chF xs j = true) (hk : chF xs k = true) : ∀ j, j < k + 1 → chF xs j = true := fun j hj => by
  by_cases e : j = k
  · subst e; exact hk
  · exact h j (by omega)
theorem noNext {xs : List Mk} {k : Nat} {x y : Mk} (h : ∀ m, m < k → plcB (xs[m]?.getD mk0) x = false) (hy : xs[k]?.getD mk0 = y) (hk : plcB y x = false) : ∀ m, m < k + 1 → plcB (xs[m]?.getD mk0) x = false := fun j hj => by
  by_cases e : j = k
  · subst e; rw [hy]; exact hk
  · exact h j (by omega)
theorem sPlace_any (n : Int) (w : World) :
    Calls Try.prog 145 #[.int .i64 n] w fun e w' => e = .returned (.bool (inB n 0 2000)) ∧ w = w' := by
  go_enter Try.func145, Try.ntmps145
  go_wp2_with (go_at_call 79; refine (l00In_any _ _ _ _).mono ?_; rintro e w' ⟨rfl, rfl⟩)
  go_ret
  exact ⟨rfl, rfl⟩
theorem l07One_any (x y m : Int) (w : World) :
    Calls Try.prog 119 #[.agg #[.int .i64 x, .int .i64 y, .int .i64 m]] w fun e w' => e = .returned (.bool (mrkB (x, y, m))) ∧ Below w.heap.size w w' := by
  cases h1 : inB x 0 2000
  · (go_enter Try.func119, Try.ntmps119; go_wp2_with (first | (go_at_call 145; refine (sPlace_any _ _).mono ?_; rintro e w' ⟨rfl, rfl⟩) | (go_at_call 83; refine (l02Mag_any _ _).mono ?_; rintro e w' ⟨rfl, rfl⟩)); go_ret; exact ⟨by simp [mrkB, plB, *], by (repeat (first | assumption | exact Below.refl _ _ | refine belowDN ?_ _ | refine Below.drew ?_ | refine Below.setCell ?_ (by first | omega | (simp <;> omega)) _ | refine Below.alloc ?_ (by first | omega | (simp <;> omega)) _ | refine belowCall ?_ (by assumption)))⟩)
  cases h2 : inB y 0 2000
  · (go_enter Try.func119, Try.ntmps119; go_wp2_with (first | (go_at_call 145; refine (sPlace_any _ _).mono ?_; rintro e w' ⟨rfl, rfl⟩) | (go_at_call 83; refine (l02Mag_any _ _).mono ?_; rintro e w' ⟨rfl, rfl⟩)); go_ret; exact ⟨by simp [mrkB, plB, *], by (repeat (first | assumption | exact Below.refl _ _ | refine belowDN ?_ _ | refine Below.drew ?_ | refine Below.setCell ?_ (by first | omega | (simp <;> omega)) _ | refine Below.alloc ?_ (by first | omega | (simp <;> omega)) _ | refine belowCall ?_ (by assumption)))⟩)
  · (go_enter Try.func119, Try.ntmps119; go_wp2_with (first | (go_at_call 145; refine (sPlace_any _ _).mono ?_; rintro e w' ⟨rfl, rfl⟩) | (go_at_call 83; refine (l02Mag_any _ _).mono ?_; rintro e w' ⟨rfl, rfl⟩)); go_ret; exact ⟨by simp [mrkB, plB, *], by (repeat (first | assumption | exact Below.refl _ _ | refine belowDN ?_ _ | refine Below.drew ?_ | refine Below.setCell ?_ (by first | omega | (simp <;> omega)) _ | refine Below.alloc ?_ (by first | omega | (simp <;> omega)) _ | refine belowCall ?_ (by assumption)))⟩)
theorem isPlace_any (x y : Int) (w : World) :
    Calls Try.prog 146 #[.int .i64 x, .int .i64 y] w fun e w' => e = .returned (.bool (plB x y)) ∧ w = w' := by
  cases h1 : inB x 0 2000
  · go_enter Try.func146, Try.ntmps146
    go_wp2_with (go_at_call 80; refine (inRange_any _ _ _ _).mono ?_; rintro e w' ⟨rfl, rfl⟩)
    go_ret
    exact ⟨by simp [plB, h1], rfl⟩
  · go_enter Try.func146, Try.ntmps146
    go_wp2_with (go_at_call 80; refine (inRange_any _ _ _ _).mono ?_; rintro e w' ⟨rfl, rfl⟩)
    go_ret
    exact ⟨by simp [plB, h1], rfl⟩
theorem mkValid_any (x y m : Int) (w : World) :
    Calls Try.prog 121 #[.agg #[.int .i64 x, .int .i64 y, .int .i64 m]] w fun e w' => e = .returned (.bool (mrkB (x, y, m))) ∧ Below w.heap.size w w' := by
  cases h1 : plB x y
  · (go_enter Try.func121, Try.ntmps121; go_wp2_with (first | (go_at_call 146; refine (isPlace_any _ _ _).mono ?_; rintro e w' ⟨rfl, rfl⟩) | (go_at_call 85; refine (iValidMag_any _ _).mono ?_; rintro e w' ⟨rfl, rfl⟩)); go_ret; exact ⟨by simp [mrkB, *], by (repeat (first | assumption | exact Below.refl _ _ | refine belowDN ?_ _ | refine Below.drew ?_ | refine Below.setCell ?_ (by first | omega | (simp <;> omega)) _ | refine Below.alloc ?_ (by first | omega | (simp <;> omega)) _ | refine belowCall ?_ (by assumption)))⟩)
  · (go_enter Try.func121, Try.ntmps121; go_wp2_with (first | (go_at_call 146; refine (isPlace_any _ _ _).mono ?_; rintro e w' ⟨rfl, rfl⟩) | (go_at_call 85; refine (iValidMag_any _ _).mono ?_; rintro e w' ⟨rfl, rfl⟩)); go_ret; exact ⟨by simp [mrkB, *], by (repeat (first | assumption | exact Below.refl _ _ | refine belowDN ?_ _ | refine Below.drew ?_ | refine Below.setCell ?_ (by first | omega | (simp <;> omega)) _ | refine Below.alloc ?_ (by first | omega | (simp <;> omega)) _ | refine belowCall ?_ (by assumption)))⟩)
theorem isWith_any (x0 x1 x2 y0 y1 y2 : Int) (w : World) :
    Calls Try.prog 123 #[.agg #[.int .i64 x0, .int .i64 x1, .int .i64 x2], .agg #[.int .i64 y0, .int .i64 y1, .int .i64 y2]] w fun e w' => e = .returned (.bool (plcB (x0, x1, x2) (y0, y1, y2))) ∧ Below w.heap.size w w' := by
  cases h0 : (x0 == y0)
  · (go_enter Try.func123, Try.ntmps123; go_wp2; go_ret; exact ⟨by simp [plcB, *], by (repeat (first | assumption | exact Below.refl _ _ | refine belowDN ?_ _ | refine Below.drew ?_ | refine Below.setCell ?_ (by first | omega | (simp <;> omega)) _ | refine Below.alloc ?_ (by first | omega | (simp <;> omega)) _ | refine belowCall ?_ (by assumption)))⟩)
  · (go_enter Try.func123, Try.ntmps123; go_wp2; go_ret; exact ⟨by simp [plcB, *], by (repeat (first | assumption | exact Below.refl _ _ | refine belowDN ?_ _ | refine Below.drew ?_ | refine Below.setCell ?_ (by first | omega | (simp <;> omega)) _ | refine Below.alloc ?_ (by first | omega | (simp <;> omega)) _ | refine belowCall ?_ (by assumption)))⟩)
def anyW (x : Mk) (ys : List Mk) : Bool := ys.any (plcB x)
theorem anyW_yes {x : Mk} {ys : List Mk} {n k : Nat} {y : Mk} (hn : ys.length = n) (hk : k < n) (hy : ys[k]?.getD mk0 = y) (h : plcB x y = true) : anyW x ys = true := by
  rw [anyW, List.any_eq_true]
  rw [List.getElem?_eq_getElem (by omega), Option.getD_some] at hy
  exact ⟨y, by rw [← hy]; exact List.getElem_mem _, h⟩
theorem anyW_no {x : Mk} {ys : List Mk} {n : Nat} (hn : ys.length = n) (h : ∀ j, j < n → plcB x (ys[j]?.getD mk0) = false) : anyW x ys = false := by
  rw [anyW, List.any_eq_false]
  intro y hy
  obtain ⟨j, hj, rfl⟩ := List.getElem_of_mem hy
  have := h j (by omega)
  simpa [hj] using this
def IdxW (x : Mk) (ys : List Mk) (w : World) (e : Ending) (w' : World) : Prop := ∃ r : Int, e = .returned (.int .i64 r) ∧ decide (0 ≤ r) = anyW x ys ∧ Below w.heap.size w w'
set_option maxRecDepth 100000 in
set_option maxHeartbeats 1000000 in
theorem idxMk_any (a : Option Addr) (n cap : Nat) (x0 x1 x2 : Int) (ys : List Mk) (w : World) (h : MkL w a n ys) (hn : n ≤ 1048576) :
    Calls Try.prog 147 #[.slice a n cap, .func (.func 123) #[.agg #[.int .i64 x0, .int .i64 x1, .int .i64 x2]] #[]] w (IdxW (x0, x1, x2) ys w) := by
  have hl : (n : Int) ≤ 1048576 := by omega
  have HL := Lib.hid h.1
  go_enter Try.func147, Try.ntmps147
  go_wp2
  go_loopw [8] (fun i wr => ∃ k : Nat, k ≤ n ∧ i = .int .i64 k ∧ (∀ j, j < k → plcB (x0, x1, x2) (ys[j]?.getD mk0) = false) ∧ Below w.heap.size w wr) (fun i _ => n - (Go.RowKit.intOf i).toNat)
  case atStart => exact ⟨0, Nat.zero_le _, rfl, fun j hj => absurd hj (by omega), Below.refl _ _⟩
  case round =>
    obtain ⟨k, hk, rfl, hall, hB⟩ := hrel
    have HALL := Lib.hid hall
    clear hall
    by_cases hlt : k < n
    · obtain ⟨b1, o1, rfl, hc⟩ := h.2 k hlt
      obtain ⟨⟨y0, y1, y2⟩, hy⟩ : ∃ x, ys[k]?.getD mk0 = x := ⟨_, rfl⟩
      rw [hy] at hc
      obtain ⟨p, p0, p1, p2⟩ := (hc.mono hB).parts
      have HY := Lib.hid hy
      clear hy
      have hkk : (k : Int) < (n : Int) := by omega
      cases hv : plcB (x0, x1, x2) (y0, y1, y2)
      · have HK := Lib.hid (show ∀ j, j < k + 1 → plcB (x0, x1, x2) (ys[j]?.getD mk0) = false from fun j hj => by
          by_cases e : j = k
          · subst e; rw [HY.out]; exact hv
          · exact HALL.out j (by omega))
        go_wp2_with fail
        refine (isWith_any x0 x1 x2 y0 y1 y2 wr).mono ?_
        rintro e w2 ⟨rfl, b2⟩
        rw [hv]
        have hB2 := belowCall hB b2
        go_wp2
        go_roundw
        case rel => exact ⟨k + 1, by omega, by go_num, HK.out, hB2⟩
        case measure => simp [Go.RowKit.intOf]; omega
      · have HD := Lib.hid (anyW_yes HL.out hlt HY.out hv)
        go_wp2_with fail
        refine (isWith_any x0 x1 x2 y0 y1 y2 wr).mono ?_
        rintro e w2 ⟨rfl, b2⟩
        rw [hv]
        have hB2 := belowCall hB b2
        go_wp2
        go_ret
        exact ⟨k, rfl, by rw [HD.out]; simp, hB2⟩
    · obtain rfl : k = n := by omega
      have HD := Lib.hid (anyW_no HL.out HALL.out)
      go_wp2
      go_ret
      exact ⟨-1, rfl, by rw [HD.out]; simp, hB⟩
theorem conMk_any (a : Option Addr) (n cap : Nat) (x0 x1 x2 : Int) (ys : List Mk) (w : World) (h : MkL w a n ys) (hn : n ≤ 1048576) :
    Calls Try.prog 122 #[.slice a n cap, .func (.func 123) #[.agg #[.int .i64 x0, .int .i64 x1, .int .i64 x2]] #[]] w fun e w' => e = .returned (.bool (anyW (x0, x1, x2) ys)) ∧ Below w.heap.size w w' := by
  go_enter Try.func122, Try.ntmps122
  go_wp2_with fail
  refine (idxMk_any a n cap x0 x1 x2 ys w h hn).mono ?_
  rintro e w2 ⟨r, rfl, hr, b2⟩
  have HR := Lib.hid hr
  clear hr
  go_wp2
  go_ret
  exact ⟨by rw [← HR.out]; rfl, b2⟩
end Go.Proofs.Ytiogffjhhhpolab
