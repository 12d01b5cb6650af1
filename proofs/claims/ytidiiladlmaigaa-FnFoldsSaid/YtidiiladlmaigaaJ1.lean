/- Light curves: what a point and a curve are; the small functions on points; the model's check. -/
import Derived.Test.YtidiiladlmaigaaGPt3
import Derived.Test.YtidiiladlmaigaaTM
import Derived.Test.YtidiiladlmaigaaQR
import Derived.Deep.RegionHeld3
import Derived.WalkLawsBesides
import Derived.Handy
namespace Go.Proofs.Ytidiiladlmaigaa
open Go.ChangeShapes Go.WideShapes Go.ChangeAt Go.RowKit Go.Deep

def pvB (x : Pt) : Bool := tmB x.1 && magB x.2
def okAtP (xs : List Pt) (k : Nat) : Bool := pvB (xs[k]?.getD pt0) && (decide (k = 0) || decide ((xs[k - 1]?.getD pt0).1 < (xs[k]?.getD pt0).1))
def okP (xs : List Pt) : Bool := decide (xs.length ≤ 100) && (List.range xs.length).all (okAtP xs)
theorem not_all_rangeP {n k : Nat} {f : Nat → Bool} (hk : k < n) (h : f k = false) : (List.range n).all f = false := by
  rw [List.all_eq_false]
  exact ⟨k, by simpa using hk, by simp [h]⟩
theorem all_rangeP {n : Nat} {f : Nat → Bool} (h : ∀ k, k < n → f k = true) : (List.range n).all f = true := by
  rw [List.all_eq_true]
  intro k hk
  exact h k (by simpa using hk)
theorem okP_long {xs : List Pt} {n : Nat} (hn : xs.length = n) (h : ¬ n ≤ 100) : okP xs = false := by simp [okP, hn, h]
theorem okP_bad {xs : List Pt} {n k : Nat} (hn : xs.length = n) (hk : k < n) (h : okAtP xs k = false) : okP xs = false := by
  rw [okP, not_all_rangeP (k := k) (by omega) h]; simp
theorem okP_yes {xs : List Pt} {n : Nat} (hn : xs.length = n) (h1 : n ≤ 100) (h : ∀ k, k < n → okAtP xs k = true) : okP xs = true := by
  rw [okP, all_rangeP (fun k hk => h k (by omega))]; simp; omega
theorem okP_at {xs : List Pt} {n : Nat} (hn : xs.length = n) (h : okP xs = true) : n ≤ 100 ∧ ∀ k, k < n → okAtP xs k = true := by
  simp only [okP, Bool.and_eq_true, decide_eq_true_eq, List.all_eq_true, List.mem_range] at h
  exact ⟨by omega, fun k hk => h.2 k (by omega)⟩
/-- what a light curve is, in numbers -/
theorem okP_num {xs : List Pt} {n : Nat} (hn : xs.length = n) (h : okP xs = true) : n ≤ 100 ∧ (∀ k, k < n → 0 ≤ (xs[k]?.getD pt0).1 ∧ (xs[k]?.getD pt0).1 ≤ 10000000 ∧ -2000 ≤ (xs[k]?.getD pt0).2 ∧ (xs[k]?.getD pt0).2 ≤ 20000) ∧ ∀ k, k + 1 < n → (xs[k]?.getD pt0).1 < (xs[k + 1]?.getD pt0).1 := by
  obtain ⟨h1, h2⟩ := okP_at hn h
  refine ⟨h1, fun k hk => ?_, fun k hk => ?_⟩
  · have := h2 k hk
    simp only [okAtP, pvB, tmB, magB, Bool.and_eq_true, inB_iff] at this
    omega
  · have := h2 (k + 1) hk
    simp only [okAtP, Bool.and_eq_true, Bool.or_eq_true, decide_eq_true_eq, Nat.add_sub_cancel] at this
    omega
theorem okAtP_no {xs : List Pt} {k : Nat} {x : Pt} (hx : xs[k]?.getD pt0 = x) (h : pvB x = false) : okAtP xs k = false := by simp [okAtP, hx, h]
theorem okAtP_zero {xs : List Pt} {k : Nat} {x : Pt} (hx : xs[k]?.getD pt0 = x) (h : pvB x = true) (hk : k = 0) : okAtP xs k = true := by subst hk; simp [okAtP, hx, h]
theorem okAtP_succ {xs : List Pt} {k : Nat} {x y : Pt} {b : Bool} (hx : xs[k + 1]?.getD pt0 = x) (hy : xs[k]?.getD pt0 = y) (h : pvB x = true) (hb : decide (y.1 < x.1) = b) : okAtP xs (k + 1) = b := by
  simp only [okAtP, hx, h, Nat.add_sub_cancel, hy, hb]
  simp
theorem okP_next {xs : List Pt} {k : Nat} (h : ∀ j, j < k → okAtP xs j = true) (hk : okAtP xs k = true) : ∀ j, j < k + 1 → okAtP xs j = true := fun j hj => by
  by_cases e : j = k
  · subst e; exact hk
  · exact h j (by omega)
set_option maxHeartbeats 1000000 in
theorem ptValid_any (x0 x1 : Int) (w : World) :
    Calls Try.prog 107 #[.agg #[.int .i64 x0, .int .i64 x1]] w fun e w' => e = .returned (.bool (pvB (x0, x1))) ∧ Below w.heap.size w w' := by
  cases h0 : tmB x0
  · (go_enter Try.func107, Try.ntmps107; go_wp2_with (first | (go_at_call 73; refine (iTm_any _ _).mono ?_; rintro e w' ⟨rfl, rfl⟩; rw [h0]) | (go_at_call 108; refine (iValidMag_any _ _).mono ?_; rintro e w' ⟨rfl, rfl⟩)); go_ret; exact ⟨by simp [pvB, *], by (repeat (first | assumption | exact Below.refl _ _ | refine belowDN ?_ _ | refine Below.drew ?_ | refine Below.setCell ?_ (by first | omega | (simp <;> omega)) _ | refine Below.alloc ?_ (by first | omega | (simp <;> omega)) _ | refine belowCall ?_ (by assumption)))⟩)
  (go_enter Try.func107, Try.ntmps107; go_wp2_with (first | (go_at_call 73; refine (iTm_any _ _).mono ?_; rintro e w' ⟨rfl, rfl⟩; rw [h0]) | (go_at_call 108; refine (iValidMag_any _ _).mono ?_; rintro e w' ⟨rfl, rfl⟩)); go_ret; exact ⟨by simp [pvB, *], by (repeat (first | assumption | exact Below.refl _ _ | refine belowDN ?_ _ | refine Below.drew ?_ | refine Below.setCell ?_ (by first | omega | (simp <;> omega)) _ | refine Below.alloc ?_ (by first | omega | (simp <;> omega)) _ | refine belowCall ?_ (by assumption)))⟩)
set_option maxHeartbeats 1000000 in
theorem ptCmp_any (x0 x1 y0 y1 : Int) (w : World) :
    Calls Try.prog 63 #[.agg #[.int .i64 x0, .int .i64 x1], .agg #[.int .i64 y0, .int .i64 y1]] w fun e w' => e = .returned (.int .i64 (sgI x0 y0)) ∧ Below w.heap.size w w' := by
  have hI : ∀ W, Calls Try.prog 77 #[.int .i64 x0, .int .i64 y0] W fun e w' => e = .returned (.int .i64 (sgI x0 y0)) ∧ w' = W := fun W => cmpI_any x0 y0 W
  generalize sgI x0 y0 = r0 at hI
  go_enter Try.func63, Try.ntmps63
  go_wp2_with (go_at_call 77; refine (hI _).mono ?_; rintro e w' ⟨rfl, rfl⟩)
  go_ret
  exact ⟨rfl, by (repeat (first | assumption | exact Below.refl _ _ | refine belowDN ?_ _ | refine Below.drew ?_ | refine Below.setCell ?_ (by first | omega | (simp <;> omega)) _ | refine Below.alloc ?_ (by first | omega | (simp <;> omega)) _ | refine belowCall ?_ (by assumption)))⟩
theorem ptCmp_val (x0 x1 y0 y1 r : Int) (w : World) (hr : sgI x0 y0 = r) :
    Calls Try.prog 63 #[.agg #[.int .i64 x0, .int .i64 x1], .agg #[.int .i64 y0, .int .i64 y1]] w fun e w' => e = .returned (.int .i64 r) ∧ Below w.heap.size w w' :=
  (ptCmp_any x0 x1 y0 y1 w).mono fun _ _ ⟨h1, h2⟩ => ⟨by rw [h1, hr], h2⟩
theorem flipB {P : Program} {f : FuncId} {args : Array Value} {w : World} {x b : Bool} (h : Calls P f args w fun e w' => e = .returned (.bool x) ∧ w = w') (hx : x = b) : Calls P f args w fun e w' => e = .returned (.bool b) ∧ w' = w := by
  subst hx
  exact h.mono fun _ _ hh => ⟨hh.1, hh.2.symm⟩
set_option maxRecDepth 100000 in
set_option maxHeartbeats 4000000 in
theorem l08Ok_any (a : Option Addr) (n c : Nat) (xs : List Pt) (w : World) (h : PtL w a n xs) (hn : n ≤ 1048576) :
    Calls Try.prog 35 #[.slice a n c] w fun e w' => e = .returned (.bool (okP xs)) ∧ Below w.heap.size w w' := by
  have hl : (n : Int) ≤ 1048576 := by omega
  have HL := Lib.hid h.1
  go_enter Try.func35, Try.ntmps35
  go_wp2
  go_loopw [3] (fun i wr => ∃ k : Nat, k ≤ n ∧ i = .int .i64 k ∧ (∀ j, j < k → okAtP xs j = true) ∧ Below w.heap.size w wr) (fun i _ => n - (Go.RowKit.intOf i).toNat)
  case atStart => exact ⟨0, Nat.zero_le _, rfl, fun j hj => absurd hj (by omega), Below.refl _ _⟩
  case round =>
    obtain ⟨k, hk, rfl, hall, hB⟩ := hrel
    have HALL := Lib.hid hall
    clear hall
    by_cases hlt : k < n
    · obtain ⟨b1, o1, rfl, hS⟩ := h.2 k hlt
      obtain ⟨⟨x0, x1⟩, hx⟩ : ∃ x, xs[k]?.getD pt0 = x := ⟨_, rfl⟩
      rw [hx] at hS
      obtain ⟨p, p0, p1⟩ := (hS.mono hB).parts
      have HX := Lib.hid hx
      clear hx hS
      have hkk : (k : Int) < (n : Int) := by omega
      cases h0 : tmB x0
      · have HD := Lib.hid (okP_bad HL.out hlt (okAtP_no HX.out (by simp [pvB, h0])))
        go_wp2
        go_big_quiet ((first | (go_at_call 59; refine Calls.quiet_of_same (flipB (l06Time_any _ _) (by assumption))) | (go_at_call 60; refine Calls.quiet_of_same (flipB (l02Mag_any _ _) (by assumption)))))
        go_wp2
        go_ret
        exact ⟨by rw [HD.out]; rfl, belowDN hB _⟩
      cases h1 : magB x1
      · have HD := Lib.hid (okP_bad HL.out hlt (okAtP_no HX.out (by simp [pvB, h0, h1])))
        go_wp2
        go_big_quiet ((first | (go_at_call 59; refine Calls.quiet_of_same (flipB (l06Time_any _ _) (by assumption))) | (go_at_call 60; refine Calls.quiet_of_same (flipB (l02Mag_any _ _) (by assumption)))))
        go_wp2
        go_ret
        exact ⟨by rw [HD.out]; rfl, belowDN hB _⟩
      by_cases hk0 : 0 < k
      · obtain ⟨k', rfl⟩ : ∃ k', k = k' + 1 := ⟨k - 1, by omega⟩
        obtain ⟨b1', o1', he, hS'⟩ := h.2 k' (by omega)
        cases he
        obtain ⟨⟨y0, y1⟩, hx'⟩ : ∃ x, xs[k']?.getD pt0 = x := ⟨_, rfl⟩
        rw [hx'] at hS'
        obtain ⟨-, q0, q1⟩ := (hS'.mono hB).parts
        have HX' := Lib.hid hx'
        clear hx' hS'
        have hi1 : (k' : Int) < (n : Int) := by omega
        by_cases hless : y0 < x0
        · have HK := Lib.hid (okAtP_succ (b := true) HX.out HX'.out (by simp [pvB, h0, h1]) (by simpa using hless))
          have hge : decide (x0 ≤ y0) = false := by simpa using hless
          go_wp2
          go_big_quiet ((first | (go_at_call 59; refine Calls.quiet_of_same (flipB (l06Time_any _ _) (by assumption))) | (go_at_call 60; refine Calls.quiet_of_same (flipB (l02Mag_any _ _) (by assumption)))))
          go_wp2
          go_roundw
          case rel => exact ⟨k' + 1 + 1, by omega, by go_num, okP_next HALL.out HK.out, belowDN hB _⟩
          case measure => simp [Go.RowKit.intOf]; omega
        · have HD := Lib.hid (okP_bad HL.out hlt (okAtP_succ (b := false) HX.out HX'.out (by simp [pvB, h0, h1]) (by simpa using hless)))
          have hge : decide (x0 ≤ y0) = true := by simpa using hless
          go_wp2
          go_big_quiet ((first | (go_at_call 59; refine Calls.quiet_of_same (flipB (l06Time_any _ _) (by assumption))) | (go_at_call 60; refine Calls.quiet_of_same (flipB (l02Mag_any _ _) (by assumption)))))
          go_wp2
          go_ret
          exact ⟨by rw [HD.out]; rfl, belowDN hB _⟩
      · obtain rfl : k = 0 := by omega
        have HK := Lib.hid (okAtP_zero HX.out (by simp [pvB, h0, h1]) rfl)
        simp only [Nat.zero_mul, Nat.add_zero] at p0 p1
        go_wp2
        go_big_quiet ((first | (go_at_call 59; refine Calls.quiet_of_same (flipB (l06Time_any _ _) (by assumption))) | (go_at_call 60; refine Calls.quiet_of_same (flipB (l02Mag_any _ _) (by assumption)))))
        go_wp2
        go_roundw
        case rel => exact ⟨0 + 1, by omega, by go_num, okP_next HALL.out HK.out, belowDN hB _⟩
        case measure => simp [Go.RowKit.intOf]; omega
    · obtain rfl : k = n := by omega
      by_cases h100 : k ≤ 100
      · have hd : decide ((k : Int) ≤ 100) = true := by simp; omega
        have HD := Lib.hid (okP_yes HL.out h100 HALL.out)
        go_wp2
        go_ret
        exact ⟨by rw [HD.out]; simp [*], hB⟩
      · have hd : decide ((k : Int) ≤ 100) = false := by simp; omega
        have HD := Lib.hid (okP_long HL.out h100)
        go_wp2
        go_ret
        exact ⟨by rw [HD.out]; simp [*], hB⟩
theorem l08Ok_below (a : Option Addr) (n c : Nat) (xs : List Pt) (w : World) (h : PtL w a n xs) (hn : n ≤ 1048576) :
    Calls Try.prog 35 #[.slice a n c] w fun e w' => e = .returned (.bool (okP xs)) ∧ Below w.heap.size w w' := l08Ok_any a n c xs w h hn
end Go.Proofs.Ytidiiladlmaigaa
