/- Contracts of chapter 3's functions of times (no dates, no texts), the program's and the model's, over one seat's translation. -/
import Derived.Test.YtfebellnmdfpiaaB1
namespace Go.Proofs.Ytfebellnmdfpiaa
open Go.ChangeShapes Go.WideShapes Go.ChangeAt Go.RowKit

def timB (t : Int) : Bool := inB t 0 10000000
theorem timB_iff {t : Int} : timB t = true ↔ 0 ≤ t ∧ t ≤ 10000000 := inB_iff
def pr (a b : Int) : Value := .tuple #[.int .i64 a, .int .i64 b]
def dayV (t : Int) : Value := if timB t then pr (t / 10000) 0 else pr 0 2
def clkV (t : Int) : Value := if timB t then .tuple #[.int .i64 (t % 10000 * 1440 / 10000 / 60), .int .i64 (t % 10000 * 1440 / 10000 % 60), .int .i64 0] else .tuple #[.int .i64 0, .int .i64 0, .int .i64 2]
def tmN (d h m : Int) : Int := d * 10000 + ((60 * h + m) * 10000 + 1439) / 1440
def tmOk (d h m : Int) : Bool := inB d 0 100000 && inB h 0 23 && inB m 0 59
def tmV (d h m : Int) : Value := if tmOk d h m then (if timB (tmN d h m) then pr (tmN d h m) 0 else pr 0 5) else pr 0 2
def wkV (d : Int) : Value := if inB d 0 100000 then pr (d % 7 + 1) 0 else pr 0 2
def hrV (a b : Int) : Value := if timB a && timB b then .tuple #[.agg #[.int .i64 (lowN (24 * (b - a)) 10000), .int .i64 (lowD (24 * (b - a)) 10000)], .int .i64 0] else .tuple #[.agg #[.int .i64 0, .int .i64 0], .int .i64 2]
theorem iValidTime_any (t : Int) (w : World) :
    Calls Try.prog 12 #[.int .i64 t] w fun e w' => e = .returned (.bool (timB t)) ∧ w = w' := by
  go_enter Try.func12, Try.ntmps12
  go_wp2_with (go_at_call 34; refine (inRange_any _ _ _ _).mono ?_; rintro e w' ⟨rfl, rfl⟩)
  go_ret
  exact ⟨rfl, rfl⟩
theorem isDay_any (t : Int) (w : World) :
    Calls Try.prog 36 #[.int .i64 t] w fun e w' => e = .returned (.bool (inB t 0 100000)) ∧ w = w' := by
  go_enter Try.func36, Try.ntmps36
  go_wp2_with (go_at_call 34; refine (inRange_any _ _ _ _).mono ?_; rintro e w' ⟨rfl, rfl⟩)
  go_ret
  exact ⟨rfl, rfl⟩
theorem l03Time_any (t : Int) (w : World) :
    Calls Try.prog 33 #[.int .i64 t] w fun e w' => e = .returned (.bool (timB t)) ∧ w = w' := by
  go_enter Try.func33, Try.ntmps33
  go_wp2_with (go_at_call 35; refine (l00In_any _ _ _ _).mono ?_; rintro e w' ⟨rfl, rfl⟩)
  go_ret
  exact ⟨rfl, rfl⟩
theorem sValidTime_any (t : Int) (w : World) :
    Calls Try.prog 11 #[.int .i64 t] w fun e w' => e = .returned (.bool (timB t)) ∧ w = w' := by
  go_enter Try.func11, Try.ntmps11
  go_wp2_with (go_at_call 33; refine (l03Time_any _ _).mono ?_; rintro e w' ⟨rfl, rfl⟩)
  go_ret
  exact ⟨rfl, rfl⟩
theorem iDayOf_any (t : Int) (w : World) :
    Calls Try.prog 14 #[.int .i64 t] w fun e w' => e = .returned (dayV t) ∧ w = w' := by
  cases h : timB t
  · have HD : Hid (dayV t = pr 0 2) := by rw [dayV, h]; exact rfl
    go_enter Try.func14, Try.ntmps14
    go_wp2_with (go_at_call 12; refine (iValidTime_any _ _).mono ?_; rintro e w' ⟨rfl, rfl⟩)
    go_ret2
    exact ⟨by rw [HD.out]; rfl, rfl⟩
  · have HD : Hid (dayV t = pr (t / 10000) 0) := by rw [dayV, h]; exact rfl
    obtain ⟨t1, t2⟩ := timB_iff.1 h
    go_enter Try.func14, Try.ntmps14
    go_wp2_with (go_at_call 12; refine (iValidTime_any _ _).mono ?_; rintro e w' ⟨rfl, rfl⟩)
    go_ret2
    exact ⟨by rw [HD.out]; rfl, rfl⟩
theorem sDayOf_any (t : Int) (w : World) :
    Calls Try.prog 13 #[.int .i64 t] w fun e w' => e = .returned (dayV t) ∧ w = w' := by
  cases h : timB t
  · have HD : Hid (dayV t = pr 0 2) := by rw [dayV, h]; exact rfl
    go_enter Try.func13, Try.ntmps13
    go_wp2_with (go_at_call 33; refine (l03Time_any _ _).mono ?_; rintro e w' ⟨rfl, rfl⟩)
    go_ret2
    exact ⟨by rw [HD.out]; rfl, rfl⟩
  · have HD : Hid (dayV t = pr (t / 10000) 0) := by rw [dayV, h]; exact rfl
    obtain ⟨t1, t2⟩ := timB_iff.1 h
    go_enter Try.func13, Try.ntmps13
    go_wp2_with (go_at_call 33; refine (l03Time_any _ _).mono ?_; rintro e w' ⟨rfl, rfl⟩)
    go_ret2
    exact ⟨by rw [HD.out]; rfl, rfl⟩
theorem iClockOf_any (t : Int) (w : World) :
    Calls Try.prog 16 #[.int .i64 t] w fun e w' => e = .returned (clkV t) ∧ w = w' := by
  cases h : timB t
  · have HD : Hid (clkV t = .tuple #[.int .i64 0, .int .i64 0, .int .i64 2]) := by rw [clkV, h]; exact rfl
    go_enter Try.func16, Try.ntmps16
    go_wp2_with (go_at_call 12; refine (iValidTime_any _ _).mono ?_; rintro e w' ⟨rfl, rfl⟩)
    exact bodyPost_ret (v := .tuple #[.int .i64 0, .int .i64 0, .int .i64 2]) (by simp [results, Try.results16, go_sem]) rfl ⟨by rw [HD.out], rfl⟩
  · have HD : Hid (clkV t = .tuple #[.int .i64 (t % 10000 * 1440 / 10000 / 60), .int .i64 (t % 10000 * 1440 / 10000 % 60), .int .i64 0]) := by rw [clkV, h]; exact rfl
    obtain ⟨t1, t2⟩ := timB_iff.1 h
    have m1 : 0 ≤ t % 10000 := by omega
    have m2 : t % 10000 ≤ 9999 := by omega
    go_enter Try.func16, Try.ntmps16
    go_wp2_with (go_at_call 12; refine (iValidTime_any _ _).mono ?_; rintro e w' ⟨rfl, rfl⟩)
    exact bodyPost_ret (v := .tuple #[.int .i64 (t % 10000 * 1440 / 10000 / 60), .int .i64 (t % 10000 * 1440 / 10000 % 60), .int .i64 0]) (by simp [results, Try.results16, go_sem]) rfl ⟨by rw [HD.out], rfl⟩
theorem sClockOf_any (t : Int) (w : World) :
    Calls Try.prog 15 #[.int .i64 t] w fun e w' => e = .returned (clkV t) ∧ w = w' := by
  cases h : timB t
  · have HD : Hid (clkV t = .tuple #[.int .i64 0, .int .i64 0, .int .i64 2]) := by rw [clkV, h]; exact rfl
    go_enter Try.func15, Try.ntmps15
    go_wp2_with (go_at_call 33; refine (l03Time_any _ _).mono ?_; rintro e w' ⟨rfl, rfl⟩)
    exact bodyPost_ret (v := .tuple #[.int .i64 0, .int .i64 0, .int .i64 2]) (by simp [results, Try.results15, go_sem]) rfl ⟨by rw [HD.out], rfl⟩
  · have HD : Hid (clkV t = .tuple #[.int .i64 (t % 10000 * 1440 / 10000 / 60), .int .i64 (t % 10000 * 1440 / 10000 % 60), .int .i64 0]) := by rw [clkV, h]; exact rfl
    obtain ⟨t1, t2⟩ := timB_iff.1 h
    have m1 : 0 ≤ t % 10000 := by omega
    have m2 : t % 10000 ≤ 9999 := by omega
    go_enter Try.func15, Try.ntmps15
    go_wp2_with (go_at_call 33; refine (l03Time_any _ _).mono ?_; rintro e w' ⟨rfl, rfl⟩)
    exact bodyPost_ret (v := .tuple #[.int .i64 (t % 10000 * 1440 / 10000 / 60), .int .i64 (t % 10000 * 1440 / 10000 % 60), .int .i64 0]) (by simp [results, Try.results15, go_sem]) rfl ⟨by rw [HD.out], rfl⟩
theorem iTimeOf_any (d h m : Int) (w : World) :
    Calls Try.prog 18 #[.int .i64 d, .int .i64 h, .int .i64 m] w fun e w' => e = .returned (tmV d h m) ∧ w = w' := by
  cases h1 : inB d 0 100000
  case false => go_enter Try.func18, Try.ntmps18; go_wp2_with (first | (go_at_call 12; refine (iValidTime_any _ _).mono ?_; rintro e w' ⟨rfl, rfl⟩) | (go_at_call 36; refine (isDay_any _ _).mono ?_; rintro e w' ⟨rfl, rfl⟩) | (go_at_call 34; refine (inRange_any _ _ _ _).mono ?_; rintro e w' ⟨rfl, rfl⟩)); go_ret2; exact ⟨by simp [tmV, tmOk, pr, *], rfl⟩
  cases h2 : inB h 0 23
  case false => go_enter Try.func18, Try.ntmps18; go_wp2_with (first | (go_at_call 12; refine (iValidTime_any _ _).mono ?_; rintro e w' ⟨rfl, rfl⟩) | (go_at_call 36; refine (isDay_any _ _).mono ?_; rintro e w' ⟨rfl, rfl⟩) | (go_at_call 34; refine (inRange_any _ _ _ _).mono ?_; rintro e w' ⟨rfl, rfl⟩)); go_ret2; exact ⟨by simp [tmV, tmOk, pr, *], rfl⟩
  cases h3 : inB m 0 59
  case false => go_enter Try.func18, Try.ntmps18; go_wp2_with (first | (go_at_call 12; refine (iValidTime_any _ _).mono ?_; rintro e w' ⟨rfl, rfl⟩) | (go_at_call 36; refine (isDay_any _ _).mono ?_; rintro e w' ⟨rfl, rfl⟩) | (go_at_call 34; refine (inRange_any _ _ _ _).mono ?_; rintro e w' ⟨rfl, rfl⟩)); go_ret2; exact ⟨by simp [tmV, tmOk, pr, *], rfl⟩
  have hok : tmOk d h m = true := by simp only [tmOk, h1, h2, h3, Bool.and_self]
  obtain ⟨d1, d2⟩ := inB_iff.1 h1
  obtain ⟨e1, e2⟩ := inB_iff.1 h2
  obtain ⟨m1, m2⟩ := inB_iff.1 h3
  have he : d * 10000 + ((h * 60 + m) * 10000 + 1440 - 1) / 1440 = tmN d h m := by unfold tmN; omega
  cases h4 : timB (d * 10000 + ((h * 60 + m) * 10000 + 1440 - 1) / 1440)
  · have HF : Hid (pr 0 5 = tmV d h m) := by rw [tmV, if_pos hok, ← he, if_neg (by simp [h4])]; exact rfl
    clear hok he
    go_enter Try.func18, Try.ntmps18; go_wp2_with (first | (go_at_call 12; refine (iValidTime_any _ _).mono ?_; rintro e w' ⟨rfl, rfl⟩) | (go_at_call 36; refine (isDay_any _ _).mono ?_; rintro e w' ⟨rfl, rfl⟩) | (go_at_call 34; refine (inRange_any _ _ _ _).mono ?_; rintro e w' ⟨rfl, rfl⟩)); go_ret2; exact ⟨by rw [← HF.out]; rfl, rfl⟩
  · have HF : Hid (pr (d * 10000 + ((h * 60 + m) * 10000 + 1440 - 1) / 1440) 0 = tmV d h m) := by rw [tmV, if_pos hok, ← he, if_pos h4]; exact rfl
    clear hok he
    go_enter Try.func18, Try.ntmps18; go_wp2_with (first | (go_at_call 12; refine (iValidTime_any _ _).mono ?_; rintro e w' ⟨rfl, rfl⟩) | (go_at_call 36; refine (isDay_any _ _).mono ?_; rintro e w' ⟨rfl, rfl⟩) | (go_at_call 34; refine (inRange_any _ _ _ _).mono ?_; rintro e w' ⟨rfl, rfl⟩)); go_ret2; exact ⟨by rw [← HF.out]; rfl, rfl⟩
theorem sTimeOf_any (d h m : Int) (w : World) :
    Calls Try.prog 17 #[.int .i64 d, .int .i64 h, .int .i64 m] w fun e w' => e = .returned (tmV d h m) ∧ w = w' := by
  cases h1 : inB d 0 100000
  case false => go_enter Try.func17, Try.ntmps17; go_wp2_with (first | (go_at_call 33; refine (l03Time_any _ _).mono ?_; rintro e w' ⟨rfl, rfl⟩) | (go_at_call 35; refine (l00In_any _ _ _ _).mono ?_; rintro e w' ⟨rfl, rfl⟩)); go_ret2; exact ⟨by simp [tmV, tmOk, pr, *], rfl⟩
  cases h2 : inB h 0 23
  case false => go_enter Try.func17, Try.ntmps17; go_wp2_with (first | (go_at_call 33; refine (l03Time_any _ _).mono ?_; rintro e w' ⟨rfl, rfl⟩) | (go_at_call 35; refine (l00In_any _ _ _ _).mono ?_; rintro e w' ⟨rfl, rfl⟩)); go_ret2; exact ⟨by simp [tmV, tmOk, pr, *], rfl⟩
  cases h3 : inB m 0 59
  case false => go_enter Try.func17, Try.ntmps17; go_wp2_with (first | (go_at_call 33; refine (l03Time_any _ _).mono ?_; rintro e w' ⟨rfl, rfl⟩) | (go_at_call 35; refine (l00In_any _ _ _ _).mono ?_; rintro e w' ⟨rfl, rfl⟩)); go_ret2; exact ⟨by simp [tmV, tmOk, pr, *], rfl⟩
  have hok : tmOk d h m = true := by simp only [tmOk, h1, h2, h3, Bool.and_self]
  obtain ⟨d1, d2⟩ := inB_iff.1 h1
  obtain ⟨e1, e2⟩ := inB_iff.1 h2
  obtain ⟨m1, m2⟩ := inB_iff.1 h3
  cases h4 : timB (d * 10000 + ((60 * h + m) * 10000 + 1439) / 1440)
  · have HF : Hid (pr 0 5 = tmV d h m) := by rw [tmV, if_pos hok, if_neg (by unfold tmN; simp [h4])]; exact rfl
    clear hok
    go_enter Try.func17, Try.ntmps17; go_wp2_with (first | (go_at_call 33; refine (l03Time_any _ _).mono ?_; rintro e w' ⟨rfl, rfl⟩) | (go_at_call 35; refine (l00In_any _ _ _ _).mono ?_; rintro e w' ⟨rfl, rfl⟩)); go_ret2; exact ⟨by rw [← HF.out]; rfl, rfl⟩
  · have HF : Hid (pr (d * 10000 + ((60 * h + m) * 10000 + 1439) / 1440) 0 = tmV d h m) := by rw [tmV, if_pos hok, if_pos (by unfold tmN; exact h4)]; exact rfl
    clear hok
    go_enter Try.func17, Try.ntmps17; go_wp2_with (first | (go_at_call 33; refine (l03Time_any _ _).mono ?_; rintro e w' ⟨rfl, rfl⟩) | (go_at_call 35; refine (l00In_any _ _ _ _).mono ?_; rintro e w' ⟨rfl, rfl⟩)); go_ret2; exact ⟨by rw [← HF.out]; rfl, rfl⟩
theorem iWeek_any (t : Int) (w : World) :
    Calls Try.prog 23 #[.int .i64 t] w fun e w' => e = .returned (wkV t) ∧ w = w' := by
  cases h : inB t 0 100000
  · have HD : Hid (wkV t = pr 0 2) := by rw [wkV, h]; exact rfl
    go_enter Try.func23, Try.ntmps23
    go_wp2_with (go_at_call 36; refine (isDay_any _ _).mono ?_; rintro e w' ⟨rfl, rfl⟩)
    go_ret2
    exact ⟨by rw [HD.out]; rfl, rfl⟩
  · have HD : Hid (wkV t = pr (t % 7 + 1) 0) := by rw [wkV, h]; exact rfl
    obtain ⟨t1, t2⟩ := inB_iff.1 h
    have m1 : 0 ≤ t % 7 := by omega
    have m2 : t % 7 ≤ 6 := by omega
    go_enter Try.func23, Try.ntmps23
    go_wp2_with (go_at_call 36; refine (isDay_any _ _).mono ?_; rintro e w' ⟨rfl, rfl⟩)
    go_ret2
    exact ⟨by rw [HD.out]; rfl, rfl⟩
theorem sWeek_any (t : Int) (w : World) :
    Calls Try.prog 22 #[.int .i64 t] w fun e w' => e = .returned (wkV t) ∧ w = w' := by
  cases h : inB t 0 100000
  · have HD : Hid (wkV t = pr 0 2) := by rw [wkV, h]; exact rfl
    go_enter Try.func22, Try.ntmps22
    go_wp2_with (go_at_call 35; refine (l00In_any _ _ _ _).mono ?_; rintro e w' ⟨rfl, rfl⟩)
    go_ret2
    exact ⟨by rw [HD.out]; rfl, rfl⟩
  · have HD : Hid (wkV t = pr (t % 7 + 1) 0) := by rw [wkV, h]; exact rfl
    obtain ⟨t1, t2⟩ := inB_iff.1 h
    have m1 : 0 ≤ t % 7 := by omega
    have m2 : t % 7 ≤ 6 := by omega
    go_enter Try.func22, Try.ntmps22
    go_wp2_with (go_at_call 35; refine (l00In_any _ _ _ _).mono ?_; rintro e w' ⟨rfl, rfl⟩)
    go_ret2
    exact ⟨by rw [HD.out]; rfl, rfl⟩
theorem iHours_any (a b : Int) (w : World) :
    Calls Try.prog 20 #[.int .i64 a, .int .i64 b] w fun e w' => e = .returned (hrV a b) ∧ Below w.heap.size w w' := by
  cases ha : timB a
  case false => go_enter Try.func20, Try.ntmps20; go_wp2_with (first | (go_at_call 12; refine (iValidTime_any _ _).mono ?_; rintro e w' ⟨rfl, rfl⟩) | (go_at_call 38; refine (lowest_any _ _ _ (by omega) (by omega) (by omega) (by omega)).mono ?_; rintro e w' ⟨rfl, hbel⟩; obtain ⟨hc, hf⟩ := bcell hbel; have hz := hbel.size; (try simp at hz); (try simp only [Nat.add_one_le_iff] at hz); (try (have hzw : w.heap.size < w'.heap.size := by omega)))); exact bodyPost_ret (v := .tuple #[.agg #[.int .i64 0, .int .i64 0], .int .i64 2]) (by simp [results, Try.results20, go_sem]) rfl ⟨by simp [hrV, *], by (repeat (first | assumption | exact Below.refl _ _ | refine belowDN ?_ _ | refine Below.drew ?_ | refine Below.setCell ?_ (by first | omega | (simp <;> omega)) _ | refine Below.alloc ?_ (by first | omega | (simp <;> omega)) _ | refine belowCall ?_ (by assumption)))⟩
  cases hb : timB b
  case false => go_enter Try.func20, Try.ntmps20; go_wp2_with (first | (go_at_call 12; refine (iValidTime_any _ _).mono ?_; rintro e w' ⟨rfl, rfl⟩) | (go_at_call 38; refine (lowest_any _ _ _ (by omega) (by omega) (by omega) (by omega)).mono ?_; rintro e w' ⟨rfl, hbel⟩; obtain ⟨hc, hf⟩ := bcell hbel; have hz := hbel.size; (try simp at hz); (try simp only [Nat.add_one_le_iff] at hz); (try (have hzw : w.heap.size < w'.heap.size := by omega)))); exact bodyPost_ret (v := .tuple #[.agg #[.int .i64 0, .int .i64 0], .int .i64 2]) (by simp [results, Try.results20, go_sem]) rfl ⟨by simp [hrV, *], by (repeat (first | assumption | exact Below.refl _ _ | refine belowDN ?_ _ | refine Below.drew ?_ | refine Below.setCell ?_ (by first | omega | (simp <;> omega)) _ | refine Below.alloc ?_ (by first | omega | (simp <;> omega)) _ | refine belowCall ?_ (by assumption)))⟩
  obtain ⟨a1, a2⟩ := timB_iff.1 ha
  obtain ⟨b1, b2⟩ := timB_iff.1 hb
  go_enter Try.func20, Try.ntmps20; go_wp2_with (first | (go_at_call 12; refine (iValidTime_any _ _).mono ?_; rintro e w' ⟨rfl, rfl⟩) | (go_at_call 38; refine (lowest_any _ _ _ (by omega) (by omega) (by omega) (by omega)).mono ?_; rintro e w' ⟨rfl, hbel⟩; obtain ⟨hc, hf⟩ := bcell hbel; have hz := hbel.size; (try simp at hz); (try simp only [Nat.add_one_le_iff] at hz); (try (have hzw : w.heap.size < w'.heap.size := by omega))))
  exact bodyPost_ret (v := .tuple #[.agg #[.int .i64 (lowN (24 * (b - a)) 10000), .int .i64 (lowD (24 * (b - a)) 10000)], .int .i64 0]) (by simp [results, Try.results20, go_sem, hc]) rfl ⟨by simp [hrV, *], by (repeat (first | assumption | exact Below.refl _ _ | refine belowDN ?_ _ | refine Below.drew ?_ | refine Below.setCell ?_ (by first | omega | (simp <;> omega)) _ | refine Below.alloc ?_ (by first | omega | (simp <;> omega)) _ | refine belowCall ?_ (by assumption)))⟩
theorem sHours_any (a b : Int) (w : World) :
    Calls Try.prog 19 #[.int .i64 a, .int .i64 b] w fun e w' => e = .returned (hrV a b) ∧ Below w.heap.size w w' := by
  cases ha : timB a
  case false => go_enter Try.func19, Try.ntmps19; go_wp2_with (first | (go_at_call 33; refine (l03Time_any _ _).mono ?_; rintro e w' ⟨rfl, rfl⟩) | (go_at_call 37; refine (l02Make_any _ _ _ (by omega) (by omega) (by omega) (by omega)).mono ?_; rintro e w' ⟨rfl, hbel⟩; obtain ⟨hc, hf⟩ := bcell hbel; have hz := hbel.size; (try simp at hz); (try simp only [Nat.add_one_le_iff] at hz); (try (have hzw : w.heap.size < w'.heap.size := by omega)))); exact bodyPost_ret (v := .tuple #[.agg #[.int .i64 0, .int .i64 0], .int .i64 2]) (by simp [results, Try.results19, go_sem]) rfl ⟨by simp [hrV, *], by (repeat (first | assumption | exact Below.refl _ _ | refine belowDN ?_ _ | refine Below.drew ?_ | refine Below.setCell ?_ (by first | omega | (simp <;> omega)) _ | refine Below.alloc ?_ (by first | omega | (simp <;> omega)) _ | refine belowCall ?_ (by assumption)))⟩
  cases hb : timB b
  case false => go_enter Try.func19, Try.ntmps19; go_wp2_with (first | (go_at_call 33; refine (l03Time_any _ _).mono ?_; rintro e w' ⟨rfl, rfl⟩) | (go_at_call 37; refine (l02Make_any _ _ _ (by omega) (by omega) (by omega) (by omega)).mono ?_; rintro e w' ⟨rfl, hbel⟩; obtain ⟨hc, hf⟩ := bcell hbel; have hz := hbel.size; (try simp at hz); (try simp only [Nat.add_one_le_iff] at hz); (try (have hzw : w.heap.size < w'.heap.size := by omega)))); exact bodyPost_ret (v := .tuple #[.agg #[.int .i64 0, .int .i64 0], .int .i64 2]) (by simp [results, Try.results19, go_sem]) rfl ⟨by simp [hrV, *], by (repeat (first | assumption | exact Below.refl _ _ | refine belowDN ?_ _ | refine Below.drew ?_ | refine Below.setCell ?_ (by first | omega | (simp <;> omega)) _ | refine Below.alloc ?_ (by first | omega | (simp <;> omega)) _ | refine belowCall ?_ (by assumption)))⟩
  obtain ⟨a1, a2⟩ := timB_iff.1 ha
  obtain ⟨b1, b2⟩ := timB_iff.1 hb
  go_enter Try.func19, Try.ntmps19; go_wp2_with (first | (go_at_call 33; refine (l03Time_any _ _).mono ?_; rintro e w' ⟨rfl, rfl⟩) | (go_at_call 37; refine (l02Make_any _ _ _ (by omega) (by omega) (by omega) (by omega)).mono ?_; rintro e w' ⟨rfl, hbel⟩; obtain ⟨hc, hf⟩ := bcell hbel; have hz := hbel.size; (try simp at hz); (try simp only [Nat.add_one_le_iff] at hz); (try (have hzw : w.heap.size < w'.heap.size := by omega))))
  exact bodyPost_ret (v := .tuple #[.agg #[.int .i64 (lowN (24 * (b - a)) 10000), .int .i64 (lowD (24 * (b - a)) 10000)], .int .i64 0]) (by simp [results, Try.results19, go_sem, hc]) rfl ⟨by simp [hrV, *], by (repeat (first | assumption | exact Below.refl _ _ | refine belowDN ?_ _ | refine Below.drew ?_ | refine Below.setCell ?_ (by first | omega | (simp <;> omega)) _ | refine Below.alloc ?_ (by first | omega | (simp <;> omega)) _ | refine belowCall ?_ (by assumption)))⟩
theorem pr_form_day (t : Int) : ∃ m c, dayV t = .tuple #[.int .i64 m, .int .i64 c] := by
  unfold dayV pr; split <;> exact ⟨_, _, rfl⟩
theorem pr_form_wk (t : Int) : ∃ m c, wkV t = .tuple #[.int .i64 m, .int .i64 c] := by
  unfold wkV pr; split <;> exact ⟨_, _, rfl⟩
theorem pr_form_clk (t : Int) : ∃ m n c, clkV t = .tuple #[.int .i64 m, .int .i64 n, .int .i64 c] := by
  unfold clkV; split <;> exact ⟨_, _, _, rfl⟩
theorem pr_form_tm (d h m : Int) : ∃ x c, tmV d h m = .tuple #[.int .i64 x, .int .i64 c] := by
  unfold tmV pr; split
  · split <;> exact ⟨_, _, rfl⟩
  · exact ⟨_, _, rfl⟩
theorem pr_form_hr (a b : Int) : ∃ m d c, hrV a b = .tuple #[.agg #[.int .i64 m, .int .i64 d], .int .i64 c] := by
  unfold hrV; split <;> exact ⟨_, _, _, rfl⟩
end Go.Proofs.Ytfebellnmdfpiaa
