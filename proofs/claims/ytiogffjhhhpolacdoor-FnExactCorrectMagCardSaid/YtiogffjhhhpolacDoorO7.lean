/- ObserverNamed and CorrectMag, both sides. -/
import Derived.Test.YtiogffjhhhpolacDoorO6
namespace Go.Proofs.YtiogffjhhhpolacDoor
open Go.ChangeShapes Go.WideShapes Go.ChangeAt Go.RowKit Go.Deep Go.Maps Go.WideMaps

def onV (xs : List Ob) (nm : ByteArray) : Value := if okO xs then (if findO xs nm < xs.length then .tuple #[.int .i64 (findO xs nm : Nat), .int .i64 0] else .tuple #[.int .i64 0, .int .i64 3]) else .tuple #[.int .i64 0, .int .i64 1]
theorem onV_bad {xs : List Ob} {nm : ByteArray} (h : okO xs = false) : onV xs nm = .tuple #[.int .i64 0, .int .i64 1] := by simp [onV, h]
theorem onV_none {xs : List Ob} {nm : ByteArray} (h : okO xs = true) (hf : ¬ findO xs nm < xs.length) : onV xs nm = .tuple #[.int .i64 0, .int .i64 3] := by simp [onV, h]; omega
theorem onV_at {xs : List Ob} {nm : ByteArray} (h : okO xs = true) (hf : findO xs nm < xs.length) : onV xs nm = .tuple #[.int .i64 (findO xs nm : Nat), .int .i64 0] := by simp [onV, h, hf]
theorem onV_form (xs : List Ob) (nm : ByteArray) : ∃ m c, onV xs nm = .tuple #[.int .i64 m, .int .i64 c] := by
  unfold onV; split
  · split <;> exact ⟨_, _, rfl⟩
  · exact ⟨_, _, rfl⟩
theorem sNamed_any (a : Option Addr) (n c : Nat) (xs : List Ob) (nm : ByteArray) (w : World) (h : ObL w a n xs) (hn : n ≤ 1048576) :
    Calls Tryd.prog 15 #[.slice a n c, .string nm] w fun e w' => e = .returned (onV xs nm) ∧ Below w.heap.size w w' := by
  have HL := Lib.hid h.1
  cases hok : okO xs
  · have HV := Lib.hid (onV_bad (nm := nm) hok)
    go_enter Tryd.func15, Tryd.ntmps15
    go_wp2_with fail
    refine (l05Ok_any a n c xs w h hn).mono ?_
    rintro e w2 ⟨rfl, q, rfl⟩
    rw [hok]
    go_wp2
    go_ret2
    exact ⟨by rw [HV.out]; rfl, belowDN (Below.refl _ _) _⟩
  by_cases hf : findO xs nm < xs.length
  · have HV := Lib.hid (onV_at hok hf)
    have HF := Lib.hid (findVO_at rfl hf)
    have hneg : ¬ ((findO xs nm : Nat) : Int) < 0 := by omega
    go_enter Tryd.func15, Tryd.ntmps15
    go_wp2_with fail
    refine (l05Ok_any a n c xs w h hn).mono ?_
    rintro e w2 ⟨rfl, q, rfl⟩
    rw [hok]
    go_wp2_with fail
    refine (l05Find_any a n c xs nm _ (h.mono (belowDN (Below.refl _ _) _)) hn).mono ?_
    rintro e w3 ⟨rfl, rfl⟩
    rw [HF.out]
    go_wp2
    go_ret2
    exact ⟨by rw [HV.out]; rfl, belowDN (Below.refl _ _) _⟩
  · have HV := Lib.hid (onV_none hok hf)
    have HF := Lib.hid (findVO_none (xs := xs) (nm := nm) (by have := findO_le xs nm; omega))
    go_enter Tryd.func15, Tryd.ntmps15
    go_wp2_with fail
    refine (l05Ok_any a n c xs w h hn).mono ?_
    rintro e w2 ⟨rfl, q, rfl⟩
    rw [hok]
    go_wp2_with fail
    refine (l05Find_any a n c xs nm _ (h.mono (belowDN (Below.refl _ _) _)) hn).mono ?_
    rintro e w3 ⟨rfl, rfl⟩
    rw [HF.out]
    go_wp2
    go_ret2
    exact ⟨by rw [HV.out]; rfl, belowDN (Below.refl _ _) _⟩
set_option maxHeartbeats 1000000 in
theorem entryO_any (a : Option Addr) (n c : Nat) (xs : List Ob) (nm : ByteArray) (ea : Addr) (w : World) (h : ObL w a n xs) (hn : n ≤ 1048576) (hnm : nm.size ≤ maxLen) (hE : Errn w ea) :
    Calls Tryd.prog 25 #[.slice a n c, .string nm, .int .i64 40] w fun e w' => e = .returned (onV xs nm) ∧ Below w.heap.size w w' := by
  have HL := Lib.hid h.1
  cases hok : okO xs
  · have HV := Lib.hid (onV_bad (nm := nm) hok)
    go_enter Tryd.func25, Tryd.ntmps25
    go_wp2_with fail
    refine (areEO_any a n c xs w h hn).mono ?_
    rintro e w2 ⟨rfl, b2⟩
    rw [hok]
    go_wp2
    go_ret2
    exact ⟨by rw [HV.out]; rfl, b2⟩
  obtain ⟨h60, hall⟩ := okO_parts HL.out hok
  go_enter Tryd.func25, Tryd.ntmps25
  go_wp2_with fail
  refine (areEO_any a n c xs w h hn).mono ?_
  rintro e w2 ⟨rfl, b2⟩
  rw [hok]
  go_wp2_with fail
  refine (placeO_any a n c xs nm ea w2 (h.mono b2) hall h60 hnm (hE.mono b2)).mono ?_
  rintro e w3 ⟨rfl, b3⟩
  have hE3 := (hE.mono b2).mono b3
  obtain ⟨hEl, hEc⟩ := hE3
  clear hall
  by_cases hf : findO xs nm < xs.length
  · have HV := Lib.hid (onV_at hok hf)
    have HP := Lib.hid (plV_at (a := ea) hf)
    rw [HP.out]
    go_wp2_with fail
    refine (is_nil ea _).mono ?_
    rintro e w4 ⟨rfl, rfl⟩
    go_wp2
    go_ret2
    exact ⟨by rw [HV.out]; rfl, belowCall b2 b3⟩
  · have HV := Lib.hid (onV_none hok hf)
    have HP := Lib.hid (plV_none (a := ea) hf)
    rw [HP.out]
    go_wp2_with fail
    refine (is_same ea _).mono ?_
    rintro e w4 ⟨rfl, rfl⟩
    go_wp2
    go_ret2
    exact ⟨by rw [HV.out]; rfl, belowCall b2 b3⟩
theorem iNamed_any (a : Option Addr) (n c : Nat) (xs : List Ob) (nm : ByteArray) (ea : Addr) (w : World) (h : ObL w a n xs) (hn : n ≤ 1048576) (hnm : nm.size ≤ maxLen) (hE : Errn w ea) :
    Calls Tryd.prog 16 #[.slice a n c, .string nm] w fun e w' => e = .returned (onV xs nm) ∧ Below w.heap.size w w' := by
  obtain ⟨m, k, hv⟩ := onV_form xs nm
  have HV := Lib.hid hv
  clear hv
  go_enter Tryd.func16, Tryd.ntmps16
  go_wp2_with fail
  refine (entryO_any a n c xs nm ea w h hn hnm hE).mono ?_
  rintro e w2 ⟨rfl, b2⟩
  rw [HV.out]
  go_wp2
  go_ret2
  exact ⟨by rw [HV.out]; rfl, b2⟩
/-- CorrectMag's code and number -/
def coV (xs : List Ob) (nm : ByteArray) (m : Int) : Value :=
  if okO xs then (if magB m then (if findO xs nm < xs.length then (if magB (m + (xs[findO xs nm]?.getD ob0).2) then .tuple #[.int .i64 (m + (xs[findO xs nm]?.getD ob0).2), .int .i64 0] else .tuple #[.int .i64 0, .int .i64 5]) else .tuple #[.int .i64 0, .int .i64 3]) else .tuple #[.int .i64 0, .int .i64 2]) else .tuple #[.int .i64 0, .int .i64 1]
theorem coV_1 {xs nm m} (h : okO xs = false) : coV xs nm m = .tuple #[.int .i64 0, .int .i64 1] := by simp [coV, h]
theorem coV_2 {xs nm m} (h : okO xs = true) (h2 : magB m = false) : coV xs nm m = .tuple #[.int .i64 0, .int .i64 2] := by simp [coV, h, h2]
theorem coV_3 {xs nm m} (h : okO xs = true) (h2 : magB m = true) (h3 : ¬ findO xs nm < xs.length) : coV xs nm m = .tuple #[.int .i64 0, .int .i64 3] := by rw [coV, if_pos h, if_pos h2, if_neg h3]
theorem coV_5 {xs nm m} {x1 : Int} (h : okO xs = true) (h2 : magB m = true) (h3 : findO xs nm < xs.length) (hx : (xs[findO xs nm]?.getD ob0).2 = x1) (h4 : magB (m + x1) = false) : coV xs nm m = .tuple #[.int .i64 0, .int .i64 5] := by rw [coV, if_pos h, if_pos h2, if_pos h3, hx, h4]; rfl
theorem coV_0 {xs nm m} {x1 : Int} (h : okO xs = true) (h2 : magB m = true) (h3 : findO xs nm < xs.length) (hx : (xs[findO xs nm]?.getD ob0).2 = x1) (h4 : magB (m + x1) = true) : coV xs nm m = .tuple #[.int .i64 (m + x1), .int .i64 0] := by rw [coV, if_pos h, if_pos h2, if_pos h3, hx, h4]; rfl
theorem coV_form (xs : List Ob) (nm : ByteArray) (m : Int) : ∃ r k, coV xs nm m = .tuple #[.int .i64 r, .int .i64 k] := by
  unfold coV
  repeat' split
  all_goals exact ⟨_, _, rfl⟩
theorem ob_bd {xs : List Ob} {k : Nat} {x0 : ByteArray} {x1 : Int} (h : okAtO xs k = true) (hx : xs[k]?.getD ob0 = (x0, x1)) : -2000 ≤ x1 ∧ x1 ≤ 2000 := by
  simp only [okAtO, obB, Bool.and_eq_true, hx] at h
  exact inB_iff.1 h.1.2
set_option maxHeartbeats 1000000 in
theorem sCorrect_any (a : Option Addr) (n c : Nat) (xs : List Ob) (nm : ByteArray) (m : Int) (w : World) (h : ObL w a n xs) (hn : n ≤ 1048576) :
    Calls Tryd.prog 17 #[.slice a n c, .string nm, .int .i64 m] w fun e w' => e = .returned (coV xs nm m) ∧ Below w.heap.size w w' := by
  have HL := Lib.hid h.1
  have hl : (n : Int) ≤ 1048576 := by omega
  cases hok : okO xs
  · have HV := Lib.hid (coV_1 (nm := nm) (m := m) hok)
    have HN := Lib.hid (onV_bad (nm := nm) hok)
    go_enter Tryd.func17, Tryd.ntmps17
    go_wp2_with fail
    refine (sNamed_any a n c xs nm w h hn).mono ?_
    rintro e w2 ⟨rfl, b2⟩
    rw [HN.out]
    go_wp2
    go_ret2
    exact ⟨by rw [HV.out]; rfl, b2⟩
  obtain ⟨h60, hall⟩ := okO_parts HL.out hok
  by_cases hf : findO xs nm < xs.length
  rotate_left
  · have HN := Lib.hid (onV_none hok hf)
    cases hm : magB m
    · have HV := Lib.hid (coV_2 (nm := nm) hok hm)
      go_enter Tryd.func17, Tryd.ntmps17
      go_wp2_with fail
      refine (sNamed_any _ n c xs nm w h hn).mono ?_
      rintro e w2 ⟨rfl, b2⟩
      rw [HN.out]
      go_wp2_with (go_at_call 26; refine (l02Mag_any _ _).mono ?_; rintro e w' ⟨rfl, rfl⟩)
      go_ret2
      exact ⟨by rw [HV.out]; rfl, b2⟩
    · have HV := Lib.hid (coV_3 hok hm hf)
      go_enter Tryd.func17, Tryd.ntmps17
      go_wp2_with fail
      refine (sNamed_any _ n c xs nm w h hn).mono ?_
      rintro e w2 ⟨rfl, b2⟩
      rw [HN.out]
      go_wp2_with (go_at_call 26; refine (l02Mag_any _ _).mono ?_; rintro e w' ⟨rfl, rfl⟩)
      go_ret2
      exact ⟨by rw [HV.out]; rfl, b2⟩
  have HN := Lib.hid (onV_at hok hf)
  have hfn : findO xs nm < n := by have := HL.out; omega
  cases hm : magB m
  · have HV := Lib.hid (coV_2 (nm := nm) hok hm)
    go_enter Tryd.func17, Tryd.ntmps17
    go_wp2_with fail
    refine (sNamed_any _ n c xs nm w h hn).mono ?_
    rintro e w2 ⟨rfl, b2⟩
    rw [HN.out]
    go_wp2_with (go_at_call 26; refine (l02Mag_any _ _).mono ?_; rintro e w' ⟨rfl, rfl⟩)
    go_ret2
    exact ⟨by rw [HV.out]; rfl, b2⟩
  obtain ⟨m1, m2⟩ := magB_iff.1 hm
  have hat := hall _ hfn
  obtain ⟨b1, o1, rfl, hc⟩ := h.2 _ hfn
  obtain ⟨⟨x0, x1⟩, hx⟩ : ∃ x, xs[findO xs nm]?.getD ob0 = x := ⟨_, rfl⟩
  obtain ⟨x11, x12⟩ := ob_bd hat hx
  have HX : Hid ((xs[findO xs nm]?.getD ob0).2 = x1) := Lib.hid (by rw [hx])
  rw [hx] at hc
  have HF := Lib.hid hf
  have HALL := Lib.hid hall
  clear hat hx
  cases hm2 : magB (m + x1)
  all_goals
    have HV : Hid (coV xs nm m = .tuple #[.int .i64 (if magB (m + x1) then m + x1 else 0), .int .i64 (if magB (m + x1) then 0 else 5)]) := Lib.hid (by
      first
        | (rw [coV_5 hok hm HF.out HX.out hm2, hm2]; rfl)
        | (rw [coV_0 hok hm HF.out HX.out hm2, hm2]; rfl))
    rw [hm2] at HV
    clear hall hf
    obtain ⟨k, hk⟩ : ∃ k, findO xs nm = k := ⟨_, rfl⟩
    rw [hk] at hc HN hfn
    have HK := Lib.hid hk
    clear hk
    have hk0 : (0 : Int) ≤ (k : Int) := by omega
    have hk1 : (k : Int) < (n : Int) := by omega
    go_enter Tryd.func17, Tryd.ntmps17
    go_wp2_with fail
    refine (sNamed_any _ n c xs nm w h hn).mono ?_
    rintro e w2 ⟨rfl, b2⟩
    rw [HN.out]
    obtain ⟨p, p0, p1⟩ := (hc.mono b2).parts
    go_wp2_with (go_at_call 26; refine (l02Mag_any _ _).mono ?_; rintro e w' ⟨rfl, rfl⟩)
    go_ret2
    exact ⟨by rw [HV.out]; rfl, b2⟩
set_option maxHeartbeats 1000000 in
theorem iCorrect_any (a : Option Addr) (n c : Nat) (xs : List Ob) (nm : ByteArray) (m : Int) (ea : Addr) (w : World) (h : ObL w a n xs) (hn : n ≤ 1048576) (hnm : nm.size ≤ maxLen) (hE : Errn w ea) :
    Calls Tryd.prog 18 #[.slice a n c, .string nm, .int .i64 m] w fun e w' => e = .returned (coV xs nm m) ∧ Below w.heap.size w w' := by
  have HL := Lib.hid h.1
  have hl : (n : Int) ≤ 1048576 := by omega
  cases hok : okO xs
  · have HV := Lib.hid (coV_1 (nm := nm) (m := m) hok)
    go_enter Tryd.func18, Tryd.ntmps18
    go_wp2_with fail
    refine (iValidObservers_any a n c xs w h hn).mono ?_
    rintro e w2 ⟨rfl, b2⟩
    rw [hok]
    go_wp2
    go_ret2
    exact ⟨by rw [HV.out]; rfl, b2⟩
  obtain ⟨h60, hall⟩ := okO_parts HL.out hok
  by_cases hf : findO xs nm < xs.length
  rotate_left
  · have HN := Lib.hid (onV_none hok hf)
    have HP := Lib.hid (plV_none (a := ea) hf)
    have HALL := Lib.hid hall
    clear hall
    cases hm : magB m
    · have HV := Lib.hid (coV_2 (nm := nm) hok hm)
      go_enter Tryd.func18, Tryd.ntmps18
      go_wp2_with fail
      refine (iValidObservers_any _ n c xs w h hn).mono ?_
      rintro e w2 ⟨rfl, b2⟩
      rw [hok]
      go_wp2_with (go_at_call 28; refine (iValidMag_any _ _).mono ?_; rintro e w' ⟨rfl, rfl⟩)
      go_ret2
      exact ⟨by rw [HV.out]; rfl, b2⟩
    · have HV := Lib.hid (coV_3 hok hm hf)
      go_enter Tryd.func18, Tryd.ntmps18
      go_wp2_with fail
      refine (iValidObservers_any _ n c xs w h hn).mono ?_
      rintro e w2 ⟨rfl, b2⟩
      rw [hok]
      go_wp2_with (go_at_call 28; refine (iValidMag_any _ _).mono ?_; rintro e w' ⟨rfl, rfl⟩)
      refine (placeO_any _ n c xs nm ea w2 (h.mono b2) HALL.out h60 hnm (hE.mono b2)).mono ?_
      rintro e w3 ⟨rfl, b3⟩
      rw [HP.out]
      obtain ⟨hEl, hEc⟩ := (hE.mono b2).mono b3
      have B3 := belowCall b2 b3
      go_wp2_with fail
      refine (is_same ea _).mono ?_
      rintro e w4 ⟨rfl, rfl⟩
      go_wp2
      go_ret2
      exact ⟨by rw [HV.out]; rfl, B3⟩
  have HN := Lib.hid (onV_at hok hf)
  have HP := Lib.hid (plV_at (a := ea) hf)
  have hfn : findO xs nm < n := by have := HL.out; omega
  cases hm : magB m
  · have HV := Lib.hid (coV_2 (nm := nm) hok hm)
    go_enter Tryd.func18, Tryd.ntmps18
    go_wp2_with fail
    refine (iValidObservers_any _ n c xs w h hn).mono ?_
    rintro e w2 ⟨rfl, b2⟩
    rw [hok]
    go_wp2_with (go_at_call 28; refine (iValidMag_any _ _).mono ?_; rintro e w' ⟨rfl, rfl⟩)
    go_ret2
    exact ⟨by rw [HV.out]; rfl, b2⟩
  obtain ⟨m1, m2⟩ := magB_iff.1 hm
  have hat := hall _ hfn
  obtain ⟨b1, o1, rfl, hc⟩ := h.2 _ hfn
  obtain ⟨⟨x0, x1⟩, hx⟩ : ∃ x, xs[findO xs nm]?.getD ob0 = x := ⟨_, rfl⟩
  obtain ⟨x11, x12⟩ := ob_bd hat hx
  have HX : Hid ((xs[findO xs nm]?.getD ob0).2 = x1) := Lib.hid (by rw [hx])
  rw [hx] at hc
  have HF := Lib.hid hf
  have HALL := Lib.hid hall
  clear hat hx
  cases hm2 : magB (m + x1)
  all_goals
    have HV : Hid (coV xs nm m = .tuple #[.int .i64 (if magB (m + x1) then m + x1 else 0), .int .i64 (if magB (m + x1) then 0 else 5)]) := Lib.hid (by
      first
        | (rw [coV_5 hok hm HF.out HX.out hm2, hm2]; rfl)
        | (rw [coV_0 hok hm HF.out HX.out hm2, hm2]; rfl))
    rw [hm2] at HV
    clear hall hf
    obtain ⟨k, hk⟩ : ∃ k, findO xs nm = k := ⟨_, rfl⟩
    rw [hk] at hc HN hfn HP
    have HK := Lib.hid hk
    clear hk
    have hk0 : (0 : Int) ≤ (k : Int) := by omega
    have hk1 : (k : Int) < (n : Int) := by omega
    go_enter Tryd.func18, Tryd.ntmps18
    go_wp2_with fail
    refine (iValidObservers_any _ n c xs w h hn).mono ?_
    rintro e w2 ⟨rfl, b2⟩
    rw [hok]
    go_wp2_with (go_at_call 28; refine (iValidMag_any _ _).mono ?_; rintro e w' ⟨rfl, rfl⟩)
    refine (placeO_any _ n c xs nm ea w2 (h.mono b2) HALL.out h60 hnm (hE.mono b2)).mono ?_
    rintro e w3 ⟨rfl, b3⟩
    rw [HP.out]
    obtain ⟨hEl, hEc⟩ := (hE.mono b2).mono b3
    have B3 := belowCall b2 b3
    go_wp2_with fail
    refine (is_nil ea _).mono ?_
    rintro e w4 ⟨rfl, rfl⟩
    obtain ⟨p, p0, p1⟩ := (hc.mono B3).parts
    go_wp2_with (go_at_call 28; refine (iValidMag_any _ _).mono ?_; rintro e w' ⟨rfl, rfl⟩)
    go_ret2
    exact ⟨by rw [HV.out]; rfl, B3⟩
end Go.Proofs.YtiogffjhhhpolacDoor
