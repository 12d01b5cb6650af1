/- Contracts of chapter 3's functions of dates: valid dates, the day of a date; the program's and the model's. -/
import Derived.Test.YtfebellnmdfpiabDoorT4
namespace Go.Proofs.YtfebellnmdfpiabDoor
open Go.ChangeShapes Go.WideShapes Go.ChangeAt Go.RowKit

theorem number_any (y : Int) (k : Nat) (d : Int) (w : World) (hM : Mon w) (h1 : 2000 ≤ y) (h2 : y ≤ 2300) (h4 : k < 12) (h5 : 0 ≤ d) (h6 : d ≤ 31) :
    Calls Tryd.prog 56 #[.agg #[.int .i64 y, .int .i64 k, .int .i64 d]] w fun e w' => e = .returned (.int .i64 (mst y + d + cmB k)) ∧ Below w.heap.size w w' := by
  obtain ⟨b1, b2⟩ := mst_bd y h1
  have hg := (hM 0 (by omega)).2
  have hne : w.heap.size ≠ 0 := by omega
  go_enter Tryd.func56, Tryd.ntmps56
  go_wp2
  go_region_held3 (fun w' => Below w.heap.size w w' ∧ w.heap.size < w'.heap.size ∧ w'.cell? ⟨w.heap.size, 0, none⟩ = some (.int .i64 y) ∧ w'.cell? ⟨w.heap.size, 1, none⟩ = some (.int .i64 k) ∧ w'.cell? ⟨w.heap.size, 2, none⟩ = some (.int .i64 d)) ((refine ⟨by (repeat (first | assumption | exact Below.refl _ _ | refine belowDN ?_ _ | refine Below.drew ?_ | refine Below.setCell ?_ (by first | omega | (simp <;> omega)) _ | refine Below.alloc ?_ (by first | omega | (simp <;> omega)) _ | refine belowCall ?_ (by assumption))), by (first | assumption | omega | (simp; done) | (simp; omega)), ?_, ?_, ?_⟩ <;> go_keep)) (first | (go_at_call 70; refine (startOfMarch_any _ _ (by omega) (by omega)).mono ?_; rintro e w' ⟨rfl, rfl⟩))
  go_wp2
  rw [show IntKind.i64.wrap (mst y + d) = mst y + d from by rw [IntWalk.i64_left, IntWalk.wrap64_in _ ⟨by omega, by omega⟩]]
  go_loopw [3, 4, 13] (fun n _ i wr => ∃ j : Nat, j ≤ k ∧ i = .int .i64 j ∧ n = .int .i64 (mst y + d + cmB j) ∧ wr = (w.alloc (.cells #[.int .i64 y, .int .i64 k, .int .i64 d] 59)).drew) (fun _ _ i _ => k - (intOf i).toNat)
  case atStart => exact ⟨0, by omega, rfl, by rw [show cmB 0 = 0 from rfl]; simp, rfl⟩
  case round =>
    obtain ⟨j, hj, rfl, rfl, rfl⟩ := hrel
    obtain ⟨c1, c2⟩ := cm_bd j (by omega)
    by_cases hlt : j < k
    · obtain ⟨hj1, _⟩ := hM j (by omega)
      obtain ⟨l1, l2⟩ := ml_bd j (by omega)
      go_wp2
      go_roundw
      case rel => exact ⟨j + 1, by omega, by go_num, by rw [show cmB (j + 1) = cmB j + mlB j from rfl, ← Int.add_assoc], by first | trivial | rfl⟩
      case measure => simp [intOf]; omega
    · obtain rfl : j = k := by omega
      go_wp2
      go_ret
      exact ⟨rfl, by (repeat (first | assumption | exact Below.refl _ _ | refine belowDN ?_ _ | refine Below.drew ?_ | refine Below.setCell ?_ (by first | omega | (simp <;> omega)) _ | refine Below.alloc ?_ (by first | omega | (simp <;> omega)) _ | refine belowCall ?_ (by assumption)))⟩
def vdB (y m d : Int) : Bool := dateB y m d && decide (dnum y m.toNat d ≤ 100000)
theorem vdB_ok {y : Int} {m : Nat} {d : Int} (h : dateB y m d = true) : okD y m d ∧ y ≤ 2300 ∧ d ≤ 31 := by
  simp only [dateB, Bool.and_eq_true, inB_iff, Int.toNat_natCast] at h
  obtain ⟨⟨⟨a1, a2⟩, b1, b2⟩, c1, c2⟩ := h
  have hb := cu_bd (leapB y) m (by omega) (by omega)
  exact ⟨⟨a1, by omega, by omega, c1, c2⟩, a2, by omega⟩
theorem dnum_small {y : Int} {m : Nat} {d : Int} (h : okD y m d) (k : dnum y m d ≤ 100000) : y ≤ 2274 ∧ 0 ≤ dnum y m d := by
  have b := dnum_bd h
  have c := yst_bd y h.1
  have := h.1
  omega
theorem vdB_parts {y m d : Int} (h : vdB y m d = true) : inB y 2001 2274 = true ∧ ∃ k : Nat, m = k ∧ okD y k d ∧ dnum y k d ≤ 100000 ∧ 0 ≤ dnum y k d ∧ y ≤ 2274 ∧ d ≤ 31 := by
  simp only [vdB, Bool.and_eq_true, decide_eq_true_eq] at h
  obtain ⟨h1, h2⟩ := h
  obtain ⟨k, rfl⟩ : ∃ k : Nat, m = k := by
    simp only [dateB, Bool.and_eq_true, inB_iff] at h1
    exact Int.eq_ofNat_of_zero_le (by omega)
  obtain ⟨h3, h4, h5⟩ := vdB_ok h1
  rw [Int.toNat_natCast] at h2
  obtain ⟨h6, h7⟩ := dnum_small h3 h2
  exact ⟨inB_iff.2 ⟨h3.1, h6⟩, k, rfl, h3, h2, h7, h6, h5⟩
theorem dateB_nat {y m d : Int} (h : dateB y m d = true) : ∃ k : Nat, m = k := by
  simp only [dateB, Bool.and_eq_true, inB_iff] at h
  exact Int.eq_ofNat_of_zero_le (by omega)
theorem sValidDate_any (y m d : Int) (w : World) :
    Calls Tryd.prog 26 #[dt y m d] w fun e w' => e = .returned (.bool (vdB y m d)) ∧ Below w.heap.size w w' := by
  cases hd : dateB y m d
  · rw [show vdB y m d = false from by simp [vdB, hd]]
    unfold dt
    go_enter Tryd.func26, Tryd.ntmps26
    go_wp2_with (go_at_call 49; refine (l03Date_any _ _ _ _).mono ?_; rintro e w' ⟨rfl, hbel⟩; obtain ⟨hc, hf⟩ := bcell hbel; have hz := hbel.size; (try simp at hz); (try simp only [Nat.add_one_le_iff] at hz); (try (have hzw : w.heap.size < w'.heap.size := by omega)))
    go_ret
    exact ⟨rfl, by (repeat (first | assumption | exact Below.refl _ _ | refine belowDN ?_ _ | refine Below.drew ?_ | refine Below.setCell ?_ (by first | omega | (simp <;> omega)) _ | refine Below.alloc ?_ (by first | omega | (simp <;> omega)) _ | refine belowCall ?_ (by assumption)))⟩
  · obtain ⟨k, rfl⟩ := dateB_nat hd
    obtain ⟨⟨h1, h2, h3, h4, h5⟩, h6, h7⟩ := vdB_ok hd
    rw [show vdB y k d = decide (dnum y k d ≤ 100000) from by simp [vdB, hd]]
    unfold dt
    go_enter Tryd.func26, Tryd.ntmps26
    go_wp2_with (first | (go_at_call 49; refine (l03Date_any _ _ _ _).mono ?_; rintro e w' ⟨rfl, hbel⟩; obtain ⟨hc, hf⟩ := bcell hbel; have hz := hbel.size; (try simp at hz); (try simp only [Nat.add_one_le_iff] at hz); (try (have hzw : w.heap.size < w'.heap.size := by omega))) | (go_at_call 50; refine (l03Number_any _ _ _ _ (by omega) (by omega) (by omega) (by omega) (by omega) (by omega)).mono ?_; rintro e w' ⟨rfl, hbel2⟩))
    go_ret
    exact ⟨rfl, by (repeat (first | assumption | exact Below.refl _ _ | refine belowDN ?_ _ | refine Below.drew ?_ | refine Below.setCell ?_ (by first | omega | (simp <;> omega)) _ | refine Below.alloc ?_ (by first | omega | (simp <;> omega)) _ | refine belowCall ?_ (by assumption)))⟩
theorem iValidDate_out (y m d : Int) (w : World) (h : inB y 2001 2274 = false ∨ (inB y 2001 2274 = true ∧ inB m 1 12 = false)) :
    Calls Tryd.prog 28 #[.agg #[.int .i64 y, .int .i64 m, .int .i64 d]] w fun e w' => e = .returned (.bool false) ∧ Below w.heap.size w w' := by
  rcases h with hy | ⟨hy, hm⟩
  all_goals
    go_enter Tryd.func28, Tryd.ntmps28
    go_wp2_with (go_at_call 52; refine (inRange_any _ _ _ _).mono ?_; rintro e w' ⟨rfl, rfl⟩)
    go_ret
    exact ⟨rfl, by (repeat (first | assumption | exact Below.refl _ _ | refine belowDN ?_ _ | refine Below.drew ?_ | refine Below.setCell ?_ (by first | omega | (simp <;> omega)) _ | refine Below.alloc ?_ (by first | omega | (simp <;> omega)) _ | refine belowCall ?_ (by assumption)))⟩
set_option maxHeartbeats 4000000 in
theorem iValidDate_day (y : Int) (m : Nat) (d : Int) (w : World) (hM : Mon w) (hwf : (Lit.int .i64 d).wf = true) (hy : inB y 2001 2274 = true) (hm : inB m 1 12 = true) (hd : inB d 1 (mdB (leapB y) m) = false) :
    Calls Tryd.prog 28 #[.agg #[.int .i64 y, .int .i64 m, .int .i64 d]] w fun e w' => e = .returned (.bool false) ∧ Below w.heap.size w w' := by
  obtain ⟨y1, y2⟩ := inB_iff.1 hy
  obtain ⟨m1, m2⟩ := inB_iff.1 hm
  have hl : mlen (shY y m) (shM m) = mdB (leapB y) m := sh_len y m (by omega) (by omega)
  have hk : shM m < 12 := by unfold shM; split <;> omega
  have hY : 2000 ≤ shY y m ∧ shY y m ≤ 2274 := by unfold shY; split <;> omega
  obtain ⟨hY1, hY2⟩ := hY
  rw [← hl] at hd
  clear hl
  go_enter Tryd.func28, Tryd.ntmps28
  go_wp2_with (first | (go_at_call 52; refine (inRange_any _ _ _ _).mono ?_; rintro e w' ⟨rfl, rfl⟩) | (go_at_call 53; refine (shifted_any _ _ _ _ (by omega) (by omega) (by omega) hwf).mono ?_; rintro e w1 ⟨x, rfl, hx, hb1⟩; unfold dt; have hz1 := hb1.size; (try simp at hz1); obtain ⟨hc1, hf1⟩ := bcell hb1; have hn1 : w1.heap.size ≠ w.heap.size := (by omega); have hn2 : w.heap.size ≠ w1.heap.size := (by omega); have k2 : w1.cell? ⟨w.heap.size, 2, none⟩ = some (.int .i64 d) := (by rw [hc1 _ _ (by simp)]; go_keep)))
  obtain ⟨W, hW⟩ : ∃ W, W = w1.alloc (.cells #[.int .i64 (shY y m), .int .i64 (shM m : Nat), .int .i64 x] 59) := ⟨_, rfl⟩
  have hWB : Below w.heap.size w W := (by rw [hW]; (repeat (first | assumption | exact Below.refl _ _ | refine belowDN ?_ _ | refine Below.drew ?_ | refine Below.setCell ?_ (by first | omega | (simp <;> omega)) _ | refine Below.alloc ?_ (by first | omega | (simp <;> omega)) _ | refine belowCall ?_ (by assumption))))
  have r2 : W.drew.cell? ⟨w.heap.size, 2, none⟩ = some (.int .i64 d) := (by rw [hW]; go_keep)
  have s0 : W.drew.cell? ⟨w1.heap.size, 0, none⟩ = some (.int .i64 (shY y m)) := (by rw [hW]; go_keep)
  have s1 : W.drew.cell? ⟨w1.heap.size, 1, none⟩ = some (.int .i64 (shM m : Nat)) := (by rw [hW]; go_keep)
  have s2 : W.drew.cell? ⟨w1.heap.size, 2, none⟩ = some (.int .i64 x) := (by rw [hW]; go_keep)
  have hWz : w1.heap.size < W.drew.heap.size := (by rw [hW]; simp)
  rw [← hW]
  clear hW hc1 hf1 k2 hb1
  go_region_with (first | (go_at_call 52; refine (inRange_any _ _ _ _).mono ?_; rintro e w' ⟨rfl, rfl⟩) | (go_at_call 54; refine (mlength_any _ _ _ _ (hM.mono (by (repeat (first | assumption | exact Below.refl _ _ | refine belowDN ?_ _ | refine Below.drew ?_ | refine Below.setCell ?_ (by first | omega | (simp <;> omega)) _ | refine Below.alloc ?_ (by first | omega | (simp <;> omega)) _ | refine belowCall ?_ (by assumption))))) (by omega) (by omega) (by omega)).mono ?_; rintro e w2 ⟨rfl, hb2⟩; obtain ⟨hc2, hf2⟩ := bcell hb2; have hz2 := hb2.size; (try have r3 : w2.cell? ⟨w.heap.size, 2, none⟩ = some (.int .i64 d) := (by rw [hc2 _ _ (by omega)]; assumption))))
  all_goals go_wp2
  all_goals go_ret
  all_goals exact ⟨rfl, by (repeat (first | assumption | exact Below.refl _ _ | refine belowDN ?_ _ | refine Below.drew ?_ | refine Below.setCell ?_ (by first | omega | (simp <;> omega)) _ | refine Below.alloc ?_ (by first | omega | (simp <;> omega)) _ | refine belowCall ?_ (by assumption)))⟩
set_option maxHeartbeats 4000000 in
theorem iValidDate_in (y : Int) (m : Nat) (d : Int) (w : World) (hM : Mon w) (hwf : (Lit.int .i64 d).wf = true) (hy : inB y 2001 2274 = true) (hm : inB m 1 12 = true) (hd : inB d 1 (mdB (leapB y) m) = true) :
    Calls Tryd.prog 28 #[.agg #[.int .i64 y, .int .i64 m, .int .i64 d]] w fun e w' => e = .returned (.bool (decide (dnum y m d ≤ 100000))) ∧ Below w.heap.size w w' := by
  obtain ⟨y1, y2⟩ := inB_iff.1 hy
  obtain ⟨m1, m2⟩ := inB_iff.1 hm
  obtain ⟨d1, d2⟩ := inB_iff.1 hd
  have hl : mlen (shY y m) (shM m) = mdB (leapB y) m := sh_len y m (by omega) (by omega)
  have hnum := sh_num y m d (by omega) (by omega)
  have hbd := cu_bd (leapB y) m (by omega) (by omega)
  have hok : okD y m d := ⟨by omega, by omega, by omega, by omega, by omega⟩
  have hdb := dnum_bd hok
  have hyb := yst_bd y y1
  have hk : shM m < 12 := by unfold shM; split <;> omega
  have hY : 2000 ≤ shY y m ∧ shY y m ≤ 2274 := by unfold shY; split <;> omega
  obtain ⟨hY1, hY2⟩ := hY
  have hfin : Hid (inB (mst (shY y m) + (d - 1) + cmB (shM m)) 0 100000 = decide (dnum y m d ≤ 100000)) := by
    rw [hnum]; have h0 : 0 ≤ dnum y m d := by omega
    exact (by simp [inB, h0] : inB (dnum y m d) 0 100000 = decide (dnum y m d ≤ 100000))
  rw [← hl] at hd
  have hd31 : d ≤ 31 := by omega
  clear hl hnum hbd hok hdb hyb
  go_enter Tryd.func28, Tryd.ntmps28
  go_wp2_with (first | (go_at_call 52; refine (inRange_any _ _ _ _).mono ?_; rintro e w' ⟨rfl, rfl⟩) | (go_at_call 53; refine (shifted_any _ _ _ _ (by omega) (by omega) (by omega) hwf).mono ?_; rintro e w1 ⟨x, rfl, hx, hb1⟩; unfold dt; have hz1 := hb1.size; (try simp at hz1); obtain ⟨hc1, hf1⟩ := bcell hb1; have hn1 : w1.heap.size ≠ w.heap.size := (by omega); have hn2 : w.heap.size ≠ w1.heap.size := (by omega); have k2 : w1.cell? ⟨w.heap.size, 2, none⟩ = some (.int .i64 d) := (by rw [hc1 _ _ (by simp)]; go_keep)))
  have hxe := hx d1
  subst hxe
  obtain ⟨W, hW⟩ : ∃ W, W = w1.alloc (.cells #[.int .i64 (shY y m), .int .i64 (shM m : Nat), .int .i64 (d - 1)] 59) := ⟨_, rfl⟩
  have hWB : Below w.heap.size w W := (by rw [hW]; (repeat (first | assumption | exact Below.refl _ _ | refine belowDN ?_ _ | refine Below.drew ?_ | refine Below.setCell ?_ (by first | omega | (simp <;> omega)) _ | refine Below.alloc ?_ (by first | omega | (simp <;> omega)) _ | refine belowCall ?_ (by assumption))))
  have r2 : W.drew.cell? ⟨w.heap.size, 2, none⟩ = some (.int .i64 d) := (by rw [hW]; go_keep)
  have s0 : W.drew.cell? ⟨w1.heap.size, 0, none⟩ = some (.int .i64 (shY y m)) := (by rw [hW]; go_keep)
  have s1 : W.drew.cell? ⟨w1.heap.size, 1, none⟩ = some (.int .i64 (shM m : Nat)) := (by rw [hW]; go_keep)
  have s2 : W.drew.cell? ⟨w1.heap.size, 2, none⟩ = some (.int .i64 (d - 1)) := (by rw [hW]; go_keep)
  have hWz : w1.heap.size < W.drew.heap.size := (by rw [hW]; simp)
  rw [← hW]
  clear hW hc1 hf1 k2 hb1
  go_region_held3 (fun W' => Below w.heap.size w W' ∧ w1.heap.size < W'.heap.size ∧ W'.cell? ⟨w.heap.size, 2, none⟩ = some (.int .i64 d) ∧ W'.cell? ⟨w1.heap.size, 0, none⟩ = some (.int .i64 (shY y m)) ∧ W'.cell? ⟨w1.heap.size, 1, none⟩ = some (.int .i64 (shM m : Nat)) ∧ W'.cell? ⟨w1.heap.size, 2, none⟩ = some (.int .i64 (d - 1))) ((refine ⟨by (repeat (first | assumption | exact Below.refl _ _ | refine belowDN ?_ _ | refine Below.drew ?_ | refine Below.setCell ?_ (by first | omega | (simp <;> omega)) _ | refine Below.alloc ?_ (by first | omega | (simp <;> omega)) _ | refine belowCall ?_ (by assumption))), by omega, ?_, ?_, ?_, ?_⟩ <;> first | assumption | (rw [hc2 _ _ (by omega)]; assumption) | go_keep)) (first | (go_at_call 52; refine (inRange_any _ _ _ _).mono ?_; rintro e w' ⟨rfl, rfl⟩) | (go_at_call 54; refine (mlength_any _ _ _ _ (hM.mono (by (repeat (first | assumption | exact Below.refl _ _ | refine belowDN ?_ _ | refine Below.drew ?_ | refine Below.setCell ?_ (by first | omega | (simp <;> omega)) _ | refine Below.alloc ?_ (by first | omega | (simp <;> omega)) _ | refine belowCall ?_ (by assumption))))) (by omega) (by omega) (by omega)).mono ?_; rintro e w2 ⟨rfl, hb2⟩; obtain ⟨hc2, hf2⟩ := bcell hb2; have hz2 := hb2.size; (try have r3 : w2.cell? ⟨w.heap.size, 2, none⟩ = some (.int .i64 d) := (by rw [hc2 _ _ (by omega)]; assumption))) | (go_at_call 56; refine (number_any _ _ _ _ (hM.mono (by (repeat (first | assumption | exact Below.refl _ _ | refine belowDN ?_ _ | refine Below.drew ?_ | refine Below.setCell ?_ (by first | omega | (simp <;> omega)) _ | refine Below.alloc ?_ (by first | omega | (simp <;> omega)) _ | refine belowCall ?_ (by assumption))))) (by omega) (by omega) (by omega) (by omega) (by omega)).mono ?_; rintro e w2 ⟨rfl, hb2⟩; obtain ⟨hc2, hf2⟩ := bcell hb2; have hz2 := hb2.size) | (go_at_call 55; refine (isDay_any _ _).mono ?_; rintro e w' ⟨rfl, rfl⟩))
  all_goals go_wp2
  all_goals go_ret
  all_goals exact ⟨by rw [hfin.out]; rfl, by (repeat (first | assumption | exact Below.refl _ _ | refine belowDN ?_ _ | refine Below.drew ?_ | refine Below.setCell ?_ (by first | omega | (simp <;> omega)) _ | refine Below.alloc ?_ (by first | omega | (simp <;> omega)) _ | refine belowCall ?_ (by assumption)))⟩
theorem iValidDate_any (y m d : Int) (w : World) (hM : Mon w) (hwf : (Lit.int .i64 d).wf = true) :
    Calls Tryd.prog 28 #[.agg #[.int .i64 y, .int .i64 m, .int .i64 d]] w fun e w' => e = .returned (.bool (vdB y m d)) ∧ Below w.heap.size w w' := by
  cases hy : inB y 2001 2274
  case false =>
    have e : vdB y m d = false := by
      cases hv : vdB y m d
      · rfl
      · obtain ⟨h1, h2⟩ := vdB_parts hv
        rw [h1] at hy; cases hy
    rw [e]
    exact iValidDate_out y m d w (.inl hy)
  cases hm : inB m 1 12
  case false =>
    rw [show vdB y m d = false from by simp [vdB, dateB, hm]]
    exact iValidDate_out y m d w (.inr ⟨hy, hm⟩)
  obtain ⟨m1, m2⟩ := inB_iff.1 hm
  obtain ⟨k, rfl⟩ := Int.eq_ofNat_of_zero_le (show 0 ≤ m by omega)
  have hy' : inB y 2001 2300 = true := by rw [inB_iff] at hy ⊢; omega
  cases hd : inB d 1 (mdB (leapB y) k)
  · rw [show vdB y k d = false from by simp [vdB, dateB, hd]]
    exact iValidDate_day y k d w hM hwf hy hm hd
  · rw [show vdB y k d = decide (dnum y k d ≤ 100000) from by simp [vdB, dateB, hy', hm, hd]]
    exact iValidDate_in y k d w hM hwf hy hm hd
end Go.Proofs.YtfebellnmdfpiabDoor
