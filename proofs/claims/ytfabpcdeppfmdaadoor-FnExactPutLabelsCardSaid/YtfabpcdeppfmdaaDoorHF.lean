/- PutLabels, the program's: sets of labels as bits. -/
import Derived.Test.YtfabpcdeppfmdaaDoorHE
import Derived.Test.YtfabpcdeppfmdaaDoorHD
import Derived.Laws.BitsAllLaws
namespace Go.Proofs.YtfabpcdeppfmdaaDoor
open Go.ChangeShapes Go.WideShapes Go.ChangeAt Go.RowKit Go.Deep

/-- the set of those of the first k labels with p -/
def msk (p : Nat → Bool) : Nat → Nat
  | 0 => 0
  | k + 1 => if p k then msk p k ||| 2 ^ k else msk p k
theorem msk_lt (p : Nat → Bool) : ∀ k, msk p k < 2 ^ k
  | 0 => by simp [msk]
  | k + 1 => by
    have ih := msk_lt p k
    have h2 : 2 ^ k < 2 ^ (k + 1) := Nat.pow_lt_pow_right (by decide) (Nat.lt_succ_self k)
    rw [msk]
    split
    · exact Nat.or_lt_two_pow (Nat.lt_trans ih h2) h2
    · exact Nat.lt_trans ih h2
theorem msk_bit (p : Nat → Bool) : ∀ k j, (msk p k).testBit j = (decide (j < k) && p j)
  | 0, j => by simp [msk]
  | k + 1, j => by
    have ih := msk_bit p k j
    rw [msk]
    by_cases hj : j = k
    · subst hj
      split
      · rename_i h
        rw [Nat.testBit_or, Nat.testBit_two_pow_self]
        simp [h]
      · rename_i h
        rw [ih]
        simp [h]
    · have e : decide (j < k + 1) = decide (j < k) := decide_eq_decide.2 (by omega)
      rw [e, ← ih]
      split
      · rw [Nat.testBit_or, Nat.testBit_two_pow_of_ne (fun e => hj e.symm), Bool.or_false]
      · rfl
theorem msk_yes {p : Nat → Bool} {k : Nat} (h : p k = true) : msk p (k + 1) = msk p k ||| 2 ^ k := by rw [msk, if_pos h]
theorem msk_no {p : Nat → Bool} {k : Nat} (h : p k = false) : msk p (k + 1) = msk p k := by rw [msk, if_neg (by simp [h])]
theorem pow_lt32 {k : Nat} (h : k < 32) : 2 ^ k < 4294967296 := Nat.lt_of_lt_of_le (Nat.pow_lt_pow_right (by decide) h) (Nat.le_refl (2 ^ 32))
theorem msk_lt32 (p : Nat → Bool) {k : Nat} (h : k ≤ 32) : msk p k < 4294967296 := Nat.lt_of_lt_of_le (msk_lt p k) (Nat.pow_le_pow_right (by decide) h)
theorem labelBit_any (i s : Nat) (w : World) (hi : i < 8) (hs : s < 4) :
    Calls Tryd.prog 67 #[.int .i64 (i : Int), .int .i64 (s : Int)] w fun e w' => e = .returned (.int .u32 ((2 ^ (4 * i + s) : Nat) : Int)) ∧ w = w' := by
  have h32 := pow_lt32 (show 4 * i + s < 32 by omega)
  have e : (2 : Int) ^ (4 * i + s) = ((2 ^ (4 * i + s) : Nat) : Int) := by rw [Int.natCast_pow]; rfl
  have hw : (2 : Int) ^ (i * 4 + s) % 4294967296 = ((2 ^ (4 * i + s) : Nat) : Int) := by
    rw [Nat.mul_comm i 4, e]
    generalize 2 ^ (4 * i + s) = x at h32
    omega
  have HW := Lib.hid hw
  clear hw e h32
  go_enter Tryd.func67, Tryd.ntmps67
  go_wp2
  go_ret
  refine ⟨?_, rfl⟩
  show Ending.returned (.int .u32 ((2 : Int) ^ (i * 4 + s) % 4294967296)) = _
  rw [HW.out]
def agP (xs : List Mk) (q : Q4) (b : Nat) : Bool := ovB (bxQ (xs[b / 4]?.getD mk0) ((b % 4 : Nat) : Int)) q
set_option maxRecDepth 100000 in
set_option maxHeartbeats 8000000 in
theorem against_any (a : Option Addr) (n c : Nat) (xs : List Mk) (a0 a1 a2 a3 : Int) (w : World) (h : MkL w a n xs) (hok : okC xs = true) (hn8 : n ≤ 8) (hp : Pow w) (hw : Ways w) :
    Calls Tryd.prog 68 #[.slice a n c, .agg #[.int .i64 a0, .int .i64 a1, .int .i64 a2, .int .i64 a3]] w fun e w' => e = .returned (.int .u32 ((msk (agP xs (a0, a1, a2, a3)) (4 * n) : Nat) : Int)) ∧ Below w.heap.size w w' := by
  have HL := Lib.hid h.1
  have HOK := Lib.hid hok
  have hni : (n : Int) ≤ 8 := by omega
  have hB1 : Below w.heap.size w (w.alloc (.cells #[.int .i64 a0, .int .i64 a1, .int .i64 a2, .int .i64 a3] 70)) := (Below.refl _ w).alloc (Nat.le_refl _) _
  have h1 := h.mono hB1
  have hp1 := hp.mono hB1
  have hw1 := hw.mono hB1
  have hbq := BqC.fresh w 70 a0 a1 a2 a3
  have hsw : w.heap.size < (w.alloc (.cells #[.int .i64 a0, .int .i64 a1, .int .i64 a2, .int .i64 a3] 70)).heap.size := by simp
  obtain ⟨P, hP⟩ : ∃ p, agP xs (a0, a1, a2, a3) = p := ⟨_, rfl⟩
  have HPP : Hid (∀ i s, s < 4 → P (4 * i + s) = ovB (bxQ (xs[i]?.getD mk0) (s : Int)) (a0, a1, a2, a3)) := Lib.hid (fun i s hs => by
    rw [← hP, agP, show (4 * i + s) / 4 = i from by omega, show (4 * i + s) % 4 = s from by omega])
  rw [hP]
  clear hP hok hp hw
  go_enter Tryd.func68, Tryd.ntmps68
  go_wp2_with fail
  generalize w.alloc (.cells #[.int .i64 a0, .int .i64 a1, .int .i64 a2, .int .i64 a3] 70) = w1 at hB1 h1 hp1 hw1 hbq hsw ⊢
  go_wp2
  go_loopw [5, 11] (fun st i wr => ∃ k : Nat, k ≤ n ∧ i = .int .i64 k ∧ st = .int .u32 ((msk P (4 * k) : Nat) : Int) ∧ Below w1.heap.size w1 wr) (fun _ i _ => n - (Go.RowKit.intOf i).toNat)
  case atStart => exact ⟨0, Nat.zero_le _, rfl, rfl, Below.refl _ _⟩
  case round =>
    obtain ⟨i, hin, rfl, rfl, hB⟩ := hrel
    by_cases hlt : i < n
    · obtain ⟨b1, o1, rfl, hc⟩ := h1.2 i hlt
      obtain ⟨⟨x0, x1, x2⟩, hx⟩ : ∃ x, xs[i]?.getD mk0 = x := ⟨_, rfl⟩
      have HVX := Lib.hid (okC_mark HL.out HOK.out hlt hx)
      rw [hx] at hc
      have HX := Lib.hid hx
      obtain ⟨-, p0, p1, p2⟩ := (hc.mono hB).parts
      have hsz := hB.size
      have hii : (i : Int) < (n : Int) := by omega
      have hi0 : (0 : Int) ≤ (i : Int) := by omega
      have hA : Below w1.heap.size w1 (wr.alloc (.cells #[.int .i64 x0, .int .i64 x1, .int .i64 x2] 35)) := by (repeat (first | assumption | exact Below.refl _ _ | refine belowDN ?_ _ | refine Below.drew ?_ | refine Below.setCell ?_ (by first | omega | (simp <;> omega)) _ | refine Below.alloc ?_ (by first | omega | (simp <;> omega)) _ | refine belowCall ?_ (by assumption)))
      have hmx := MkC.fresh wr 35 x0 x1 x2
      clear hx hc hB
      go_wp2_with fail
      obtain ⟨mb, hmb⟩ : ∃ b, b = wr.heap.size := ⟨_, rfl⟩
      rw [← hmb] at hmx ⊢
      generalize wr.alloc (.cells #[.int .i64 x0, .int .i64 x1, .int .i64 x2] 35) = wA at hA hmx ⊢
      clear hmb p0 p1 p2
      have zA := hA.size
      go_wp2
      go_loopw [5, 16] (fun st ss wi => ∃ s : Nat, s ≤ 4 ∧ ss = .int .i64 s ∧ st = .int .u32 ((msk P (4 * i + s) : Nat) : Int) ∧ Below wA.heap.size wA wi) (fun _ ss _ => 4 - (Go.RowKit.intOf ss).toNat)
      case atStart => exact ⟨0, by omega, rfl, rfl, Below.refl _ _⟩
      case round =>
        obtain ⟨s, hs4, rfl, rfl, hBi⟩ := hrel
        by_cases hs : s < 4
        · have hss : (s : Int) < 4 := by omega
          have hs0 : (0 : Int) ≤ (s : Int) := by omega
          obtain ⟨hm1, m0, m1, m2⟩ := (hmx.mono hBi).parts
          rw [Nat.zero_add] at m1 m2
          have hB1r := belowCall hA hBi
          obtain ⟨hq1, q0, q1, q2, q3⟩ := (hbq.mono hB1r).parts
          rw [Nat.zero_add] at q1 q2 q3
          have hpA := hp1.mono hB1r
          have hwA := hw1.mono hB1r
          obtain ⟨⟨b0, b1', b2, b3⟩, hbx⟩ : ∃ q, bxQ (x0, x1, x2) (s : Int) = q := ⟨_, rfl⟩
          have HB := Lib.hid hbx
          have hpv := HPP.out i s hs
          rw [HX.out, hbx] at hpv
          obtain ⟨M, hM⟩ : ∃ m, msk P (4 * i + s) = m := ⟨_, rfl⟩
          have hM32 : M < 4294967296 := by rw [← hM]; exact msk_lt32 P (by omega)
          have h232 := pow_lt32 (show 4 * i + s < 32 by omega)
          clear hbx
          cases hov : ovB (b0, b1', b2, b3) (a0, a1, a2, a3)
          · have HS := Lib.hid ((msk_no (p := P) (k := 4 * i + s) (by rw [hpv]; exact hov)).trans hM)
            rw [hM]
            clear hpv hM
            go_wp2
            go_region_held3 (fun W' => W'.cell? ⟨mb, 0, none⟩ = some (.int .i64 x0) ∧ W'.cell? ⟨mb, 1, none⟩ = some (.int .i64 x1) ∧ W'.cell? ⟨mb, 2, none⟩ = some (.int .i64 x2) ∧ W'.cell? ⟨w.heap.size, 0, none⟩ = some (.int .i64 a0) ∧ W'.cell? ⟨w.heap.size, 1, none⟩ = some (.int .i64 a1) ∧ W'.cell? ⟨w.heap.size, 2, none⟩ = some (.int .i64 a2) ∧ W'.cell? ⟨w.heap.size, 3, none⟩ = some (.int .i64 a3)) (refine ⟨?_, ?_, ?_, ?_, ?_, ?_, ?_⟩ <;> first | assumption | exact ((show Below wr.heap.size wr _ by (repeat (first | assumption | exact Below.refl _ _ | refine belowDN ?_ _ | refine Below.drew ?_ | refine Below.setCell ?_ (by first | omega | (simp <;> omega)) _ | refine Below.alloc ?_ (by first | omega | (simp <;> omega)) _ | refine belowCall ?_ (by assumption)))).cell (p := ⟨mb, 0, none⟩) hm1).trans m0 | exact ((show Below wr.heap.size wr _ by (repeat (first | assumption | exact Below.refl _ _ | refine belowDN ?_ _ | refine Below.drew ?_ | refine Below.setCell ?_ (by first | omega | (simp <;> omega)) _ | refine Below.alloc ?_ (by first | omega | (simp <;> omega)) _ | refine belowCall ?_ (by assumption)))).cell (p := ⟨mb, 1, none⟩) hm1).trans m1 | exact ((show Below wr.heap.size wr _ by (repeat (first | assumption | exact Below.refl _ _ | refine belowDN ?_ _ | refine Below.drew ?_ | refine Below.setCell ?_ (by first | omega | (simp <;> omega)) _ | refine Below.alloc ?_ (by first | omega | (simp <;> omega)) _ | refine belowCall ?_ (by assumption)))).cell (p := ⟨mb, 2, none⟩) hm1).trans m2 | exact ((show Below wr.heap.size wr _ by (repeat (first | assumption | exact Below.refl _ _ | refine belowDN ?_ _ | refine Below.drew ?_ | refine Below.setCell ?_ (by first | omega | (simp <;> omega)) _ | refine Below.alloc ?_ (by first | omega | (simp <;> omega)) _ | refine belowCall ?_ (by assumption)))).cell (p := ⟨w.heap.size, 0, none⟩) hq1).trans q0 | exact ((show Below wr.heap.size wr _ by (repeat (first | assumption | exact Below.refl _ _ | refine belowDN ?_ _ | refine Below.drew ?_ | refine Below.setCell ?_ (by first | omega | (simp <;> omega)) _ | refine Below.alloc ?_ (by first | omega | (simp <;> omega)) _ | refine belowCall ?_ (by assumption)))).cell (p := ⟨w.heap.size, 1, none⟩) hq1).trans q1 | exact ((show Below wr.heap.size wr _ by (repeat (first | assumption | exact Below.refl _ _ | refine belowDN ?_ _ | refine Below.drew ?_ | refine Below.setCell ?_ (by first | omega | (simp <;> omega)) _ | refine Below.alloc ?_ (by first | omega | (simp <;> omega)) _ | refine belowCall ?_ (by assumption)))).cell (p := ⟨w.heap.size, 2, none⟩) hq1).trans q2 | exact ((show Below wr.heap.size wr _ by (repeat (first | assumption | exact Below.refl _ _ | refine belowDN ?_ _ | refine Below.drew ?_ | refine Below.setCell ?_ (by first | omega | (simp <;> omega)) _ | refine Below.alloc ?_ (by first | omega | (simp <;> omega)) _ | refine belowCall ?_ (by assumption)))).cell (p := ⟨w.heap.size, 3, none⟩) hq1).trans q3) (first | (go_at_call 46; refine (labelOn_any x0 x1 x2 (s : Int) _ HVX.out (by omega) (by omega) (hpA.mono (by (repeat (first | assumption | exact Below.refl _ _ | refine belowDN ?_ _ | refine Below.drew ?_ | refine Below.setCell ?_ (by first | omega | (simp <;> omega)) _ | refine Below.alloc ?_ (by first | omega | (simp <;> omega)) _ | refine belowCall ?_ (by assumption))))) (hwA.mono (by (repeat (first | assumption | exact Below.refl _ _ | refine belowDN ?_ _ | refine Below.drew ?_ | refine Below.setCell ?_ (by first | omega | (simp <;> omega)) _ | refine Below.alloc ?_ (by first | omega | (simp <;> omega)) _ | refine belowCall ?_ (by assumption))))) b0 b1' b2 b3 HB.out).mono ?_; rintro e w3 ⟨rfl, b3'⟩) | (go_at_call 48; refine (overlaps_any _ _ _ _ _ _ _ _ _).mono ?_; rintro e wM ⟨rfl, bM⟩; rw [hov]; have hbD : Below wr.heap.size wr wM := (by (repeat (first | assumption | exact Below.refl _ _ | refine belowDN ?_ _ | refine Below.drew ?_ | refine Below.setCell ?_ (by first | omega | (simp <;> omega)) _ | refine Below.alloc ?_ (by first | omega | (simp <;> omega)) _ | refine belowCall ?_ (by assumption))))))
            all_goals
              have hBM := belowCall hBi hbD
              go_wp2
              go_roundw
              case rel => exact ⟨s + 1, by omega, by go_num, by rw [← Nat.add_assoc, HS.out], hBM⟩
              case measure => simp [Go.RowKit.intOf]; omega
          · have HS := Lib.hid (msk_yes (p := P) (k := 4 * i + s) (by rw [hpv]; exact hov))
            rw [hM] at HS
            rw [hM]
            have hor := u32_or_nat M (2 ^ (4 * i + s)) hM32 h232
            have e2 : (2 : Int) ^ (4 * i + s) = ((2 ^ (4 * i + s) : Nat) : Int) := by rw [Int.natCast_pow]; rfl
            rw [← e2] at hor
            have HOR := Lib.hid hor
            clear hpv hM hor e2
            go_wp2
            go_region_held3 (fun W' => W'.cell? ⟨mb, 0, none⟩ = some (.int .i64 x0) ∧ W'.cell? ⟨mb, 1, none⟩ = some (.int .i64 x1) ∧ W'.cell? ⟨mb, 2, none⟩ = some (.int .i64 x2) ∧ W'.cell? ⟨w.heap.size, 0, none⟩ = some (.int .i64 a0) ∧ W'.cell? ⟨w.heap.size, 1, none⟩ = some (.int .i64 a1) ∧ W'.cell? ⟨w.heap.size, 2, none⟩ = some (.int .i64 a2) ∧ W'.cell? ⟨w.heap.size, 3, none⟩ = some (.int .i64 a3)) (refine ⟨?_, ?_, ?_, ?_, ?_, ?_, ?_⟩ <;> first | assumption | exact ((show Below wr.heap.size wr _ by (repeat (first | assumption | exact Below.refl _ _ | refine belowDN ?_ _ | refine Below.drew ?_ | refine Below.setCell ?_ (by first | omega | (simp <;> omega)) _ | refine Below.alloc ?_ (by first | omega | (simp <;> omega)) _ | refine belowCall ?_ (by assumption)))).cell (p := ⟨mb, 0, none⟩) hm1).trans m0 | exact ((show Below wr.heap.size wr _ by (repeat (first | assumption | exact Below.refl _ _ | refine belowDN ?_ _ | refine Below.drew ?_ | refine Below.setCell ?_ (by first | omega | (simp <;> omega)) _ | refine Below.alloc ?_ (by first | omega | (simp <;> omega)) _ | refine belowCall ?_ (by assumption)))).cell (p := ⟨mb, 1, none⟩) hm1).trans m1 | exact ((show Below wr.heap.size wr _ by (repeat (first | assumption | exact Below.refl _ _ | refine belowDN ?_ _ | refine Below.drew ?_ | refine Below.setCell ?_ (by first | omega | (simp <;> omega)) _ | refine Below.alloc ?_ (by first | omega | (simp <;> omega)) _ | refine belowCall ?_ (by assumption)))).cell (p := ⟨mb, 2, none⟩) hm1).trans m2 | exact ((show Below wr.heap.size wr _ by (repeat (first | assumption | exact Below.refl _ _ | refine belowDN ?_ _ | refine Below.drew ?_ | refine Below.setCell ?_ (by first | omega | (simp <;> omega)) _ | refine Below.alloc ?_ (by first | omega | (simp <;> omega)) _ | refine belowCall ?_ (by assumption)))).cell (p := ⟨w.heap.size, 0, none⟩) hq1).trans q0 | exact ((show Below wr.heap.size wr _ by (repeat (first | assumption | exact Below.refl _ _ | refine belowDN ?_ _ | refine Below.drew ?_ | refine Below.setCell ?_ (by first | omega | (simp <;> omega)) _ | refine Below.alloc ?_ (by first | omega | (simp <;> omega)) _ | refine belowCall ?_ (by assumption)))).cell (p := ⟨w.heap.size, 1, none⟩) hq1).trans q1 | exact ((show Below wr.heap.size wr _ by (repeat (first | assumption | exact Below.refl _ _ | refine belowDN ?_ _ | refine Below.drew ?_ | refine Below.setCell ?_ (by first | omega | (simp <;> omega)) _ | refine Below.alloc ?_ (by first | omega | (simp <;> omega)) _ | refine belowCall ?_ (by assumption)))).cell (p := ⟨w.heap.size, 2, none⟩) hq1).trans q2 | exact ((show Below wr.heap.size wr _ by (repeat (first | assumption | exact Below.refl _ _ | refine belowDN ?_ _ | refine Below.drew ?_ | refine Below.setCell ?_ (by first | omega | (simp <;> omega)) _ | refine Below.alloc ?_ (by first | omega | (simp <;> omega)) _ | refine belowCall ?_ (by assumption)))).cell (p := ⟨w.heap.size, 3, none⟩) hq1).trans q3) (first | (go_at_call 46; refine (labelOn_any x0 x1 x2 (s : Int) _ HVX.out (by omega) (by omega) (hpA.mono (by (repeat (first | assumption | exact Below.refl _ _ | refine belowDN ?_ _ | refine Below.drew ?_ | refine Below.setCell ?_ (by first | omega | (simp <;> omega)) _ | refine Below.alloc ?_ (by first | omega | (simp <;> omega)) _ | refine belowCall ?_ (by assumption))))) (hwA.mono (by (repeat (first | assumption | exact Below.refl _ _ | refine belowDN ?_ _ | refine Below.drew ?_ | refine Below.setCell ?_ (by first | omega | (simp <;> omega)) _ | refine Below.alloc ?_ (by first | omega | (simp <;> omega)) _ | refine belowCall ?_ (by assumption))))) b0 b1' b2 b3 HB.out).mono ?_; rintro e w3 ⟨rfl, b3'⟩) | (go_at_call 48; refine (overlaps_any _ _ _ _ _ _ _ _ _).mono ?_; rintro e wM ⟨rfl, bM⟩; rw [hov]; have hbD : Below wr.heap.size wr wM := (by (repeat (first | assumption | exact Below.refl _ _ | refine belowDN ?_ _ | refine Below.drew ?_ | refine Below.setCell ?_ (by first | omega | (simp <;> omega)) _ | refine Below.alloc ?_ (by first | omega | (simp <;> omega)) _ | refine belowCall ?_ (by assumption))))))
            all_goals
              have hBM := belowCall hBi hbD
              go_wp2_with (go_at_call 67; refine (labelBit_any i s _ (by omega) hs).mono ?_; rintro e w5 ⟨rfl, rfl⟩)
              go_roundw
              case rel => exact ⟨s + 1, by omega, by go_num, by rw [← Nat.add_assoc, HS.out]; exact congrArg (Value.int .u32) HOR.out, hBM⟩
              case measure => simp [Go.RowKit.intOf]; omega
        · have hs' : s = 4 := by omega
          subst hs'
          go_wp2
          go_roundw
          case rel => exact ⟨i + 1, by omega, by go_num, rfl, belowCall hA hBi⟩
          case measure => simp [Go.RowKit.intOf]; omega
    · obtain rfl : n = i := by omega
      go_wp2
      go_ret
      exact ⟨rfl, belowCall hB1 hB⟩
end Go.Proofs.YtfabpcdeppfmdaaDoor
