/- slices.BinarySearchFunc at estimates. -/
import Derived.Test.YtfnjndbnogeddaaE3
import Derived.Test.YtfnjndbnogeddaaP4
import Derived.Deep.RegionHeld3
namespace Go.Proofs.Ytfnjndbnogeddaa
open Go.ChangeShapes Go.WideShapes Go.ChangeAt Go.RowKit Go.Deep

/-- the place of an estimate in a list, and whether one stands there already -/
def PlcE (xs : List Es) (n : Nat) (x : Es) (k : Nat) (b : Bool) : Prop := k ≤ n ∧ (∀ j, j < k → esLt (xs[j]?.getD es0) x = true) ∧ (∀ j, k ≤ j → j < n → esLt (xs[j]?.getD es0) x = false) ∧ (b = true ↔ k < n ∧ esEq (xs[k]?.getD es0) x)
set_option maxRecDepth 100000 in
set_option maxHeartbeats 4000000 in
theorem bsE_any (a : Option Addr) (n c : Nat) (xs : List Es) (t0 : Int) (t1 t2 : ByteArray) (t3 : Int) (t4 : Bool) (w : World) (h : EsL w a n xs) (hn : n ≤ 100) (hr : RiseE xs) :
    Calls Try.prog 32 #[.slice a n c, .agg #[.int .i64 t0, .string t1, .string t2, .int .i64 t3, .bool t4], .func (.func 33) #[] #[]] w fun e w' => ∃ (k : Nat) (b : Bool), e = .returned (.tuple #[.int .i64 (k : Nat), .bool b]) ∧ PlcE xs n (t0, t1, t2, t3, t4) k b ∧ Below w.heap.size w w' := by
  have hl : (n : Int) ≤ 100 := by omega
  have HL := Lib.hid h.1
  have HMO := Lib.hid (fun (a b : Nat) (hab : a < b) (hb : b < n) => rise_ltE h.1 hr hab hb)
  have B0 : Below w.heap.size w (w.alloc (.cells #[.int .i64 t0, .string t1, .string t2, .int .i64 t3, .bool t4] 31)) := by (repeat (first | assumption | exact Below.refl _ _ | refine belowDN ?_ _ | refine Below.drew ?_ | refine Below.setCell ?_ (by first | omega | (simp <;> omega)) _ | refine Below.alloc ?_ (by first | omega | (simp <;> omega)) _ | refine belowCall ?_ (by assumption)))
  have hbx := EsC.fresh w 31 t0 t1 t2 t3 t4
  have hz : (w.alloc (.cells #[.int .i64 t0, .string t1, .string t2, .int .i64 t3, .bool t4] 31)).heap.size = w.heap.size + 1 := by simp
  clear hr
  go_enter Try.func32, Try.ntmps32
  go_wp2_with fail
  generalize w.alloc (.cells #[.int .i64 t0, .string t1, .string t2, .int .i64 t3, .bool t4] 31) = w1 at B0 hbx hz ⊢
  go_loopw [9, 10] (fun si sj wr => ∃ lo hi : Nat, lo ≤ hi ∧ hi ≤ n ∧ si = .int .i64 lo ∧ sj = .int .i64 hi ∧ (∀ j, j < lo → esLt (xs[j]?.getD es0) (t0, t1, t2, t3, t4) = true) ∧ (∀ j, hi ≤ j → j < n → esLt (xs[j]?.getD es0) (t0, t1, t2, t3, t4) = false) ∧ Below w1.heap.size w1 wr) (fun si sj _ => (Go.RowKit.intOf sj - Go.RowKit.intOf si).toNat)
  case atStart => exact ⟨0, n, Nat.zero_le _, Nat.le_refl _, rfl, rfl, fun j hj => absurd hj (by omega), fun j h1 h2 => absurd h1 (by omega), Below.refl _ _⟩
  case round =>
    obtain ⟨lo, hi, hlh, hhn, rfl, rfl, hlow, hhigh, hB⟩ := hrel
    have HLO := Lib.hid hlow
    have HHI := Lib.hid hhigh
    clear hlow hhigh
    have hBw := B0.trans (hB.mono B0.size)
    have hsz := hB.size
    obtain ⟨hb2, q0, q1, q2, q3, q4⟩ := (hbx.mono hB).parts
    rw [Nat.zero_add] at q1 q2 q3 q4
    have hii : (lo : Int) ≤ (hi : Int) := by omega
    have hhi : (hi : Int) ≤ (n : Int) := by omega
    by_cases hlt : lo < hi
    · have hll : (lo : Int) < (hi : Int) := by omega
      obtain ⟨m, hm⟩ : ∃ m : Nat, (lo + hi) / 2 = m := ⟨_, rfl⟩
      have hmi : ((lo : Int) + (hi : Int)) / 2 = (m : Int) := by omega
      have hmn : m < n := by omega
      have hm1 : lo ≤ m ∧ m < hi := by omega
      obtain ⟨b1, o1, rfl, hc⟩ := h.2 m hmn
      obtain ⟨⟨x0, x1, x2, x3, x4⟩, hx⟩ : ∃ x, xs[m]?.getD es0 = x := ⟨_, rfl⟩
      rw [hx] at hc
      obtain ⟨hb1, p0, p1, p2, p3, p4⟩ := (hc.mono hBw).parts
      have HX := Lib.hid hx
      have hmm : (m : Int) < (n : Int) := by omega
      obtain ⟨r, hr⟩ : ∃ r, cmpE (x0, x1, x2, x3, x4) (t0, t1, t2, t3, t4) = r := ⟨_, rfl⟩
      have hrl := cmpE_lt (x0, x1, x2, x3, x4) (t0, t1, t2, t3, t4)
      rw [hr] at hrl
      have HR := Lib.hid hr
      have HRL := Lib.hid hrl
      clear hx hc hr hrl hm
      by_cases hneg : r < 0
      · have hgd : decide (r < 0) = true := by simpa using hneg
        have HN := Lib.hid (fun j (hj : j < m + 1) => by
          have h2 : esLt (xs[m]?.getD es0) (t0, t1, t2, t3, t4) = true := by rw [HX.out]; exact HRL.out.1 hneg
          show esLt (xs[j]?.getD es0) (t0, t1, t2, t3, t4) = true
          by_cases e : j = m
          · rw [e]; exact h2
          · exact esLt_trans (HMO.out j m (by omega) hmn) h2)
        go_wp2_with fail
        go_region_held3 (fun W' => W'.cell? ⟨b1, o1 + m * 5, none⟩ = some (.int .i64 x0) ∧ W'.cell? ⟨b1, o1 + m * 5 + 1, none⟩ = some (.string x1) ∧ W'.cell? ⟨b1, o1 + m * 5 + 2, none⟩ = some (.string x2) ∧ W'.cell? ⟨b1, o1 + m * 5 + 3, none⟩ = some (.int .i64 x3) ∧ W'.cell? ⟨b1, o1 + m * 5 + 4, none⟩ = some (.bool x4) ∧ W'.cell? ⟨w.heap.size, 0, none⟩ = some (.int .i64 t0) ∧ W'.cell? ⟨w.heap.size, 1, none⟩ = some (.string t1) ∧ W'.cell? ⟨w.heap.size, 2, none⟩ = some (.string t2) ∧ W'.cell? ⟨w.heap.size, 3, none⟩ = some (.int .i64 t3) ∧ W'.cell? ⟨w.heap.size, 4, none⟩ = some (.bool t4)) (refine ⟨?_, ?_, ?_, ?_, ?_, ?_, ?_, ?_, ?_, ?_⟩ <;> first | assumption | exact ((show Below wr.heap.size wr _ by (repeat (first | assumption | exact Below.refl _ _ | refine belowDN ?_ _ | refine Below.drew ?_ | refine Below.setCell ?_ (by first | omega | (simp <;> omega)) _ | refine Below.alloc ?_ (by first | omega | (simp <;> omega)) _ | refine belowCall ?_ (by assumption)))).cell (p := ⟨b1, o1 + m * 5, none⟩) hb1).trans p0 | exact ((show Below wr.heap.size wr _ by (repeat (first | assumption | exact Below.refl _ _ | refine belowDN ?_ _ | refine Below.drew ?_ | refine Below.setCell ?_ (by first | omega | (simp <;> omega)) _ | refine Below.alloc ?_ (by first | omega | (simp <;> omega)) _ | refine belowCall ?_ (by assumption)))).cell (p := ⟨b1, o1 + m * 5 + 1, none⟩) hb1).trans p1 | exact ((show Below wr.heap.size wr _ by (repeat (first | assumption | exact Below.refl _ _ | refine belowDN ?_ _ | refine Below.drew ?_ | refine Below.setCell ?_ (by first | omega | (simp <;> omega)) _ | refine Below.alloc ?_ (by first | omega | (simp <;> omega)) _ | refine belowCall ?_ (by assumption)))).cell (p := ⟨b1, o1 + m * 5 + 2, none⟩) hb1).trans p2 | exact ((show Below wr.heap.size wr _ by (repeat (first | assumption | exact Below.refl _ _ | refine belowDN ?_ _ | refine Below.drew ?_ | refine Below.setCell ?_ (by first | omega | (simp <;> omega)) _ | refine Below.alloc ?_ (by first | omega | (simp <;> omega)) _ | refine belowCall ?_ (by assumption)))).cell (p := ⟨b1, o1 + m * 5 + 3, none⟩) hb1).trans p3 | exact ((show Below wr.heap.size wr _ by (repeat (first | assumption | exact Below.refl _ _ | refine belowDN ?_ _ | refine Below.drew ?_ | refine Below.setCell ?_ (by first | omega | (simp <;> omega)) _ | refine Below.alloc ?_ (by first | omega | (simp <;> omega)) _ | refine belowCall ?_ (by assumption)))).cell (p := ⟨b1, o1 + m * 5 + 4, none⟩) hb1).trans p4 | exact ((show Below wr.heap.size wr _ by (repeat (first | assumption | exact Below.refl _ _ | refine belowDN ?_ _ | refine Below.drew ?_ | refine Below.setCell ?_ (by first | omega | (simp <;> omega)) _ | refine Below.alloc ?_ (by first | omega | (simp <;> omega)) _ | refine belowCall ?_ (by assumption)))).cell (p := ⟨w.heap.size, 0, none⟩) hb2).trans q0 | exact ((show Below wr.heap.size wr _ by (repeat (first | assumption | exact Below.refl _ _ | refine belowDN ?_ _ | refine Below.drew ?_ | refine Below.setCell ?_ (by first | omega | (simp <;> omega)) _ | refine Below.alloc ?_ (by first | omega | (simp <;> omega)) _ | refine belowCall ?_ (by assumption)))).cell (p := ⟨w.heap.size, 1, none⟩) hb2).trans q1 | exact ((show Below wr.heap.size wr _ by (repeat (first | assumption | exact Below.refl _ _ | refine belowDN ?_ _ | refine Below.drew ?_ | refine Below.setCell ?_ (by first | omega | (simp <;> omega)) _ | refine Below.alloc ?_ (by first | omega | (simp <;> omega)) _ | refine belowCall ?_ (by assumption)))).cell (p := ⟨w.heap.size, 2, none⟩) hb2).trans q2 | exact ((show Below wr.heap.size wr _ by (repeat (first | assumption | exact Below.refl _ _ | refine belowDN ?_ _ | refine Below.drew ?_ | refine Below.setCell ?_ (by first | omega | (simp <;> omega)) _ | refine Below.alloc ?_ (by first | omega | (simp <;> omega)) _ | refine belowCall ?_ (by assumption)))).cell (p := ⟨w.heap.size, 3, none⟩) hb2).trans q3 | exact ((show Below wr.heap.size wr _ by (repeat (first | assumption | exact Below.refl _ _ | refine belowDN ?_ _ | refine Below.drew ?_ | refine Below.setCell ?_ (by first | omega | (simp <;> omega)) _ | refine Below.alloc ?_ (by first | omega | (simp <;> omega)) _ | refine belowCall ?_ (by assumption)))).cell (p := ⟨w.heap.size, 4, none⟩) hb2).trans q4) (first | (go_at_call 33; refine (esCmp_val _ _ _ _ _ _ _ _ _ _ r _ HR.out).mono ?_; rintro e w' ⟨rfl, hbel2⟩))
        all_goals
          go_wp2
          go_roundw
          case rel => exact ⟨m + 1, hi, by omega, by omega, by go_num, rfl, HN.out, HHI.out, belowCall hB (by (repeat (first | assumption | exact Below.refl _ _ | refine belowDN ?_ _ | refine Below.drew ?_ | refine Below.setCell ?_ (by first | omega | (simp <;> omega)) _ | refine Below.alloc ?_ (by first | omega | (simp <;> omega)) _ | refine belowCall ?_ (by assumption))))⟩
          case measure => simp [Go.RowKit.intOf]; omega
      · have hgd : decide (r < 0) = false := by simpa using hneg
        have HN := Lib.hid (fun j (hj : m ≤ j) (hjn : j < n) => by
          have h2 : esLt (xs[m]?.getD es0) (t0, t1, t2, t3, t4) = false := by
            rw [HX.out]
            cases hh : esLt (x0, x1, x2, x3, x4) (t0, t1, t2, t3, t4)
            · rfl
            · exact absurd (HRL.out.2 hh) hneg
          show esLt (xs[j]?.getD es0) (t0, t1, t2, t3, t4) = false
          by_cases e : j = m
          · rw [e]; exact h2
          · cases hh : esLt (xs[j]?.getD es0) (t0, t1, t2, t3, t4)
            · rfl
            · rw [esLt_trans (HMO.out m j (by omega) hjn) hh] at h2; cases h2)
        go_wp2_with fail
        go_region_held3 (fun W' => W'.cell? ⟨b1, o1 + m * 5, none⟩ = some (.int .i64 x0) ∧ W'.cell? ⟨b1, o1 + m * 5 + 1, none⟩ = some (.string x1) ∧ W'.cell? ⟨b1, o1 + m * 5 + 2, none⟩ = some (.string x2) ∧ W'.cell? ⟨b1, o1 + m * 5 + 3, none⟩ = some (.int .i64 x3) ∧ W'.cell? ⟨b1, o1 + m * 5 + 4, none⟩ = some (.bool x4) ∧ W'.cell? ⟨w.heap.size, 0, none⟩ = some (.int .i64 t0) ∧ W'.cell? ⟨w.heap.size, 1, none⟩ = some (.string t1) ∧ W'.cell? ⟨w.heap.size, 2, none⟩ = some (.string t2) ∧ W'.cell? ⟨w.heap.size, 3, none⟩ = some (.int .i64 t3) ∧ W'.cell? ⟨w.heap.size, 4, none⟩ = some (.bool t4)) (refine ⟨?_, ?_, ?_, ?_, ?_, ?_, ?_, ?_, ?_, ?_⟩ <;> first | assumption | exact ((show Below wr.heap.size wr _ by (repeat (first | assumption | exact Below.refl _ _ | refine belowDN ?_ _ | refine Below.drew ?_ | refine Below.setCell ?_ (by first | omega | (simp <;> omega)) _ | refine Below.alloc ?_ (by first | omega | (simp <;> omega)) _ | refine belowCall ?_ (by assumption)))).cell (p := ⟨b1, o1 + m * 5, none⟩) hb1).trans p0 | exact ((show Below wr.heap.size wr _ by (repeat (first | assumption | exact Below.refl _ _ | refine belowDN ?_ _ | refine Below.drew ?_ | refine Below.setCell ?_ (by first | omega | (simp <;> omega)) _ | refine Below.alloc ?_ (by first | omega | (simp <;> omega)) _ | refine belowCall ?_ (by assumption)))).cell (p := ⟨b1, o1 + m * 5 + 1, none⟩) hb1).trans p1 | exact ((show Below wr.heap.size wr _ by (repeat (first | assumption | exact Below.refl _ _ | refine belowDN ?_ _ | refine Below.drew ?_ | refine Below.setCell ?_ (by first | omega | (simp <;> omega)) _ | refine Below.alloc ?_ (by first | omega | (simp <;> omega)) _ | refine belowCall ?_ (by assumption)))).cell (p := ⟨b1, o1 + m * 5 + 2, none⟩) hb1).trans p2 | exact ((show Below wr.heap.size wr _ by (repeat (first | assumption | exact Below.refl _ _ | refine belowDN ?_ _ | refine Below.drew ?_ | refine Below.setCell ?_ (by first | omega | (simp <;> omega)) _ | refine Below.alloc ?_ (by first | omega | (simp <;> omega)) _ | refine belowCall ?_ (by assumption)))).cell (p := ⟨b1, o1 + m * 5 + 3, none⟩) hb1).trans p3 | exact ((show Below wr.heap.size wr _ by (repeat (first | assumption | exact Below.refl _ _ | refine belowDN ?_ _ | refine Below.drew ?_ | refine Below.setCell ?_ (by first | omega | (simp <;> omega)) _ | refine Below.alloc ?_ (by first | omega | (simp <;> omega)) _ | refine belowCall ?_ (by assumption)))).cell (p := ⟨b1, o1 + m * 5 + 4, none⟩) hb1).trans p4 | exact ((show Below wr.heap.size wr _ by (repeat (first | assumption | exact Below.refl _ _ | refine belowDN ?_ _ | refine Below.drew ?_ | refine Below.setCell ?_ (by first | omega | (simp <;> omega)) _ | refine Below.alloc ?_ (by first | omega | (simp <;> omega)) _ | refine belowCall ?_ (by assumption)))).cell (p := ⟨w.heap.size, 0, none⟩) hb2).trans q0 | exact ((show Below wr.heap.size wr _ by (repeat (first | assumption | exact Below.refl _ _ | refine belowDN ?_ _ | refine Below.drew ?_ | refine Below.setCell ?_ (by first | omega | (simp <;> omega)) _ | refine Below.alloc ?_ (by first | omega | (simp <;> omega)) _ | refine belowCall ?_ (by assumption)))).cell (p := ⟨w.heap.size, 1, none⟩) hb2).trans q1 | exact ((show Below wr.heap.size wr _ by (repeat (first | assumption | exact Below.refl _ _ | refine belowDN ?_ _ | refine Below.drew ?_ | refine Below.setCell ?_ (by first | omega | (simp <;> omega)) _ | refine Below.alloc ?_ (by first | omega | (simp <;> omega)) _ | refine belowCall ?_ (by assumption)))).cell (p := ⟨w.heap.size, 2, none⟩) hb2).trans q2 | exact ((show Below wr.heap.size wr _ by (repeat (first | assumption | exact Below.refl _ _ | refine belowDN ?_ _ | refine Below.drew ?_ | refine Below.setCell ?_ (by first | omega | (simp <;> omega)) _ | refine Below.alloc ?_ (by first | omega | (simp <;> omega)) _ | refine belowCall ?_ (by assumption)))).cell (p := ⟨w.heap.size, 3, none⟩) hb2).trans q3 | exact ((show Below wr.heap.size wr _ by (repeat (first | assumption | exact Below.refl _ _ | refine belowDN ?_ _ | refine Below.drew ?_ | refine Below.setCell ?_ (by first | omega | (simp <;> omega)) _ | refine Below.alloc ?_ (by first | omega | (simp <;> omega)) _ | refine belowCall ?_ (by assumption)))).cell (p := ⟨w.heap.size, 4, none⟩) hb2).trans q4) (first | (go_at_call 33; refine (esCmp_val _ _ _ _ _ _ _ _ _ _ r _ HR.out).mono ?_; rintro e w' ⟨rfl, hbel2⟩))
        all_goals
          go_wp2
          go_roundw
          case rel => exact ⟨lo, m, by omega, by omega, rfl, rfl, HLO.out, HN.out, belowCall hB (by (repeat (first | assumption | exact Below.refl _ _ | refine belowDN ?_ _ | refine Below.drew ?_ | refine Below.setCell ?_ (by first | omega | (simp <;> omega)) _ | refine Below.alloc ?_ (by first | omega | (simp <;> omega)) _ | refine belowCall ?_ (by assumption))))⟩
          case measure => simp [Go.RowKit.intOf]; omega
    · obtain rfl : lo = hi := by omega
      by_cases hlt2 : lo < n
      · have hll : (lo : Int) < (n : Int) := by omega
        obtain ⟨b1, o1, rfl, hc⟩ := h.2 lo hlt2
        obtain ⟨⟨x0, x1, x2, x3, x4⟩, hx⟩ : ∃ x, xs[lo]?.getD es0 = x := ⟨_, rfl⟩
        rw [hx] at hc
        obtain ⟨hb1, p0, p1, p2, p3, p4⟩ := (hc.mono hBw).parts
        obtain ⟨r, hr⟩ : ∃ r, cmpE (x0, x1, x2, x3, x4) (t0, t1, t2, t3, t4) = r := ⟨_, rfl⟩
        have hrz := cmpE_zero (x0, x1, x2, x3, x4) (t0, t1, t2, t3, t4)
        rw [hr] at hrz
        have HP : Hid (PlcE xs n (t0, t1, t2, t3, t4) lo (r == 0)) := Lib.hid ⟨hhn, HLO.out, HHI.out, by rw [hx, ← hrz]; simp [hlt2]⟩
        have HR := Lib.hid hr
        clear hx hc hr hrz
        go_wp2_with fail
        go_region_held3 (fun W' => W'.cell? ⟨b1, o1 + lo * 5, none⟩ = some (.int .i64 x0) ∧ W'.cell? ⟨b1, o1 + lo * 5 + 1, none⟩ = some (.string x1) ∧ W'.cell? ⟨b1, o1 + lo * 5 + 2, none⟩ = some (.string x2) ∧ W'.cell? ⟨b1, o1 + lo * 5 + 3, none⟩ = some (.int .i64 x3) ∧ W'.cell? ⟨b1, o1 + lo * 5 + 4, none⟩ = some (.bool x4) ∧ W'.cell? ⟨w.heap.size, 0, none⟩ = some (.int .i64 t0) ∧ W'.cell? ⟨w.heap.size, 1, none⟩ = some (.string t1) ∧ W'.cell? ⟨w.heap.size, 2, none⟩ = some (.string t2) ∧ W'.cell? ⟨w.heap.size, 3, none⟩ = some (.int .i64 t3) ∧ W'.cell? ⟨w.heap.size, 4, none⟩ = some (.bool t4)) (refine ⟨?_, ?_, ?_, ?_, ?_, ?_, ?_, ?_, ?_, ?_⟩ <;> first | assumption | exact ((show Below wr.heap.size wr _ by (repeat (first | assumption | exact Below.refl _ _ | refine belowDN ?_ _ | refine Below.drew ?_ | refine Below.setCell ?_ (by first | omega | (simp <;> omega)) _ | refine Below.alloc ?_ (by first | omega | (simp <;> omega)) _ | refine belowCall ?_ (by assumption)))).cell (p := ⟨b1, o1 + lo * 5, none⟩) hb1).trans p0 | exact ((show Below wr.heap.size wr _ by (repeat (first | assumption | exact Below.refl _ _ | refine belowDN ?_ _ | refine Below.drew ?_ | refine Below.setCell ?_ (by first | omega | (simp <;> omega)) _ | refine Below.alloc ?_ (by first | omega | (simp <;> omega)) _ | refine belowCall ?_ (by assumption)))).cell (p := ⟨b1, o1 + lo * 5 + 1, none⟩) hb1).trans p1 | exact ((show Below wr.heap.size wr _ by (repeat (first | assumption | exact Below.refl _ _ | refine belowDN ?_ _ | refine Below.drew ?_ | refine Below.setCell ?_ (by first | omega | (simp <;> omega)) _ | refine Below.alloc ?_ (by first | omega | (simp <;> omega)) _ | refine belowCall ?_ (by assumption)))).cell (p := ⟨b1, o1 + lo * 5 + 2, none⟩) hb1).trans p2 | exact ((show Below wr.heap.size wr _ by (repeat (first | assumption | exact Below.refl _ _ | refine belowDN ?_ _ | refine Below.drew ?_ | refine Below.setCell ?_ (by first | omega | (simp <;> omega)) _ | refine Below.alloc ?_ (by first | omega | (simp <;> omega)) _ | refine belowCall ?_ (by assumption)))).cell (p := ⟨b1, o1 + lo * 5 + 3, none⟩) hb1).trans p3 | exact ((show Below wr.heap.size wr _ by (repeat (first | assumption | exact Below.refl _ _ | refine belowDN ?_ _ | refine Below.drew ?_ | refine Below.setCell ?_ (by first | omega | (simp <;> omega)) _ | refine Below.alloc ?_ (by first | omega | (simp <;> omega)) _ | refine belowCall ?_ (by assumption)))).cell (p := ⟨b1, o1 + lo * 5 + 4, none⟩) hb1).trans p4 | exact ((show Below wr.heap.size wr _ by (repeat (first | assumption | exact Below.refl _ _ | refine belowDN ?_ _ | refine Below.drew ?_ | refine Below.setCell ?_ (by first | omega | (simp <;> omega)) _ | refine Below.alloc ?_ (by first | omega | (simp <;> omega)) _ | refine belowCall ?_ (by assumption)))).cell (p := ⟨w.heap.size, 0, none⟩) hb2).trans q0 | exact ((show Below wr.heap.size wr _ by (repeat (first | assumption | exact Below.refl _ _ | refine belowDN ?_ _ | refine Below.drew ?_ | refine Below.setCell ?_ (by first | omega | (simp <;> omega)) _ | refine Below.alloc ?_ (by first | omega | (simp <;> omega)) _ | refine belowCall ?_ (by assumption)))).cell (p := ⟨w.heap.size, 1, none⟩) hb2).trans q1 | exact ((show Below wr.heap.size wr _ by (repeat (first | assumption | exact Below.refl _ _ | refine belowDN ?_ _ | refine Below.drew ?_ | refine Below.setCell ?_ (by first | omega | (simp <;> omega)) _ | refine Below.alloc ?_ (by first | omega | (simp <;> omega)) _ | refine belowCall ?_ (by assumption)))).cell (p := ⟨w.heap.size, 2, none⟩) hb2).trans q2 | exact ((show Below wr.heap.size wr _ by (repeat (first | assumption | exact Below.refl _ _ | refine belowDN ?_ _ | refine Below.drew ?_ | refine Below.setCell ?_ (by first | omega | (simp <;> omega)) _ | refine Below.alloc ?_ (by first | omega | (simp <;> omega)) _ | refine belowCall ?_ (by assumption)))).cell (p := ⟨w.heap.size, 3, none⟩) hb2).trans q3 | exact ((show Below wr.heap.size wr _ by (repeat (first | assumption | exact Below.refl _ _ | refine belowDN ?_ _ | refine Below.drew ?_ | refine Below.setCell ?_ (by first | omega | (simp <;> omega)) _ | refine Below.alloc ?_ (by first | omega | (simp <;> omega)) _ | refine belowCall ?_ (by assumption)))).cell (p := ⟨w.heap.size, 4, none⟩) hb2).trans q4) (first | (go_at_call 33; refine (esCmp_val _ _ _ _ _ _ _ _ _ _ r _ HR.out).mono ?_; rintro e w' ⟨rfl, hbel2⟩))
        all_goals
          go_wp2
          go_ret2
          exact ⟨lo, _, rfl, HP.out, belowCall hBw (by (repeat (first | assumption | exact Below.refl _ _ | refine belowDN ?_ _ | refine Below.drew ?_ | refine Below.setCell ?_ (by first | omega | (simp <;> omega)) _ | refine Below.alloc ?_ (by first | omega | (simp <;> omega)) _ | refine belowCall ?_ (by assumption))))⟩
      · obtain rfl : lo = n := by omega
        have HP : Hid (PlcE xs lo (t0, t1, t2, t3, t4) lo false) := Lib.hid ⟨hhn, HLO.out, HHI.out, by simp⟩
        go_wp2
        go_big_quiet (fail)
        go_wp2
        go_ret2
        exact ⟨lo, false, rfl, HP.out, belowDN hBw _⟩
end Go.Proofs.Ytfnjndbnogeddaa
