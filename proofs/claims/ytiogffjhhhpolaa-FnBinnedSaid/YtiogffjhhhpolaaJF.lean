/- The place of a time in a light curve; slices.BinarySearchFunc at points. -/
import Derived.Test.YtiogffjhhhpolaaJ2
import Derived.Test.YtiogffjhhhpolaaJ3
import Derived.Test.YtiogffjhhhpolaaJV
import Derived.Deep.RegionHeld3
namespace Go.Proofs.Ytiogffjhhhpolaa
open Go.ChangeShapes Go.WideShapes Go.ChangeAt Go.RowKit Go.Deep

/-- how many points are before a time -/
def plc (xs : List Pt) (t : Int) : Nat := (xs.takeWhile fun y => decide (y.1 < t)).length
theorem plc_is {xs : List Pt} {t : Int} {n k : Nat} (hn : xs.length = n) (hk : k ≤ n) (h : ∀ j, j < k → (xs[j]?.getD pt0).1 < t) (h2 : k = n ∨ t ≤ (xs[k]?.getD pt0).1) : plc xs t = k :=
  tw_len (p := fun y => decide (y.1 < t)) xs k (by omega) (fun j hj => by simpa using h j hj) (by rw [hn]; rcases h2 with h2 | h2; exact .inl h2; exact .inr (by simpa using h2))
theorem plc_at {xs : List Pt} {n : Nat} (hn : xs.length = n) (t : Int) : plc xs t ≤ n ∧ (∀ j, j < plc xs t → (xs[j]?.getD pt0).1 < t) ∧ (plc xs t = n ∨ t ≤ (xs[plc xs t]?.getD pt0).1) := by
  obtain ⟨h1, h2, h3⟩ := tw_is (p := fun y => decide (y.1 < t)) xs
  refine ⟨by rw [← hn]; exact h1, fun j hj => by simpa using h2 j hj, ?_⟩
  rcases h3 with h3 | h3
  · exact .inl (by rw [← hn]; exact h3)
  · exact .inr (by unfold plc; simpa using h3)
def exB (xs : List Pt) (t : Int) : Bool := decide (plc xs t < xs.length) && decide ((xs[plc xs t]?.getD pt0).1 = t)
set_option maxRecDepth 100000 in
set_option maxHeartbeats 4000000 in
theorem bsP_any (a : Option Addr) (n c : Nat) (xs : List Pt) (t tm : Int) (w : World) (h : PtL w a n xs) (hn : n ≤ 100) (hmono : ∀ a b, a ≤ b → b < n → (xs[a]?.getD pt0).1 ≤ (xs[b]?.getD pt0).1) :
    Calls Try.prog 68 #[.slice a n c, .agg #[.int .i64 t, .int .i64 tm], .func (.func 61) #[] #[]] w fun e w' => e = .returned (.tuple #[.int .i64 (plc xs t : Nat), .bool (exB xs t)]) ∧ Below w.heap.size w w' := by
  have hl : (n : Int) ≤ 100 := by omega
  have HL := Lib.hid h.1
  have HMO := Lib.hid hmono
  have B0 : Below w.heap.size w (w.alloc (.cells #[.int .i64 t, .int .i64 tm] 37)) := by (repeat (first | assumption | exact Below.refl _ _ | refine belowDN ?_ _ | refine Below.drew ?_ | refine Below.setCell ?_ (by first | omega | (simp <;> omega)) _ | refine Below.alloc ?_ (by first | omega | (simp <;> omega)) _ | refine belowCall ?_ (by assumption)))
  have c0 : (w.alloc (.cells #[.int .i64 t, .int .i64 tm] 37)).cell? ⟨w.heap.size, 0, none⟩ = some (.int .i64 t) := by go_keep
  have c1 : (w.alloc (.cells #[.int .i64 t, .int .i64 tm] 37)).cell? ⟨w.heap.size, 1, none⟩ = some (.int .i64 tm) := by go_keep
  have hz : (w.alloc (.cells #[.int .i64 t, .int .i64 tm] 37)).heap.size = w.heap.size + 1 := by simp
  clear hmono
  go_enter Try.func68, Try.ntmps68
  go_wp2_with fail
  generalize w.alloc (.cells #[.int .i64 t, .int .i64 tm] 37) = w1 at B0 c0 c1 hz ⊢
  go_loopw [9, 10] (fun si sj wr => ∃ lo hi : Nat, lo ≤ hi ∧ hi ≤ n ∧ si = .int .i64 lo ∧ sj = .int .i64 hi ∧ (∀ j, j < lo → (xs[j]?.getD pt0).1 < t) ∧ (∀ j, hi ≤ j → j < n → t ≤ (xs[j]?.getD pt0).1) ∧ Below w1.heap.size w1 wr) (fun si sj _ => (Go.RowKit.intOf sj - Go.RowKit.intOf si).toNat)
  case atStart => exact ⟨0, n, Nat.zero_le _, Nat.le_refl _, rfl, rfl, fun j hj => absurd hj (by omega), fun j h1 h2 => absurd h1 (by omega), Below.refl _ _⟩
  case round =>
    obtain ⟨lo, hi, hlh, hhn, rfl, rfl, hlow, hhigh, hB⟩ := hrel
    have HLO := Lib.hid hlow
    have HHI := Lib.hid hhigh
    clear hlow hhigh
    have hBw := B0.trans (hB.mono B0.size)
    have hsz := hB.size
    have hb2 : w.heap.size < wr.heap.size := by omega
    have q0 := (hB.cell (p := ⟨w.heap.size, 0, none⟩) (by show w.heap.size < _; omega)).trans c0
    have q1 := (hB.cell (p := ⟨w.heap.size, 1, none⟩) (by show w.heap.size < _; omega)).trans c1
    have hii : (lo : Int) ≤ (hi : Int) := by omega
    have hhi : (hi : Int) ≤ (n : Int) := by omega
    by_cases hlt : lo < hi
    · have hll : (lo : Int) < (hi : Int) := by omega
      obtain ⟨m, hm⟩ : ∃ m : Nat, (lo + hi) / 2 = m := ⟨_, rfl⟩
      have hmi : ((lo : Int) + (hi : Int)) / 2 = (m : Int) := by omega
      have hmn : m < n := by omega
      have hm1 : lo ≤ m ∧ m < hi := by omega
      obtain ⟨b1, o1, rfl, hc⟩ := h.2 m hmn
      obtain ⟨⟨x0, x1⟩, hx⟩ : ∃ x, xs[m]?.getD pt0 = x := ⟨_, rfl⟩
      rw [hx] at hc
      obtain ⟨hb1, p0, p1⟩ := (hc.mono hBw).parts
      have HX := Lib.hid hx
      have hmm : (m : Int) < (n : Int) := by omega
      obtain ⟨r, hr⟩ : ∃ r, sgI x0 t = r := ⟨_, rfl⟩
      have hrl := sgI_neg (x := x0) (y := t)
      rw [hr] at hrl
      have HR := Lib.hid hr
      have HRL := Lib.hid hrl
      have HM := Lib.hid hm
      clear hx hc hr hrl hm
      by_cases hneg : r < 0
      · have hgd : decide (r < 0) = true := by simpa using hneg
        have HN := Lib.hid (fun j (hj : j < m + 1) => by
          have h1 := HMO.out j m (by omega) hmn
          have h2 := HRL.out.1 hneg
          rw [HX.out] at h1
          show (xs[j]?.getD pt0).1 < t
          have h3 : (xs[j]?.getD pt0).1 ≤ x0 := h1
          omega)
        go_wp2_with fail
        go_region_held3 (fun W' => W'.cell? ⟨b1, o1 + m * 2, none⟩ = some (.int .i64 x0) ∧ W'.cell? ⟨b1, o1 + m * 2 + 1, none⟩ = some (.int .i64 x1) ∧ W'.cell? ⟨w.heap.size, 0, none⟩ = some (.int .i64 t) ∧ W'.cell? ⟨w.heap.size, 1, none⟩ = some (.int .i64 tm)) (refine ⟨?_, ?_, ?_, ?_⟩ <;> first | assumption | exact ((show Below wr.heap.size wr _ by (repeat (first | assumption | exact Below.refl _ _ | refine belowDN ?_ _ | refine Below.drew ?_ | refine Below.setCell ?_ (by first | omega | (simp <;> omega)) _ | refine Below.alloc ?_ (by first | omega | (simp <;> omega)) _ | refine belowCall ?_ (by assumption)))).cell (p := ⟨b1, o1 + m * 2, none⟩) hb1).trans p0 | exact ((show Below wr.heap.size wr _ by (repeat (first | assumption | exact Below.refl _ _ | refine belowDN ?_ _ | refine Below.drew ?_ | refine Below.setCell ?_ (by first | omega | (simp <;> omega)) _ | refine Below.alloc ?_ (by first | omega | (simp <;> omega)) _ | refine belowCall ?_ (by assumption)))).cell (p := ⟨b1, o1 + m * 2 + 1, none⟩) hb1).trans p1 | exact ((show Below wr.heap.size wr _ by (repeat (first | assumption | exact Below.refl _ _ | refine belowDN ?_ _ | refine Below.drew ?_ | refine Below.setCell ?_ (by first | omega | (simp <;> omega)) _ | refine Below.alloc ?_ (by first | omega | (simp <;> omega)) _ | refine belowCall ?_ (by assumption)))).cell (p := ⟨w.heap.size, 0, none⟩) hb2).trans q0 | exact ((show Below wr.heap.size wr _ by (repeat (first | assumption | exact Below.refl _ _ | refine belowDN ?_ _ | refine Below.drew ?_ | refine Below.setCell ?_ (by first | omega | (simp <;> omega)) _ | refine Below.alloc ?_ (by first | omega | (simp <;> omega)) _ | refine belowCall ?_ (by assumption)))).cell (p := ⟨w.heap.size, 1, none⟩) hb2).trans q1) (first | (go_at_call 61; refine (ptCmp_val _ _ _ _ r _ HR.out).mono ?_; rintro e w' ⟨rfl, hbel2⟩))
        all_goals
          go_wp2
          go_roundw
          case rel => exact ⟨m + 1, hi, by omega, by omega, by go_num, rfl, HN.out, HHI.out, belowCall hB (by (repeat (first | assumption | exact Below.refl _ _ | refine belowDN ?_ _ | refine Below.drew ?_ | refine Below.setCell ?_ (by first | omega | (simp <;> omega)) _ | refine Below.alloc ?_ (by first | omega | (simp <;> omega)) _ | refine belowCall ?_ (by assumption))))⟩
          case measure => simp [Go.RowKit.intOf]; omega
      · have hgd : decide (r < 0) = false := by simpa using hneg
        have HN := Lib.hid (fun j (hj : m ≤ j) (hjn : j < n) => by
          have h1 := HMO.out m j hj hjn
          have h2 : ¬ x0 < t := fun hh => hneg (HRL.out.2 hh)
          rw [HX.out] at h1
          show t ≤ (xs[j]?.getD pt0).1
          have h3 : x0 ≤ (xs[j]?.getD pt0).1 := h1
          omega)
        go_wp2_with fail
        go_region_held3 (fun W' => W'.cell? ⟨b1, o1 + m * 2, none⟩ = some (.int .i64 x0) ∧ W'.cell? ⟨b1, o1 + m * 2 + 1, none⟩ = some (.int .i64 x1) ∧ W'.cell? ⟨w.heap.size, 0, none⟩ = some (.int .i64 t) ∧ W'.cell? ⟨w.heap.size, 1, none⟩ = some (.int .i64 tm)) (refine ⟨?_, ?_, ?_, ?_⟩ <;> first | assumption | exact ((show Below wr.heap.size wr _ by (repeat (first | assumption | exact Below.refl _ _ | refine belowDN ?_ _ | refine Below.drew ?_ | refine Below.setCell ?_ (by first | omega | (simp <;> omega)) _ | refine Below.alloc ?_ (by first | omega | (simp <;> omega)) _ | refine belowCall ?_ (by assumption)))).cell (p := ⟨b1, o1 + m * 2, none⟩) hb1).trans p0 | exact ((show Below wr.heap.size wr _ by (repeat (first | assumption | exact Below.refl _ _ | refine belowDN ?_ _ | refine Below.drew ?_ | refine Below.setCell ?_ (by first | omega | (simp <;> omega)) _ | refine Below.alloc ?_ (by first | omega | (simp <;> omega)) _ | refine belowCall ?_ (by assumption)))).cell (p := ⟨b1, o1 + m * 2 + 1, none⟩) hb1).trans p1 | exact ((show Below wr.heap.size wr _ by (repeat (first | assumption | exact Below.refl _ _ | refine belowDN ?_ _ | refine Below.drew ?_ | refine Below.setCell ?_ (by first | omega | (simp <;> omega)) _ | refine Below.alloc ?_ (by first | omega | (simp <;> omega)) _ | refine belowCall ?_ (by assumption)))).cell (p := ⟨w.heap.size, 0, none⟩) hb2).trans q0 | exact ((show Below wr.heap.size wr _ by (repeat (first | assumption | exact Below.refl _ _ | refine belowDN ?_ _ | refine Below.drew ?_ | refine Below.setCell ?_ (by first | omega | (simp <;> omega)) _ | refine Below.alloc ?_ (by first | omega | (simp <;> omega)) _ | refine belowCall ?_ (by assumption)))).cell (p := ⟨w.heap.size, 1, none⟩) hb2).trans q1) (first | (go_at_call 61; refine (ptCmp_val _ _ _ _ r _ HR.out).mono ?_; rintro e w' ⟨rfl, hbel2⟩))
        all_goals
          go_wp2
          go_roundw
          case rel => exact ⟨lo, m, by omega, by omega, rfl, rfl, HLO.out, HN.out, belowCall hB (by (repeat (first | assumption | exact Below.refl _ _ | refine belowDN ?_ _ | refine Below.drew ?_ | refine Below.setCell ?_ (by first | omega | (simp <;> omega)) _ | refine Below.alloc ?_ (by first | omega | (simp <;> omega)) _ | refine belowCall ?_ (by assumption))))⟩
          case measure => simp [Go.RowKit.intOf]; omega
    · obtain rfl : lo = hi := by omega
      have HP := Lib.hid (plc_is HL.out hhn HLO.out (by by_cases e : lo = n; exact .inl e; exact .inr (HHI.out lo (Nat.le_refl _) (by omega))))
      by_cases hlt2 : lo < n
      · have hll : (lo : Int) < (n : Int) := by omega
        obtain ⟨b1, o1, rfl, hc⟩ := h.2 lo hlt2
        obtain ⟨⟨x0, x1⟩, hx⟩ : ∃ x, xs[lo]?.getD pt0 = x := ⟨_, rfl⟩
        rw [hx] at hc
        obtain ⟨hb1, p0, p1⟩ := (hc.mono hBw).parts
        obtain ⟨r, hr⟩ : ∃ r, sgI x0 t = r := ⟨_, rfl⟩
        have hrz := sgI_zero (x := x0) (y := t)
        rw [hr] at hrz
        have HE : Hid (exB xs t = (r == 0)) := Lib.hid (by
          rw [exB, HP.out, HL.out, hx, Bool.eq_iff_iff]
          simp [hlt2, hrz])
        have HR := Lib.hid hr
        clear hx hc hr hrz
        go_wp2_with fail
        go_region_held3 (fun W' => W'.cell? ⟨b1, o1 + lo * 2, none⟩ = some (.int .i64 x0) ∧ W'.cell? ⟨b1, o1 + lo * 2 + 1, none⟩ = some (.int .i64 x1) ∧ W'.cell? ⟨w.heap.size, 0, none⟩ = some (.int .i64 t) ∧ W'.cell? ⟨w.heap.size, 1, none⟩ = some (.int .i64 tm)) (refine ⟨?_, ?_, ?_, ?_⟩ <;> first | assumption | exact ((show Below wr.heap.size wr _ by (repeat (first | assumption | exact Below.refl _ _ | refine belowDN ?_ _ | refine Below.drew ?_ | refine Below.setCell ?_ (by first | omega | (simp <;> omega)) _ | refine Below.alloc ?_ (by first | omega | (simp <;> omega)) _ | refine belowCall ?_ (by assumption)))).cell (p := ⟨b1, o1 + lo * 2, none⟩) hb1).trans p0 | exact ((show Below wr.heap.size wr _ by (repeat (first | assumption | exact Below.refl _ _ | refine belowDN ?_ _ | refine Below.drew ?_ | refine Below.setCell ?_ (by first | omega | (simp <;> omega)) _ | refine Below.alloc ?_ (by first | omega | (simp <;> omega)) _ | refine belowCall ?_ (by assumption)))).cell (p := ⟨b1, o1 + lo * 2 + 1, none⟩) hb1).trans p1 | exact ((show Below wr.heap.size wr _ by (repeat (first | assumption | exact Below.refl _ _ | refine belowDN ?_ _ | refine Below.drew ?_ | refine Below.setCell ?_ (by first | omega | (simp <;> omega)) _ | refine Below.alloc ?_ (by first | omega | (simp <;> omega)) _ | refine belowCall ?_ (by assumption)))).cell (p := ⟨w.heap.size, 0, none⟩) hb2).trans q0 | exact ((show Below wr.heap.size wr _ by (repeat (first | assumption | exact Below.refl _ _ | refine belowDN ?_ _ | refine Below.drew ?_ | refine Below.setCell ?_ (by first | omega | (simp <;> omega)) _ | refine Below.alloc ?_ (by first | omega | (simp <;> omega)) _ | refine belowCall ?_ (by assumption)))).cell (p := ⟨w.heap.size, 1, none⟩) hb2).trans q1) (first | (go_at_call 61; refine (ptCmp_val _ _ _ _ r _ HR.out).mono ?_; rintro e w' ⟨rfl, hbel2⟩))
        all_goals
          go_wp2
          go_ret2
          exact ⟨by rw [HP.out, HE.out]; rfl, belowCall hBw (by (repeat (first | assumption | exact Below.refl _ _ | refine belowDN ?_ _ | refine Below.drew ?_ | refine Below.setCell ?_ (by first | omega | (simp <;> omega)) _ | refine Below.alloc ?_ (by first | omega | (simp <;> omega)) _ | refine belowCall ?_ (by assumption))))⟩
      · obtain rfl : lo = n := by omega
        have HE : Hid (exB xs t = false) := Lib.hid (by simp [exB, HP.out, HL.out])
        go_wp2
        go_big_quiet (fail)
        go_wp2
        go_ret2
        exact ⟨by rw [HP.out, HE.out]; rfl, belowDN hBw _⟩
end Go.Proofs.Ytiogffjhhhpolaa
