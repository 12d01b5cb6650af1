/- SameCurve, both sides (by gen.py). -/
import Derived.Test.YtiogffjhhhpolaaGPt2
namespace Go.Proofs.Ytiogffjhhhpolaa
open Go.ChangeShapes Go.WideShapes Go.ChangeAt Go.RowKit Go.Deep

def samePt (xs ys : List Pt) : Bool := decide (xs = ys)
theorem samePt_yes {xs ys : List Pt} {n : Nat} (h1 : xs.length = n) (h2 : ys.length = n) (h : ∀ j, j < n → xs[j]?.getD pt0 = ys[j]?.getD pt0) : samePt xs ys = true := by
  have : xs = ys := List.ext_getElem (by omega) fun j hj hj' => by
    have := h j (by omega)
    simpa [hj, hj'] using this
  simp [samePt, this]
theorem samePt_no {xs ys : List Pt} {k : Nat} (h : PtE (xs[k]?.getD pt0) (ys[k]?.getD pt0) = false) : samePt xs ys = false := by
  simp only [samePt, decide_eq_false_iff_not]
  intro e
  rw [e, PtE_self] at h
  cases h
theorem samePt_len {xs ys : List Pt} (h : xs.length ≠ ys.length) : samePt xs ys = false := by
  simp only [samePt, decide_eq_false_iff_not]
  intro e; exact h (by rw [e])
set_option maxRecDepth 100000 in
set_option maxHeartbeats 2000000 in
theorem sSamePt_any (a b : Option Addr) (n m c c' : Nat) (xs ys : List Pt) (w : World) (h : PtL w a n xs) (h' : PtL w b m ys) (hn : n ≤ 1048576) (hm : m ≤ 1048576) :
    Calls Try.prog 24 #[.slice a n c, .slice b m c'] w fun e w' => e = .returned (.bool (samePt xs ys)) ∧ Below w.heap.size w w' := by
  have HL := Lib.hid h.1
  have HM := Lib.hid h'.1
  have hl : (n : Int) ≤ 1048576 := by omega
  by_cases hnm : n = m
  · subst hnm
    go_enter Try.func24, Try.ntmps24
    go_wp2
    go_loopw [5] (fun i wr => ∃ k q : Nat, k ≤ n ∧ i = .int .i64 k ∧ (∀ j, j < k → xs[j]?.getD pt0 = ys[j]?.getD pt0) ∧ wr = w.drewN q) (fun i _ => n - (Go.RowKit.intOf i).toNat)
    case atStart => exact ⟨0, 0, Nat.zero_le _, rfl, fun j hj => absurd hj (by omega), rfl⟩
    case round =>
      obtain ⟨k, q, hk, rfl, hall, rfl⟩ := hrel
      have HALL := Lib.hid hall
      clear hall
      by_cases hlt : k < n
      · obtain ⟨b1, o1, rfl, hc⟩ := h.2 k hlt
        obtain ⟨b2, o2, rfl, hc'⟩ := h'.2 k hlt
        obtain ⟨⟨x0, x1⟩, hx⟩ : ∃ x, xs[k]?.getD pt0 = x := ⟨_, rfl⟩
        obtain ⟨⟨y0, y1⟩, hy⟩ : ∃ x, ys[k]?.getD pt0 = x := ⟨_, rfl⟩
        rw [hx] at hc
        rw [hy] at hc'
        obtain ⟨p, p0, p1⟩ := hc.parts
        obtain ⟨r, r0, r1⟩ := hc'.parts
        have HX := Lib.hid hx
        have HY := Lib.hid hy
        clear hx hy hc hc'
        have hkk : (k : Int) < (n : Int) := by omega
        have HN := neq_Pt x0 x1 y0 y1
        cases hE : PtE (x0, x1) (y0, y1)
        · have HD := Lib.hid (samePt_no (xs := xs) (ys := ys) (k := k) (by rw [HX.out, HY.out]; exact hE))
          rw [hE] at HN
          go_wp2
          go_big_quiet (fail)
          go_wp2
          go_ret
          exact ⟨by rw [HD.out]; rfl, by (repeat (first | assumption | exact Below.refl _ _ | refine belowDN ?_ _ | refine Below.drew ?_ | refine Below.setCell ?_ (by first | omega | (simp <;> omega)) _ | refine Below.alloc ?_ (by first | omega | (simp <;> omega)) _ | refine belowCall ?_ (by assumption)))⟩
        · have HS := Lib.hid (PtE_eq hE)
          rw [hE] at HN
          go_wp2
          go_big_quiet (fail)
          go_wp2
          go_roundw
          case rel =>
            refine ⟨k + 1, _, by omega, by go_num, fun j hj => ?_, rfl⟩
            by_cases hjk : j = k
            · subst hjk; rw [HX.out, HY.out, HS.out]
            · exact HALL.out j (by omega)
          case measure => simp [Go.RowKit.intOf]; omega
      · obtain rfl : k = n := by omega
        have HD := Lib.hid (samePt_yes HL.out HM.out HALL.out)
        go_wp2
        go_ret
        exact ⟨by rw [HD.out]; rfl, by (repeat (first | assumption | exact Below.refl _ _ | refine belowDN ?_ _ | refine Below.drew ?_ | refine Below.setCell ?_ (by first | omega | (simp <;> omega)) _ | refine Below.alloc ?_ (by first | omega | (simp <;> omega)) _ | refine belowCall ?_ (by assumption)))⟩
  · have hnn : ((n : Int) != (m : Int)) = true := by simp; omega
    have HD := Lib.hid (samePt_len (xs := xs) (ys := ys) (by rw [HL.out, HM.out]; exact hnm))
    go_enter Try.func24, Try.ntmps24
    go_wp2
    go_ret
    exact ⟨by rw [HD.out]; rfl, by (repeat (first | assumption | exact Below.refl _ _ | refine belowDN ?_ _ | refine Below.drew ?_ | refine Below.setCell ?_ (by first | omega | (simp <;> omega)) _ | refine Below.alloc ?_ (by first | omega | (simp <;> omega)) _ | refine belowCall ?_ (by assumption)))⟩
set_option maxRecDepth 100000 in
set_option maxHeartbeats 2000000 in
theorem equalPt_any (a b : Option Addr) (n m c c' : Nat) (xs ys : List Pt) (w : World) (h : PtL w a n xs) (h' : PtL w b m ys) (hn : n ≤ 1048576) (hm : m ≤ 1048576) :
    Calls Try.prog 62 #[.slice a n c, .slice b m c'] w fun e w' => e = .returned (.bool (samePt xs ys)) ∧ Below w.heap.size w w' := by
  have HL := Lib.hid h.1
  have HM := Lib.hid h'.1
  have hl : (n : Int) ≤ 1048576 := by omega
  by_cases hnm : n = m
  · subst hnm
    go_enter Try.func62, Try.ntmps62
    go_wp2
    go_loopw [13] (fun i wr => ∃ k q : Nat, k ≤ n ∧ i = .int .i64 k ∧ (∀ j, j < k → xs[j]?.getD pt0 = ys[j]?.getD pt0) ∧ wr = w.drewN q) (fun i _ => n - (Go.RowKit.intOf i).toNat)
    case atStart => exact ⟨0, 0, Nat.zero_le _, rfl, fun j hj => absurd hj (by omega), rfl⟩
    case round =>
      obtain ⟨k, q, hk, rfl, hall, rfl⟩ := hrel
      have HALL := Lib.hid hall
      clear hall
      by_cases hlt : k < n
      · obtain ⟨b1, o1, rfl, hc⟩ := h.2 k hlt
        obtain ⟨b2, o2, rfl, hc'⟩ := h'.2 k hlt
        obtain ⟨⟨x0, x1⟩, hx⟩ : ∃ x, xs[k]?.getD pt0 = x := ⟨_, rfl⟩
        obtain ⟨⟨y0, y1⟩, hy⟩ : ∃ x, ys[k]?.getD pt0 = x := ⟨_, rfl⟩
        rw [hx] at hc
        rw [hy] at hc'
        obtain ⟨p, p0, p1⟩ := hc.parts
        obtain ⟨r, r0, r1⟩ := hc'.parts
        have HX := Lib.hid hx
        have HY := Lib.hid hy
        clear hx hy hc hc'
        have hkk : (k : Int) < (n : Int) := by omega
        have HN := neq_Pt x0 x1 y0 y1
        cases hE : PtE (x0, x1) (y0, y1)
        · have HD := Lib.hid (samePt_no (xs := xs) (ys := ys) (k := k) (by rw [HX.out, HY.out]; exact hE))
          rw [hE] at HN
          go_wp2
          go_big_quiet (fail)
          go_wp2
          go_ret
          exact ⟨by rw [HD.out]; rfl, by (repeat (first | assumption | exact Below.refl _ _ | refine belowDN ?_ _ | refine Below.drew ?_ | refine Below.setCell ?_ (by first | omega | (simp <;> omega)) _ | refine Below.alloc ?_ (by first | omega | (simp <;> omega)) _ | refine belowCall ?_ (by assumption)))⟩
        · have HS := Lib.hid (PtE_eq hE)
          rw [hE] at HN
          go_wp2
          go_big_quiet (fail)
          go_wp2
          go_roundw
          case rel =>
            refine ⟨k + 1, _, by omega, by go_num, fun j hj => ?_, rfl⟩
            by_cases hjk : j = k
            · subst hjk; rw [HX.out, HY.out, HS.out]
            · exact HALL.out j (by omega)
          case measure => simp [Go.RowKit.intOf]; omega
      · obtain rfl : k = n := by omega
        have HD := Lib.hid (samePt_yes HL.out HM.out HALL.out)
        go_wp2
        go_ret
        exact ⟨by rw [HD.out]; rfl, by (repeat (first | assumption | exact Below.refl _ _ | refine belowDN ?_ _ | refine Below.drew ?_ | refine Below.setCell ?_ (by first | omega | (simp <;> omega)) _ | refine Below.alloc ?_ (by first | omega | (simp <;> omega)) _ | refine belowCall ?_ (by assumption)))⟩
  · have hnn : ((n : Int) != (m : Int)) = true := by simp; omega
    have HD := Lib.hid (samePt_len (xs := xs) (ys := ys) (by rw [HL.out, HM.out]; exact hnm))
    go_enter Try.func62, Try.ntmps62
    go_wp2
    go_ret
    exact ⟨by rw [HD.out]; rfl, by (repeat (first | assumption | exact Below.refl _ _ | refine belowDN ?_ _ | refine Below.drew ?_ | refine Below.setCell ?_ (by first | omega | (simp <;> omega)) _ | refine Below.alloc ?_ (by first | omega | (simp <;> omega)) _ | refine belowCall ?_ (by assumption)))⟩
theorem iSamePt_any (a b : Option Addr) (n m c c' : Nat) (xs ys : List Pt) (w : World) (h : PtL w a n xs) (h' : PtL w b m ys) (hn : n ≤ 1048576) (hm : m ≤ 1048576) :
    Calls Try.prog 25 #[.slice a n c, .slice b m c'] w fun e w' => e = .returned (.bool (samePt xs ys)) ∧ Below w.heap.size w w' := by
  go_enter Try.func25, Try.ntmps25
  go_wp2_with fail
  refine (equalPt_any a b n m c c' xs ys w h h' hn hm).mono ?_
  rintro e w2 ⟨rfl, b2⟩
  go_wp2
  go_ret
  exact ⟨rfl, b2⟩
end Go.Proofs.Ytiogffjhhhpolaa
