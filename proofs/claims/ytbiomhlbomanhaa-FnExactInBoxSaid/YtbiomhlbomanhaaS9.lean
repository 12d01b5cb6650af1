/- SameStars, both sides: equal slices are the same, others not. -/
import Derived.Test.YtbiomhlbomanhaaS5
import Derived.Laws.StructEq
namespace Go.Proofs.Ytbiomhlbomanhaa
open Go.ChangeShapes Go.WideShapes Go.ChangeAt Go.RowKit Go.Deep

theorem IsStars.mono {w w' : World} {a : Option Addr} {n cap : Nat} {xs : List St} (h : IsStars w a n cap xs) (hb : Below w.heap.size w w') : IsStars w' a n cap xs := ⟨h.1.mono hb, h.2⟩
def stE (x y : St) : Bool := x.1.toList == y.1.toList && (x.2.1 == y.2.1 && (x.2.2.1 == y.2.2.1 && (x.2.2.2.1 == y.2.2.2.1 && x.2.2.2.2 == y.2.2.2.2)))
theorem neq_star (nm nm' : ByteArray) (a a' d d' u u' v v' : Int) (w : World) :
    (binOp .neq 40 (.agg #[.string nm, .int .i64 a, .int .i64 d, .int .i64 u, .int .i64 v]) (.agg #[.string nm', .int .i64 a', .int .i64 d', .int .i64 u', .int .i64 v'])).run Try.prog w = .ok (.bool (!stE (nm, a, d, u, v) (nm', a', d', u', v'))) w := by
  rw [run_neq_struct]
  cases h1 : (nm.toList == nm'.toList)
  · simp [go_sem, h1, stE]
  cases h2 : (a == a')
  · simp [go_sem, h1, h2, stE]
  cases h3 : (d == d')
  · simp [go_sem, h1, h2, h3, stE]
  cases h4 : (u == u')
  · simp [go_sem, h1, h2, h3, h4, stE]
  cases h5 : (v == v')
  · simp [go_sem, h1, h2, h3, h4, h5, stE]
  · simp [go_sem, h1, h2, h3, h4, h5, stE]
theorem stE_eq {x y : St} (h : stE x y = true) : x = y := by
  obtain ⟨nm, a, d, u, v⟩ := x
  obtain ⟨nm', a', d', u', v'⟩ := y
  simp only [stE, Bool.and_eq_true, beq_iff_eq] at h
  obtain ⟨h1, rfl, rfl, rfl, rfl⟩ := h
  have : nm = nm' := by
    rw [ByteArray.toList_eq, ByteArray.toList_eq] at h1
    cases nm; cases nm'; simp at h1; rw [h1]
  rw [this]
theorem stE_self (x : St) : stE x x = true := by simp [stE]
def sameS (xs ys : List St) : Bool := decide (xs = ys)
theorem same_yes {xs ys : List St} {n : Nat} (h1 : xs.length = n) (h2 : ys.length = n) (h : ∀ j, j < n → xs[j]?.getD st0 = ys[j]?.getD st0) : sameS xs ys = true := by
  have : xs = ys := List.ext_getElem (by omega) fun j hj hj' => by
    have := h j (by omega)
    simpa [hj, hj'] using this
  simp [sameS, this]
theorem same_no {xs ys : List St} {k : Nat} (h : stE (xs[k]?.getD st0) (ys[k]?.getD st0) = false) : sameS xs ys = false := by
  simp only [sameS, decide_eq_false_iff_not]
  intro e
  rw [e, stE_self] at h
  cases h
theorem same_len {xs ys : List St} (h : xs.length ≠ ys.length) : sameS xs ys = false := by
  simp only [sameS, decide_eq_false_iff_not]
  intro e; exact h (by rw [e])
set_option maxRecDepth 100000 in
set_option maxHeartbeats 2000000 in
theorem sSame_any (a b : Option Addr) (n m c c' : Nat) (xs ys : List St) (w : World) (h : StL w a n xs) (h' : StL w b m ys) (hn : n ≤ 1048576) (hm : m ≤ 1048576) :
    Calls Try.prog 18 #[.slice a n c, .slice b m c'] w fun e w' => e = .returned (.bool (sameS xs ys)) ∧ Below w.heap.size w w' := by
  have HL := Lib.hid h.1
  have HM := Lib.hid h'.1
  have hl : (n : Int) ≤ 1048576 := by omega
  by_cases hnm : n = m
  · subst hnm
    go_enter Try.func18, Try.ntmps18
    go_wp2
    go_loopw [5] (fun i wr => ∃ k q : Nat, k ≤ n ∧ i = .int .i64 k ∧ (∀ j, j < k → xs[j]?.getD st0 = ys[j]?.getD st0) ∧ wr = w.drewN q) (fun i _ => n - (intOf i).toNat)
    case atStart => exact ⟨0, 0, Nat.zero_le _, rfl, fun j hj => absurd hj (by omega), rfl⟩
    case round =>
      obtain ⟨k, q, hk, rfl, hall, rfl⟩ := hrel
      have HALL := Lib.hid hall
      clear hall
      by_cases hlt : k < n
      · obtain ⟨b1, o1, rfl, hc⟩ := h.2 k hlt
        obtain ⟨b2, o2, rfl, hc'⟩ := h'.2 k hlt
        obtain ⟨⟨nm, x1, x2, x3, x4⟩, hx⟩ : ∃ x, xs[k]?.getD st0 = x := ⟨_, rfl⟩
        obtain ⟨⟨nm', y1, y2, y3, y4⟩, hy⟩ : ∃ x, ys[k]?.getD st0 = x := ⟨_, rfl⟩
        rw [hx] at hc
        rw [hy] at hc'
        obtain ⟨p, p0, p1, p2, p3, p4⟩ := hc.parts
        obtain ⟨r, r0, r1, r2, r3, r4⟩ := hc'.parts
        have HX := Lib.hid hx
        have HY := Lib.hid hy
        clear hx hy hc hc'
        have hkk : (k : Int) < (n : Int) := by omega
        have HN := neq_star nm nm' x1 y1 x2 y2 x3 y3 x4 y4
        cases hE : stE (nm, x1, x2, x3, x4) (nm', y1, y2, y3, y4)
        · have HD := Lib.hid (same_no (xs := xs) (ys := ys) (k := k) (by rw [HX.out, HY.out]; exact hE))
          rw [hE] at HN
          go_wp2
          go_big_quiet (fail)
          go_wp2
          go_ret
          exact ⟨by rw [HD.out]; rfl, by (repeat (first | assumption | exact Below.refl _ _ | refine belowDN ?_ _ | refine Below.drew ?_ | refine Below.setCell ?_ (by first | omega | (simp <;> omega)) _ | refine Below.alloc ?_ (by first | omega | (simp <;> omega)) _ | refine belowCall ?_ (by assumption)))⟩
        · have HS := Lib.hid (stE_eq hE)
          rw [hE] at HN
          go_wp2
          go_big_quiet (fail)
          go_wp2
          go_roundw
          case rel =>
            refine ⟨k + 1, _, by omega, by go_num, fun j hj => ?_, rfl⟩
            by_cases hjk : j = k
            · subst hjk; rw [HX.out, HY.out, HS.out]
            · exact HALL.out j (by omega)
          case measure => simp [intOf]; omega
      · obtain rfl : k = n := by omega
        have HD := Lib.hid (same_yes HL.out HM.out HALL.out)
        go_wp2
        go_ret
        exact ⟨by rw [HD.out]; rfl, by (repeat (first | assumption | exact Below.refl _ _ | refine belowDN ?_ _ | refine Below.drew ?_ | refine Below.setCell ?_ (by first | omega | (simp <;> omega)) _ | refine Below.alloc ?_ (by first | omega | (simp <;> omega)) _ | refine belowCall ?_ (by assumption)))⟩
  · have hnn : ((n : Int) != (m : Int)) = true := by simp; omega
    have HD := Lib.hid (same_len (xs := xs) (ys := ys) (by rw [HL.out, HM.out]; exact hnm))
    go_enter Try.func18, Try.ntmps18
    go_wp2
    go_ret
    exact ⟨by rw [HD.out]; rfl, by (repeat (first | assumption | exact Below.refl _ _ | refine belowDN ?_ _ | refine Below.drew ?_ | refine Below.setCell ?_ (by first | omega | (simp <;> omega)) _ | refine Below.alloc ?_ (by first | omega | (simp <;> omega)) _ | refine belowCall ?_ (by assumption)))⟩
set_option maxRecDepth 100000 in
set_option maxHeartbeats 2000000 in
theorem equal_any (a b : Option Addr) (n m c c' : Nat) (xs ys : List St) (w : World) (h : StL w a n xs) (h' : StL w b m ys) (hn : n ≤ 1048576) (hm : m ≤ 1048576) :
    Calls Try.prog 52 #[.slice a n c, .slice b m c'] w fun e w' => e = .returned (.bool (sameS xs ys)) ∧ Below w.heap.size w w' := by
  have HL := Lib.hid h.1
  have HM := Lib.hid h'.1
  have hl : (n : Int) ≤ 1048576 := by omega
  by_cases hnm : n = m
  · subst hnm
    go_enter Try.func52, Try.ntmps52
    go_wp2
    go_loopw [13] (fun i wr => ∃ k q : Nat, k ≤ n ∧ i = .int .i64 k ∧ (∀ j, j < k → xs[j]?.getD st0 = ys[j]?.getD st0) ∧ wr = w.drewN q) (fun i _ => n - (intOf i).toNat)
    case atStart => exact ⟨0, 0, Nat.zero_le _, rfl, fun j hj => absurd hj (by omega), rfl⟩
    case round =>
      obtain ⟨k, q, hk, rfl, hall, rfl⟩ := hrel
      have HALL := Lib.hid hall
      clear hall
      by_cases hlt : k < n
      · obtain ⟨b1, o1, rfl, hc⟩ := h.2 k hlt
        obtain ⟨b2, o2, rfl, hc'⟩ := h'.2 k hlt
        obtain ⟨⟨nm, x1, x2, x3, x4⟩, hx⟩ : ∃ x, xs[k]?.getD st0 = x := ⟨_, rfl⟩
        obtain ⟨⟨nm', y1, y2, y3, y4⟩, hy⟩ : ∃ x, ys[k]?.getD st0 = x := ⟨_, rfl⟩
        rw [hx] at hc
        rw [hy] at hc'
        obtain ⟨p, p0, p1, p2, p3, p4⟩ := hc.parts
        obtain ⟨r, r0, r1, r2, r3, r4⟩ := hc'.parts
        have HX := Lib.hid hx
        have HY := Lib.hid hy
        clear hx hy hc hc'
        have hkk : (k : Int) < (n : Int) := by omega
        have HN := neq_star nm nm' x1 y1 x2 y2 x3 y3 x4 y4
        cases hE : stE (nm, x1, x2, x3, x4) (nm', y1, y2, y3, y4)
        · have HD := Lib.hid (same_no (xs := xs) (ys := ys) (k := k) (by rw [HX.out, HY.out]; exact hE))
          rw [hE] at HN
          go_wp2
          go_big_quiet (fail)
          go_wp2
          go_ret
          exact ⟨by rw [HD.out]; rfl, by (repeat (first | assumption | exact Below.refl _ _ | refine belowDN ?_ _ | refine Below.drew ?_ | refine Below.setCell ?_ (by first | omega | (simp <;> omega)) _ | refine Below.alloc ?_ (by first | omega | (simp <;> omega)) _ | refine belowCall ?_ (by assumption)))⟩
        · have HS := Lib.hid (stE_eq hE)
          rw [hE] at HN
          go_wp2
          go_big_quiet (fail)
          go_wp2
          go_roundw
          case rel =>
            refine ⟨k + 1, _, by omega, by go_num, fun j hj => ?_, rfl⟩
            by_cases hjk : j = k
            · subst hjk; rw [HX.out, HY.out, HS.out]
            · exact HALL.out j (by omega)
          case measure => simp [intOf]; omega
      · obtain rfl : k = n := by omega
        have HD := Lib.hid (same_yes HL.out HM.out HALL.out)
        go_wp2
        go_ret
        exact ⟨by rw [HD.out]; rfl, by (repeat (first | assumption | exact Below.refl _ _ | refine belowDN ?_ _ | refine Below.drew ?_ | refine Below.setCell ?_ (by first | omega | (simp <;> omega)) _ | refine Below.alloc ?_ (by first | omega | (simp <;> omega)) _ | refine belowCall ?_ (by assumption)))⟩
  · have hnn : ((n : Int) != (m : Int)) = true := by simp; omega
    have HD := Lib.hid (same_len (xs := xs) (ys := ys) (by rw [HL.out, HM.out]; exact hnm))
    go_enter Try.func52, Try.ntmps52
    go_wp2
    go_ret
    exact ⟨by rw [HD.out]; rfl, by (repeat (first | assumption | exact Below.refl _ _ | refine belowDN ?_ _ | refine Below.drew ?_ | refine Below.setCell ?_ (by first | omega | (simp <;> omega)) _ | refine Below.alloc ?_ (by first | omega | (simp <;> omega)) _ | refine belowCall ?_ (by assumption)))⟩
theorem iSame_any (a b : Option Addr) (n m c c' : Nat) (xs ys : List St) (w : World) (h : StL w a n xs) (h' : StL w b m ys) (hn : n ≤ 1048576) (hm : m ≤ 1048576) :
    Calls Try.prog 19 #[.slice a n c, .slice b m c'] w fun e w' => e = .returned (.bool (sameS xs ys)) ∧ Below w.heap.size w w' := by
  go_enter Try.func19, Try.ntmps19
  go_wp2_with fail
  refine (equal_any a b n m c c' xs ys w h h' hn hm).mono ?_
  rintro e w2 ⟨rfl, b2⟩
  go_wp2
  go_ret
  exact ⟨rfl, b2⟩
end Go.Proofs.Ytbiomhlbomanhaa
