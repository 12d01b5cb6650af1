/- NearestMark, both sides. -/
import Derived.Test.YtfabpcdeppfmdaaH2
import Derived.Test.YtfabpcdeppfmdaaH3
namespace Go.Proofs.Ytfabpcdeppfmdaa
open Go.ChangeShapes Go.WideShapes Go.ChangeAt Go.RowKit Go.Deep

theorem sq_bd {a : Int} (h1 : -2000 ≤ a) (h2 : a ≤ 2000) : 0 ≤ a * a ∧ a * a ≤ 4000000 := by
  have hn : a.natAbs ≤ 2000 := by omega
  have h := Nat.mul_le_mul hn hn
  exact ⟨by rw [← Int.natAbs_mul_self]; exact Int.natCast_nonneg _, by rw [← Int.natAbs_mul_self]; exact Int.ofNat_le.2 (Nat.le_trans h (by decide))⟩
/-- the square of a mark's distance from a place -/
def sqM (x : Mk) (p q : Int) : Int := (x.1 - p) * (x.1 - p) + (x.2.1 - q) * (x.2.1 - q)
/-- the index of the nearest of the first k marks -/
def bestN (xs : List Mk) (p q : Int) : Nat → Nat
  | 0 => 0
  | k + 1 => if sqM (xs[k]?.getD mk0) p q < sqM (xs[bestN xs p q k]?.getD mk0) p q then k else bestN xs p q k
theorem bestN_lt (xs : List Mk) (p q : Int) : ∀ k, 0 < k → bestN xs p q k < k
  | 0, h => by omega
  | k + 1, _ => by
    rw [bestN]
    split
    · omega
    · by_cases h : 0 < k
      · have := bestN_lt xs p q k h; omega
      · have : k = 0 := by omega
        subst this
        exact Nat.zero_lt_one
def nbI (xs : List Mk) (p q : Int) (k : Nat) : Int := if k = 0 then -1 else (bestN xs p q k : Nat)
def nlI (xs : List Mk) (p q : Int) (k : Nat) : Int := if k = 0 then 0 else sqM (xs[bestN xs p q k]?.getD mk0) p q
theorem nb_0 (xs : List Mk) (p q : Int) : nbI xs p q 0 = -1 ∧ nlI xs p q 0 = 0 := ⟨rfl, rfl⟩
theorem nb_first {xs : List Mk} {p q : Int} {x : Mk} (hx : xs[0]?.getD mk0 = x) : nbI xs p q 1 = 0 ∧ nlI xs p q 1 = sqM x p q := by
  have h : bestN xs p q 1 = 0 := by simp [bestN]
  simp [nbI, nlI, h, hx]
theorem nb_take {xs : List Mk} {p q : Int} {k : Nat} {x : Mk} (hx : xs[k]?.getD mk0 = x) (hk : 0 < k) (h : sqM x p q < nlI xs p q k) : nbI xs p q (k + 1) = k ∧ nlI xs p q (k + 1) = sqM x p q := by
  rw [nlI, if_neg (by omega)] at h
  have hb : bestN xs p q (k + 1) = k := by rw [bestN, hx, if_pos h]
  simp [nbI, nlI, hb, hx]
theorem nb_keep {xs : List Mk} {p q : Int} {k : Nat} {x : Mk} (hx : xs[k]?.getD mk0 = x) (hk : 0 < k) (h : ¬ sqM x p q < nlI xs p q k) : nbI xs p q (k + 1) = nbI xs p q k ∧ nlI xs p q (k + 1) = nlI xs p q k := by
  have h' := h
  rw [nlI, if_neg (by omega)] at h'
  have hb : bestN xs p q (k + 1) = bestN xs p q k := by rw [bestN, hx, if_neg h']
  have hk0 : ¬ k = 0 := by omega
  simp [nbI, nlI, hb, hk0]
def nmC (xs : List Mk) (p q : Int) : Int := if okC xs then (if plB p q then (if xs.length = 0 then 3 else 0) else 2) else 1
def nmI (xs : List Mk) (p q : Int) : Int := if nmC xs p q = 0 then (bestN xs p q xs.length : Nat) else 0
theorem nm_1 {xs : List Mk} {p q : Int} (h : okC xs = false) : nmC xs p q = 1 ∧ nmI xs p q = 0 := by simp [nmI, nmC, h]
theorem nm_2 {xs : List Mk} {p q : Int} (h : okC xs = true) (h2 : plB p q = false) : nmC xs p q = 2 ∧ nmI xs p q = 0 := by simp [nmI, nmC, h, h2]
theorem nm_3 {xs : List Mk} {p q : Int} {n : Nat} (hn : xs.length = n) (h : okC xs = true) (h2 : plB p q = true) (h3 : n = 0) : nmC xs p q = 3 ∧ nmI xs p q = 0 := by simp [nmI, nmC, h, h2, hn, h3]
theorem nm_0 {xs : List Mk} {p q : Int} {n : Nat} (hn : xs.length = n) (h : okC xs = true) (h2 : plB p q = true) (h3 : 0 < n) : nmC xs p q = 0 ∧ nmI xs p q = (bestN xs p q n : Nat) ∧ nmI xs p q = nbI xs p q n := by
  have hc : nmC xs p q = 0 := by simp [nmC, h, h2, hn]; omega
  have hz : ¬ n = 0 := by omega
  simp [nmI, nbI, hc, hn, hz]
theorem plB_bd {p q : Int} (h : plB p q = true) : (0 ≤ p ∧ p ≤ 2000) ∧ 0 ≤ q ∧ q ≤ 2000 := by
  simp only [plB, Bool.and_eq_true] at h
  exact ⟨inB_iff.1 h.1, inB_iff.1 h.2⟩
set_option maxRecDepth 100000 in
set_option maxHeartbeats 4000000 in
theorem sNearest_any (a : Option Addr) (n c : Nat) (xs : List Mk) (p q : Int) (w : World) (h : MkL w a n xs) (hn : n ≤ 1048576) :
    Calls Try.prog 22 #[.slice a n c, .int .i64 p, .int .i64 q] w fun e w' => e = .returned (.tuple #[.int .i64 (nmI xs p q), .int .i64 (nmC xs p q)]) ∧ Below w.heap.size w w' := by
  have HL := Lib.hid h.1
  have hl : (n : Int) ≤ 1048576 := by omega
  cases hok : okC xs
  · have HC := Lib.hid (nm_1 (p := p) (q := q) hok)
    go_enter Try.func22, Try.ntmps22
    go_wp2_with fail
    (refine (l07Ok_any a n c xs w h hn).mono ?_; rintro e w2 ⟨rfl, b2⟩; rw [hok])
    go_wp2
    go_ret2
    exact ⟨by rw [HC.out.1, HC.out.2]; rfl, b2⟩
  cases hp : inB p 0 2000
  · have HC := Lib.hid (nm_2 (p := p) (q := q) hok (by simp [plB, hp]))
    go_enter Try.func22, Try.ntmps22
    go_wp2_with fail
    (refine (l07Ok_any a n c xs w h hn).mono ?_; rintro e w2 ⟨rfl, b2⟩; rw [hok])
    go_wp2_with (go_at_call 41; refine (sPlace_any _ _).mono ?_; rintro e w' ⟨rfl, rfl⟩)
    go_ret2
    exact ⟨by rw [HC.out.1, HC.out.2]; rfl, b2⟩
  cases hq : inB q 0 2000
  · have HC := Lib.hid (nm_2 (p := p) (q := q) hok (by simp [plB, hp, hq]))
    go_enter Try.func22, Try.ntmps22
    go_wp2_with fail
    (refine (l07Ok_any a n c xs w h hn).mono ?_; rintro e w2 ⟨rfl, b2⟩; rw [hok])
    go_wp2_with (go_at_call 41; refine (sPlace_any _ _).mono ?_; rintro e w' ⟨rfl, rfl⟩)
    go_ret2
    exact ⟨by rw [HC.out.1, HC.out.2]; rfl, b2⟩
  have hpl : plB p q = true := by simp [plB, hp, hq]
  obtain ⟨⟨p1, p2⟩, q1, q2⟩ := plB_bd hpl
  go_enter Try.func22, Try.ntmps22
  go_wp2_with fail
  (refine (l07Ok_any a n c xs w h hn).mono ?_; rintro e w2 ⟨rfl, b2⟩; rw [hok])
  have h2 := h.mono b2
  have HOK := Lib.hid hok
  have HPL := Lib.hid hpl
  clear hpl hok
  go_wp2_with (go_at_call 41; refine (sPlace_any _ _).mono ?_; rintro e w' ⟨rfl, rfl⟩)
  clear hp hq
  go_loopw [8, 9, 10, 11, 12] (fun b l i _ _ wr => ∃ k : Nat, k ≤ n ∧ i = .int .i64 k ∧ b = .int .i64 (nbI xs p q k) ∧ l = .int .i64 (nlI xs p q k) ∧ Below w2.heap.size w2 wr) (fun _ _ i _ _ _ => n - (Go.RowKit.intOf i).toNat)
  case atStart => exact ⟨0, Nat.zero_le _, rfl, rfl, rfl, Below.refl _ _⟩
  case round =>
    obtain ⟨k, hk, rfl, rfl, rfl, hB⟩ := hrel
    by_cases hlt : k < n
    · obtain ⟨b1, o1, rfl, hc⟩ := h2.2 k hlt
      obtain ⟨⟨x0, x1, x2⟩, hx⟩ : ∃ x, xs[k]?.getD mk0 = x := ⟨_, rfl⟩
      obtain ⟨⟨m1, m2⟩, ⟨m3, m4⟩, -⟩ := mrkB_bd (okC_mark HL.out HOK.out hlt hx)
      rw [hx] at hc
      obtain ⟨-, c0, c1, c2⟩ := (hc.mono hB).parts
      have HX := Lib.hid hx
      clear hx
      have hkk : (k : Int) < (n : Int) := by omega
      obtain ⟨s1, s2⟩ := sq_bd (a := x0 - p) (by omega) (by omega)
      obtain ⟨s3, s4⟩ := sq_bd (a := x1 - q) (by omega) (by omega)
      by_cases hk0 : 0 < k
      · obtain ⟨bv, hbv⟩ : ∃ b, nbI xs p q k = b := ⟨_, rfl⟩
        obtain ⟨lv, hlv⟩ : ∃ b, nlI xs p q k = b := ⟨_, rfl⟩
        have hb0 : ¬ bv < 0 := by rw [← hbv, nbI, if_neg (by omega)]; omega
        by_cases hs : (x0 - p) * (x0 - p) + (x1 - q) * (x1 - q) < lv
        · have HT := Lib.hid (nb_take (p := p) (q := q) HX.out hk0 (by rw [hlv]; exact hs))
          rw [hbv, hlv]
          clear hbv hlv
          go_wp2
          go_roundw
          case rel => exact ⟨k + 1, by omega, by go_num, by rw [HT.out.1], by rw [HT.out.2]; rfl, hB⟩
          case measure => simp [Go.RowKit.intOf]; omega
        · have HT := Lib.hid (nb_keep (p := p) (q := q) HX.out hk0 (by rw [hlv]; exact hs))
          rw [hbv, hlv] at HT
          rw [hbv, hlv]
          clear hbv hlv
          go_wp2
          go_roundw
          case rel => exact ⟨k + 1, by omega, by go_num, by rw [HT.out.1], by rw [HT.out.2], hB⟩
          case measure => simp [Go.RowKit.intOf]; omega
      · obtain rfl : k = 0 := by omega
        have HT := Lib.hid (nb_first (p := p) (q := q) HX.out)
        rw [(nb_0 xs p q).1, (nb_0 xs p q).2]
        simp only [Nat.zero_mul, Nat.add_zero] at c0 c1 c2
        go_wp2
        go_roundw
        case rel => exact ⟨0 + 1, by omega, by go_num, by rw [HT.out.1]; rfl, by rw [HT.out.2]; rfl, hB⟩
        case measure => simp [Go.RowKit.intOf]; omega
    · obtain rfl : k = n := by omega
      have B2 := belowCall b2 hB
      by_cases hk0 : 0 < k
      · have HC := Lib.hid (nm_0 HL.out HOK.out HPL.out hk0)
        obtain ⟨bv, hbv⟩ : ∃ b, nbI xs p q k = b := ⟨_, rfl⟩
        have hb0 : ¬ bv < 0 := by rw [← hbv, nbI, if_neg (by omega)]; omega
        rw [hbv] at HC
        rw [hbv]
        clear hbv
        go_wp2
        go_ret2
        exact ⟨by rw [HC.out.1, HC.out.2.2]; rfl, B2⟩
      · have HC := Lib.hid (nm_3 HL.out HOK.out HPL.out (by omega))
        obtain rfl : k = 0 := by omega
        rw [(nb_0 xs p q).1]
        go_wp2
        go_ret2
        exact ⟨by rw [HC.out.1, HC.out.2]; rfl, B2⟩
set_option maxHeartbeats 1000000 in
theorem square_any (x0 x1 x2 p q : Int) (w : World) (h1 : -2000 ≤ x0 - p) (h2 : x0 - p ≤ 2000) (h3 : -2000 ≤ x1 - q) (h4 : x1 - q ≤ 2000) :
    Calls Try.prog 43 #[.agg #[.int .i64 x0, .int .i64 x1, .int .i64 x2], .int .i64 p, .int .i64 q] w fun e w' => e = .returned (.int .i64 (sqM (x0, x1, x2) p q)) ∧ Below w.heap.size w w' := by
  obtain ⟨s1, s2⟩ := sq_bd h1 h2
  obtain ⟨s3, s4⟩ := sq_bd h3 h4
  go_enter Try.func43, Try.ntmps43
  go_wp2
  go_ret
  exact ⟨rfl, by (repeat (first | assumption | exact Below.refl _ _ | refine belowDN ?_ _ | refine Below.drew ?_ | refine Below.setCell ?_ (by first | omega | (simp <;> omega)) _ | refine Below.alloc ?_ (by first | omega | (simp <;> omega)) _ | refine belowCall ?_ (by assumption)))⟩
set_option maxRecDepth 100000 in
set_option maxHeartbeats 8000000 in
theorem iNearest_any (a : Option Addr) (n c : Nat) (xs : List Mk) (p q : Int) (w : World) (h : MkL w a n xs) (hn : n ≤ 1048576) (hcap : n ≤ c) :
    Calls Try.prog 23 #[.slice a n c, .int .i64 p, .int .i64 q] w fun e w' => e = .returned (.tuple #[.int .i64 (nmI xs p q), .int .i64 (nmC xs p q)]) ∧ Below w.heap.size w w' := by
  have HL := Lib.hid h.1
  have hl : (n : Int) ≤ 1048576 := by omega
  cases hok : okC xs
  · have HC := Lib.hid (nm_1 (p := p) (q := q) hok)
    go_enter Try.func23, Try.ntmps23
    go_wp2_with fail
    (refine (iValidC_any a n c xs w h hn hcap).mono ?_; rintro e w2 ⟨rfl, b2⟩; rw [hok])
    go_wp2
    go_ret2
    exact ⟨by rw [HC.out.1, HC.out.2]; rfl, b2⟩
  cases hpl : plB p q
  · have HC := Lib.hid (nm_2 (p := p) (q := q) hok hpl)
    go_enter Try.func23, Try.ntmps23
    go_wp2_with fail
    (refine (iValidC_any a n c xs w h hn hcap).mono ?_; rintro e w2 ⟨rfl, b2⟩; rw [hok])
    go_wp2_with (go_at_call 42; refine (isPlace_any _ _ _).mono ?_; rintro e w' ⟨rfl, rfl⟩)
    go_ret2
    exact ⟨by rw [HC.out.1, HC.out.2]; rfl, b2⟩
  by_cases hz : n = 0
  · have HC := Lib.hid (nm_3 (p := p) (q := q) HL.out hok hpl hz)
    have hd : ((n : Int) == 0) = true := by simp; omega
    clear hz
    go_enter Try.func23, Try.ntmps23
    go_wp2_with fail
    (refine (iValidC_any a n c xs w h hn hcap).mono ?_; rintro e w2 ⟨rfl, b2⟩; rw [hok])
    go_wp2_with (go_at_call 42; refine (isPlace_any _ _ _).mono ?_; rintro e w' ⟨rfl, rfl⟩)
    go_ret2
    exact ⟨by rw [HC.out.1, HC.out.2]; rfl, b2⟩
  have hd : ((n : Int) == 0) = false := by simp; omega
  have hz1 : 0 < n := by omega
  obtain ⟨⟨p1, p2⟩, q1, q2⟩ := plB_bd hpl
  have HC := Lib.hid (nm_0 HL.out hok hpl hz1)
  go_enter Try.func23, Try.ntmps23
  go_wp2_with fail
  (refine (iValidC_any a n c xs w h hn hcap).mono ?_; rintro e w2 ⟨rfl, b2⟩; rw [hok])
  have h2 := h.mono b2
  have HOK := Lib.hid hok
  clear hok hz
  go_wp2_with (go_at_call 42; refine (isPlace_any _ _ _).mono ?_; rintro e w' ⟨rfl, rfl⟩)
  clear hpl
  go_loopw [8, 23] (fun b i wr => ∃ k : Nat, k ≤ n ∧ i = .int .i64 k ∧ b = .int .i64 (bestN xs p q k : Nat) ∧ Below w2.heap.size w2 wr) (fun _ i _ => n - (Go.RowKit.intOf i).toNat)
  case atStart => exact ⟨0, Nat.zero_le _, rfl, rfl, Below.refl _ _⟩
  case round =>
    obtain ⟨k, hk, rfl, rfl, hB⟩ := hrel
    by_cases hlt : k < n
    · obtain ⟨m, hm⟩ : ∃ m, bestN xs p q k = m := ⟨_, rfl⟩
      have hmn : m < n := by
        by_cases hk0 : 0 < k
        · have := bestN_lt xs p q k hk0; omega
        · have : k = 0 := by omega
          subst this
          rw [← hm]
          exact hz1
      rw [hm]
      obtain ⟨b1, o1, rfl, hc⟩ := h2.2 k hlt
      obtain ⟨b1', o1', he, hc'⟩ := h2.2 m hmn
      cases he
      obtain ⟨⟨x0, x1, x2⟩, hx⟩ : ∃ x, xs[k]?.getD mk0 = x := ⟨_, rfl⟩
      obtain ⟨⟨y0, y1, y2⟩, hy⟩ : ∃ x, xs[m]?.getD mk0 = x := ⟨_, rfl⟩
      obtain ⟨⟨m1, m2⟩, ⟨m3, m4⟩, -⟩ := mrkB_bd (okC_mark HL.out HOK.out hlt hx)
      obtain ⟨⟨m5, m6⟩, ⟨m7, m8⟩, -⟩ := mrkB_bd (okC_mark HL.out HOK.out hmn hy)
      rw [hx] at hc
      rw [hy] at hc'
      obtain ⟨-, c0, c1, c2⟩ := (hc.mono hB).parts
      obtain ⟨hbs, d0, d1, d2⟩ := (hc'.mono hB).parts
      have hsz := hB.size
      have HX := Lib.hid hx
      have HY := Lib.hid hy
      have HM := Lib.hid hm
      clear hx hy hm hc hc'
      have hkk : (k : Int) < (n : Int) := by omega
      have hmm : (m : Int) < (n : Int) := by omega
      have hm0 : (0 : Int) ≤ (m : Int) := by omega
      obtain ⟨u, hu⟩ : ∃ u, sqM (x0, x1, x2) p q = u := ⟨_, rfl⟩
      obtain ⟨v, hv⟩ : ∃ v, sqM (y0, y1, y2) p q = v := ⟨_, rfl⟩
      have HU := Lib.hid hu
      have HV := Lib.hid hv
      clear hu hv
      have t0 : (wr.alloc (.cells #[.int .i64 x0, .int .i64 x1, .int .i64 x2] 34)).cell? ⟨wr.heap.size, 0, none⟩ = some (.int .i64 x0) := by go_keep
      have t1 : (wr.alloc (.cells #[.int .i64 x0, .int .i64 x1, .int .i64 x2] 34)).cell? ⟨wr.heap.size, 1, none⟩ = some (.int .i64 x1) := by go_keep
      have t2 : (wr.alloc (.cells #[.int .i64 x0, .int .i64 x1, .int .i64 x2] 34)).cell? ⟨wr.heap.size, 2, none⟩ = some (.int .i64 x2) := by go_keep
      have r0 : (wr.alloc (.cells #[.int .i64 x0, .int .i64 x1, .int .i64 x2] 34)).cell? ⟨b1, o1 + m * 3, none⟩ = some (.int .i64 y0) := by go_keep
      have r1 : (wr.alloc (.cells #[.int .i64 x0, .int .i64 x1, .int .i64 x2] 34)).cell? ⟨b1, o1 + m * 3 + 1, none⟩ = some (.int .i64 y1) := by go_keep
      have r2 : (wr.alloc (.cells #[.int .i64 x0, .int .i64 x1, .int .i64 x2] 34)).cell? ⟨b1, o1 + m * 3 + 2, none⟩ = some (.int .i64 y2) := by go_keep
      have hz9 : (wr.alloc (.cells #[.int .i64 x0, .int .i64 x1, .int .i64 x2] 34)).heap.size = wr.heap.size + 1 := by simp
      have hA : Below w2.heap.size w2 (wr.alloc (.cells #[.int .i64 x0, .int .i64 x1, .int .i64 x2] 34)) := by (repeat (first | assumption | exact Below.refl _ _ | refine belowDN ?_ _ | refine Below.drew ?_ | refine Below.setCell ?_ (by first | omega | (simp <;> omega)) _ | refine Below.alloc ?_ (by first | omega | (simp <;> omega)) _ | refine belowCall ?_ (by assumption)))
      clear d0 d1 d2
      by_cases hs : u < v
      · have HT : Hid (bestN xs p q (k + 1) = k) := Lib.hid (by rw [bestN, HX.out, HM.out, HY.out, HU.out, HV.out, if_pos hs])
        go_wp2_with fail
        generalize wr.alloc (.cells #[.int .i64 x0, .int .i64 x1, .int .i64 x2] 34) = w1 at t0 t1 t2 r0 r1 r2 hz9 hA ⊢
        have hb1 : b1 < w1.heap.size := by omega
        have hb2 : wr.heap.size < w1.heap.size := by omega
        go_region_held3 (fun W' => W'.cell? ⟨wr.heap.size, 0, none⟩ = some (.int .i64 x0) ∧ W'.cell? ⟨wr.heap.size, 1, none⟩ = some (.int .i64 x1) ∧ W'.cell? ⟨wr.heap.size, 2, none⟩ = some (.int .i64 x2) ∧ W'.cell? ⟨b1, o1 + m * 3, none⟩ = some (.int .i64 y0) ∧ W'.cell? ⟨b1, o1 + m * 3 + 1, none⟩ = some (.int .i64 y1) ∧ W'.cell? ⟨b1, o1 + m * 3 + 2, none⟩ = some (.int .i64 y2)) (refine ⟨?_, ?_, ?_, ?_, ?_, ?_⟩ <;> first | assumption | exact ((show Below w1.heap.size w1 _ by (repeat (first | assumption | exact Below.refl _ _ | refine belowDN ?_ _ | refine Below.drew ?_ | refine Below.setCell ?_ (by first | omega | (simp <;> omega)) _ | refine Below.alloc ?_ (by first | omega | (simp <;> omega)) _ | refine belowCall ?_ (by assumption)))).cell (p := ⟨wr.heap.size, 0, none⟩) hb2).trans t0 | exact ((show Below w1.heap.size w1 _ by (repeat (first | assumption | exact Below.refl _ _ | refine belowDN ?_ _ | refine Below.drew ?_ | refine Below.setCell ?_ (by first | omega | (simp <;> omega)) _ | refine Below.alloc ?_ (by first | omega | (simp <;> omega)) _ | refine belowCall ?_ (by assumption)))).cell (p := ⟨wr.heap.size, 1, none⟩) hb2).trans t1 | exact ((show Below w1.heap.size w1 _ by (repeat (first | assumption | exact Below.refl _ _ | refine belowDN ?_ _ | refine Below.drew ?_ | refine Below.setCell ?_ (by first | omega | (simp <;> omega)) _ | refine Below.alloc ?_ (by first | omega | (simp <;> omega)) _ | refine belowCall ?_ (by assumption)))).cell (p := ⟨wr.heap.size, 2, none⟩) hb2).trans t2 | exact ((show Below w1.heap.size w1 _ by (repeat (first | assumption | exact Below.refl _ _ | refine belowDN ?_ _ | refine Below.drew ?_ | refine Below.setCell ?_ (by first | omega | (simp <;> omega)) _ | refine Below.alloc ?_ (by first | omega | (simp <;> omega)) _ | refine belowCall ?_ (by assumption)))).cell (p := ⟨b1, o1 + m * 3, none⟩) hb1).trans r0 | exact ((show Below w1.heap.size w1 _ by (repeat (first | assumption | exact Below.refl _ _ | refine belowDN ?_ _ | refine Below.drew ?_ | refine Below.setCell ?_ (by first | omega | (simp <;> omega)) _ | refine Below.alloc ?_ (by first | omega | (simp <;> omega)) _ | refine belowCall ?_ (by assumption)))).cell (p := ⟨b1, o1 + m * 3 + 1, none⟩) hb1).trans r1 | exact ((show Below w1.heap.size w1 _ by (repeat (first | assumption | exact Below.refl _ _ | refine belowDN ?_ _ | refine Below.drew ?_ | refine Below.setCell ?_ (by first | omega | (simp <;> omega)) _ | refine Below.alloc ?_ (by first | omega | (simp <;> omega)) _ | refine belowCall ?_ (by assumption)))).cell (p := ⟨b1, o1 + m * 3 + 2, none⟩) hb1).trans r2) (first | (go_at_call 43; refine (square_any _ _ _ _ _ _ (by omega) (by omega) (by omega) (by omega)).mono ?_; rintro e w' ⟨rfl, hbel⟩; (first | rw [HU.out] | rw [HV.out])))
        all_goals
          go_wp2
          go_roundw
          case rel => exact ⟨k + 1, by omega, by go_num, by rw [HT.out], belowCall hA (by (repeat (first | assumption | exact Below.refl _ _ | refine belowDN ?_ _ | refine Below.drew ?_ | refine Below.setCell ?_ (by first | omega | (simp <;> omega)) _ | refine Below.alloc ?_ (by first | omega | (simp <;> omega)) _ | refine belowCall ?_ (by assumption))))⟩
          case measure => simp [Go.RowKit.intOf]; omega
      · have HT : Hid (bestN xs p q (k + 1) = m) := Lib.hid (by rw [bestN, HX.out, HM.out, HY.out, HU.out, HV.out, if_neg hs])
        go_wp2_with fail
        generalize wr.alloc (.cells #[.int .i64 x0, .int .i64 x1, .int .i64 x2] 34) = w1 at t0 t1 t2 r0 r1 r2 hz9 hA ⊢
        have hb1 : b1 < w1.heap.size := by omega
        have hb2 : wr.heap.size < w1.heap.size := by omega
        go_region_held3 (fun W' => W'.cell? ⟨wr.heap.size, 0, none⟩ = some (.int .i64 x0) ∧ W'.cell? ⟨wr.heap.size, 1, none⟩ = some (.int .i64 x1) ∧ W'.cell? ⟨wr.heap.size, 2, none⟩ = some (.int .i64 x2) ∧ W'.cell? ⟨b1, o1 + m * 3, none⟩ = some (.int .i64 y0) ∧ W'.cell? ⟨b1, o1 + m * 3 + 1, none⟩ = some (.int .i64 y1) ∧ W'.cell? ⟨b1, o1 + m * 3 + 2, none⟩ = some (.int .i64 y2)) (refine ⟨?_, ?_, ?_, ?_, ?_, ?_⟩ <;> first | assumption | exact ((show Below w1.heap.size w1 _ by (repeat (first | assumption | exact Below.refl _ _ | refine belowDN ?_ _ | refine Below.drew ?_ | refine Below.setCell ?_ (by first | omega | (simp <;> omega)) _ | refine Below.alloc ?_ (by first | omega | (simp <;> omega)) _ | refine belowCall ?_ (by assumption)))).cell (p := ⟨wr.heap.size, 0, none⟩) hb2).trans t0 | exact ((show Below w1.heap.size w1 _ by (repeat (first | assumption | exact Below.refl _ _ | refine belowDN ?_ _ | refine Below.drew ?_ | refine Below.setCell ?_ (by first | omega | (simp <;> omega)) _ | refine Below.alloc ?_ (by first | omega | (simp <;> omega)) _ | refine belowCall ?_ (by assumption)))).cell (p := ⟨wr.heap.size, 1, none⟩) hb2).trans t1 | exact ((show Below w1.heap.size w1 _ by (repeat (first | assumption | exact Below.refl _ _ | refine belowDN ?_ _ | refine Below.drew ?_ | refine Below.setCell ?_ (by first | omega | (simp <;> omega)) _ | refine Below.alloc ?_ (by first | omega | (simp <;> omega)) _ | refine belowCall ?_ (by assumption)))).cell (p := ⟨wr.heap.size, 2, none⟩) hb2).trans t2 | exact ((show Below w1.heap.size w1 _ by (repeat (first | assumption | exact Below.refl _ _ | refine belowDN ?_ _ | refine Below.drew ?_ | refine Below.setCell ?_ (by first | omega | (simp <;> omega)) _ | refine Below.alloc ?_ (by first | omega | (simp <;> omega)) _ | refine belowCall ?_ (by assumption)))).cell (p := ⟨b1, o1 + m * 3, none⟩) hb1).trans r0 | exact ((show Below w1.heap.size w1 _ by (repeat (first | assumption | exact Below.refl _ _ | refine belowDN ?_ _ | refine Below.drew ?_ | refine Below.setCell ?_ (by first | omega | (simp <;> omega)) _ | refine Below.alloc ?_ (by first | omega | (simp <;> omega)) _ | refine belowCall ?_ (by assumption)))).cell (p := ⟨b1, o1 + m * 3 + 1, none⟩) hb1).trans r1 | exact ((show Below w1.heap.size w1 _ by (repeat (first | assumption | exact Below.refl _ _ | refine belowDN ?_ _ | refine Below.drew ?_ | refine Below.setCell ?_ (by first | omega | (simp <;> omega)) _ | refine Below.alloc ?_ (by first | omega | (simp <;> omega)) _ | refine belowCall ?_ (by assumption)))).cell (p := ⟨b1, o1 + m * 3 + 2, none⟩) hb1).trans r2) (first | (go_at_call 43; refine (square_any _ _ _ _ _ _ (by omega) (by omega) (by omega) (by omega)).mono ?_; rintro e w' ⟨rfl, hbel⟩; (first | rw [HU.out] | rw [HV.out])))
        all_goals
          go_wp2
          go_roundw
          case rel => exact ⟨k + 1, by omega, by go_num, by rw [HT.out], belowCall hA (by (repeat (first | assumption | exact Below.refl _ _ | refine belowDN ?_ _ | refine Below.drew ?_ | refine Below.setCell ?_ (by first | omega | (simp <;> omega)) _ | refine Below.alloc ?_ (by first | omega | (simp <;> omega)) _ | refine belowCall ?_ (by assumption))))⟩
          case measure => simp [Go.RowKit.intOf]; omega
    · obtain rfl : k = n := by omega
      go_wp2
      go_ret2
      exact ⟨by rw [HC.out.1, HC.out.2.1]; rfl, belowCall b2 hB⟩
end Go.Proofs.Ytfabpcdeppfmdaa
