/- LongestGap, both sides. -/
import Derived.Test.YtiogffjhhhpolaaJ3
namespace Go.Proofs.Ytiogffjhhhpolaa
open Go.ChangeShapes Go.WideShapes Go.ChangeAt Go.RowKit Go.Deep

def tmP (xs : List Pt) (i : Nat) : Int := (xs[i]?.getD pt0).1
def gapT (xs : List Pt) (i : Nat) : Int := tmP xs i - tmP xs (i - 1)
/-- the first of the widest gaps before the k-th point -/
def bestG (xs : List Pt) : Nat → Nat
  | 0 => 1
  | k + 1 => if 2 ≤ k ∧ gapT xs (bestG xs k) < gapT xs k then k else bestG xs k
theorem bestG_pos (xs : List Pt) : ∀ k, 1 ≤ bestG xs k
  | 0 => by simp [bestG]
  | k + 1 => by
    have := bestG_pos xs k
    simp only [bestG]
    split <;> omega
theorem bestG_lt (xs : List Pt) : ∀ k, 2 ≤ k → bestG xs k < k
  | 0, h => by omega
  | 1, h => by omega
  | 2, _ => by simp [bestG]
  | k + 3, _ => by
    have := bestG_lt xs (k + 2) (by omega)
    rw [bestG]
    split <;> omega
theorem bestG_two (xs : List Pt) : bestG xs 2 = 1 := by simp [bestG]
theorem bestG_yes {xs : List Pt} {k : Nat} (hk : 2 ≤ k) (h : gapT xs (bestG xs k) < gapT xs k) : bestG xs (k + 1) = k := by rw [bestG, if_pos ⟨hk, h⟩]
theorem bestG_no {xs : List Pt} {k : Nat} (h : ¬ gapT xs (bestG xs k) < gapT xs k) : bestG xs (k + 1) = bestG xs k := by rw [bestG, if_neg (fun hh => h hh.2)]
def gfr (xs : List Pt) (k : Nat) : Int := if k ≤ 1 then 0 else tmP xs (bestG xs k - 1)
def gto (xs : List Pt) (k : Nat) : Int := if k ≤ 1 then 0 else tmP xs (bestG xs k)
theorem g_yes {xs : List Pt} {k : Nat} {x y : Pt} (hx : xs[k + 1]?.getD pt0 = x) (hy : xs[k]?.getD pt0 = y) (h : gto xs (k + 1) - gfr xs (k + 1) < x.1 - y.1) : gfr xs (k + 1 + 1) = y.1 ∧ gto xs (k + 1 + 1) = x.1 := by
  have e1 : tmP xs (k + 1) = x.1 := by rw [tmP, hx]
  have e2 : tmP xs k = y.1 := by rw [tmP, hy]
  by_cases hk : k = 0
  · subst hk
    simp [gfr, gto, bestG_two, e1, e2]
  · have hb : bestG xs (k + 1 + 1) = k + 1 := bestG_yes (by omega) (by
      simp only [gfr, gto, if_neg (show ¬ k + 1 ≤ 1 by omega)] at h
      simp only [gapT, Nat.add_sub_cancel, e1, e2]
      exact h)
    simp only [gfr, gto, if_neg (show ¬ k + 1 + 1 ≤ 1 by omega), hb, Nat.add_sub_cancel, e1, e2]
    exact ⟨trivial, trivial⟩
theorem g_no {xs : List Pt} {k : Nat} {x y : Pt} (hx : xs[k + 1]?.getD pt0 = x) (hy : xs[k]?.getD pt0 = y) (hlt : y.1 < x.1) (h : ¬ gto xs (k + 1) - gfr xs (k + 1) < x.1 - y.1) : gfr xs (k + 1 + 1) = gfr xs (k + 1) ∧ gto xs (k + 1 + 1) = gto xs (k + 1) := by
  have e1 : tmP xs (k + 1) = x.1 := by rw [tmP, hx]
  have e2 : tmP xs k = y.1 := by rw [tmP, hy]
  by_cases hk : k = 0
  · subst hk
    simp [gfr, gto] at h
    omega
  · have hb : bestG xs (k + 1 + 1) = bestG xs (k + 1) := bestG_no (by
      simp only [gfr, gto, if_neg (show ¬ k + 1 ≤ 1 by omega)] at h
      simp only [gapT, Nat.add_sub_cancel, e1, e2]
      exact h)
    simp only [gfr, gto, if_neg (show ¬ k + 1 + 1 ≤ 1 by omega), if_neg (show ¬ k + 1 ≤ 1 by omega), hb]
    exact ⟨trivial, trivial⟩
theorem g_bd {xs : List Pt} {n : Nat} (h : ∀ k, k < n → 0 ≤ (xs[k]?.getD pt0).1 ∧ (xs[k]?.getD pt0).1 ≤ 10000000 ∧ -2000 ≤ (xs[k]?.getD pt0).2 ∧ (xs[k]?.getD pt0).2 ≤ 20000) {k : Nat} (hk : k ≤ n) : (0 ≤ gfr xs k ∧ gfr xs k ≤ 10000000) ∧ 0 ≤ gto xs k ∧ gto xs k ≤ 10000000 := by
  unfold gfr gto
  by_cases h1 : k ≤ 1
  · simp [h1]
  · have h2 := bestG_lt xs k (by omega)
    have a := h (bestG xs k) (by omega)
    have b := h (bestG xs k - 1) (by omega)
    rw [if_neg h1, if_neg h1]
    unfold tmP
    omega
def lgC (xs : List Pt) : Int := if okP xs then (if xs.length < 2 then 3 else 0) else 1
def lgA (xs : List Pt) (j : Nat) : Int := if lgC xs = 0 then (if j = 0 then gfr xs xs.length else gto xs xs.length) else 0
theorem lg_1 {xs : List Pt} (h : okP xs = false) : lgC xs = 1 ∧ lgA xs 0 = 0 ∧ lgA xs 1 = 0 := by simp [lgA, lgC, h]
theorem lg_3 {xs : List Pt} {n : Nat} (hn : xs.length = n) (h : okP xs = true) (h2 : n < 2) : lgC xs = 3 ∧ lgA xs 0 = 0 ∧ lgA xs 1 = 0 := by simp [lgA, lgC, h, hn, h2]
theorem lg_0 {xs : List Pt} {n : Nat} (hn : xs.length = n) (h : okP xs = true) (h2 : ¬ n < 2) : lgC xs = 0 ∧ lgA xs 0 = gfr xs n ∧ lgA xs 1 = gto xs n := by simp [lgA, lgC, h, hn, h2]
set_option maxRecDepth 100000 in
set_option maxHeartbeats 2000000 in
theorem sGap_any (a : Option Addr) (n c : Nat) (xs : List Pt) (w : World) (h : PtL w a n xs) (hn : n ≤ 1048576) :
    Calls Try.prog 45 #[.slice a n c] w fun e w' => e = .returned (.tuple #[.int .i64 (lgA xs 0), .int .i64 (lgA xs 1), .int .i64 (lgC xs)]) ∧ Below w.heap.size w w' := by
  cases hok : okP xs
  · have HA := Lib.hid (lg_1 hok)
    go_enter Try.func45, Try.ntmps45
    go_wp2_with fail
    refine (l08Ok_below a n c xs w h hn).mono ?_
    rintro e w2 ⟨rfl, b2⟩
    rw [hok]
    go_wp2
    go_ret3
    exact ⟨by rw [HA.out.1, HA.out.2.1, HA.out.2.2]; rfl, b2⟩
  by_cases hn2 : n < 2
  · have HA := Lib.hid (lg_3 h.1 hok hn2)
    have hl : (n : Int) < 2 := by omega
    go_enter Try.func45, Try.ntmps45
    go_wp2_with fail
    refine (l08Ok_below a n c xs w h hn).mono ?_
    rintro e w2 ⟨rfl, b2⟩
    rw [hok]
    clear hok
    go_wp2
    go_ret3
    exact ⟨by rw [HA.out.1, HA.out.2.1, HA.out.2.2]; rfl, b2⟩
  · have HA := Lib.hid (lg_0 h.1 hok hn2)
    obtain ⟨h100, hbd, -⟩ := okP_num h.1 hok
    have hl : (n : Int) ≤ 100 := by omega
    have hl2 : (2 : Int) ≤ (n : Int) := by omega
    go_enter Try.func45, Try.ntmps45
    go_wp2_with fail
    refine (l08Ok_below a n c xs w h hn).mono ?_
    rintro e w2 ⟨rfl, b2⟩
    rw [hok]
    have h2 := h.mono b2
    clear hok
    go_wp2
    go_loopw [5, 6] (fun s i wr => ∃ k : Nat, 2 ≤ k ∧ k ≤ n ∧ i = .int .i64 k ∧ s = .int .i64 ((bestG xs k : Nat) : Int) ∧ Below w2.heap.size w2 wr) (fun _ i _ => n - (Go.RowKit.intOf i).toNat)
    case atStart => exact ⟨2, by omega, by omega, rfl, by rw [bestG_two]; rfl, Below.refl _ _⟩
    case round =>
      obtain ⟨k, hk1, hk, rfl, rfl, hB⟩ := hrel
      have hb1 := bestG_pos xs k
      have hb2 := bestG_lt xs k hk1
      by_cases hlt : k < n
      · obtain ⟨k', rfl⟩ : ∃ k', k = k' + 1 := ⟨k - 1, by omega⟩
        have HY := Lib.hid (bestG_yes (xs := xs) (k := k' + 1) hk1)
        have HN := Lib.hid (bestG_no (xs := xs) (k := k' + 1))
        obtain ⟨B, hG⟩ : ∃ B, bestG xs (k' + 1) = B := ⟨_, rfl⟩
        rw [hG] at HY HN hb1 hb2
        obtain ⟨B', rfl⟩ : ∃ B', B = B' + 1 := ⟨B - 1, by omega⟩
        obtain ⟨b1, o1, rfl, hS⟩ := h2.2 (k' + 1) hlt
        obtain ⟨b1', o1', he, hS'⟩ := h2.2 k' (by omega)
        cases he
        obtain ⟨b1', o1', he, hT⟩ := h2.2 (B' + 1) (by omega)
        cases he
        obtain ⟨b1', o1', he, hT'⟩ := h2.2 B' (by omega)
        cases he
        obtain ⟨⟨x0, x1⟩, hx⟩ : ∃ x, xs[k' + 1]?.getD pt0 = x := ⟨_, rfl⟩
        obtain ⟨⟨y0, y1⟩, hy⟩ : ∃ x, xs[k']?.getD pt0 = x := ⟨_, rfl⟩
        obtain ⟨⟨u0, u1⟩, hu⟩ : ∃ x, xs[B' + 1]?.getD pt0 = x := ⟨_, rfl⟩
        obtain ⟨⟨v0, v1⟩, hv⟩ : ∃ x, xs[B']?.getD pt0 = x := ⟨_, rfl⟩
        have g1 : gapT xs (k' + 1) = x0 - y0 := by simp [gapT, tmP, hx, hy]
        have g2 : gapT xs (B' + 1) = u0 - v0 := by simp [gapT, tmP, hu, hv]
        rw [g1, g2] at HY HN
        have d1 := hbd (k' + 1) hlt
        have d2 := hbd k' (by omega)
        have d3 := hbd (B' + 1) (by omega)
        have d4 := hbd B' (by omega)
        rw [hx] at hS d1
        rw [hy] at hS' d2
        rw [hu] at hT d3
        rw [hv] at hT' d4
        obtain ⟨-, p0, -⟩ := (hS.mono hB).parts
        obtain ⟨-, q0, -⟩ := (hS'.mono hB).parts
        obtain ⟨-, r0, -⟩ := (hT.mono hB).parts
        obtain ⟨-, s0, -⟩ := (hT'.mono hB).parts
        clear hx hy hu hv hS hS' hT hT' hbd g1 g2
        rw [hG]
        have HBB := Lib.hid hG
        clear hG
        have hkk : ((k' : Int) + 1) < (n : Int) := by omega
        have hi1 : (k' : Int) < (n : Int) := by omega
        have hi2 : ((B' : Int) + 1) < (n : Int) := by omega
        have hi3 : (B' : Int) < (n : Int) := by omega
        by_cases hg : u0 - v0 < x0 - y0
        · have HS := Lib.hid (HY.out hg)
          go_wp2
          go_big_quiet (fail)
          go_wp2
          go_roundw
          case rel => exact ⟨k' + 1 + 1, by omega, by omega, by go_num, by rw [HS.out]; first | done | go_num, belowDN hB _⟩
          case measure => simp [Go.RowKit.intOf]; omega
        · have HS := Lib.hid (HN.out hg)
          go_wp2
          go_big_quiet (fail)
          go_wp2
          go_roundw
          case rel => exact ⟨k' + 1 + 1, by omega, by omega, by go_num, by rw [HS.out]; first | done | go_num, belowDN hB _⟩
          case measure => simp [Go.RowKit.intOf]; omega
      · obtain rfl : k = n := by omega
        have e1 : lgA xs 0 = tmP xs (bestG xs k - 1) := by rw [HA.out.2.1, gfr, if_neg (by omega)]
        have e2 : lgA xs 1 = tmP xs (bestG xs k) := by rw [HA.out.2.2, gto, if_neg (by omega)]
        obtain ⟨B, hG⟩ : ∃ B, bestG xs k = B := ⟨_, rfl⟩
        rw [hG] at hb1 hb2 e1 e2 ⊢
        obtain ⟨B', rfl⟩ : ∃ B', B = B' + 1 := ⟨B - 1, by omega⟩
        rw [Nat.add_sub_cancel] at e1
        obtain ⟨b1, o1, rfl, hT⟩ := h2.2 (B' + 1) (by omega)
        obtain ⟨b1', o1', he, hT'⟩ := h2.2 B' (by omega)
        cases he
        obtain ⟨⟨u0, u1⟩, hu⟩ : ∃ x, xs[B' + 1]?.getD pt0 = x := ⟨_, rfl⟩
        obtain ⟨⟨v0, v1⟩, hv⟩ : ∃ x, xs[B']?.getD pt0 = x := ⟨_, rfl⟩
        rw [tmP, hu] at e2
        rw [tmP, hv] at e1
        rw [hu] at hT
        rw [hv] at hT'
        obtain ⟨-, r0, -⟩ := (hT.mono hB).parts
        obtain ⟨-, s0, -⟩ := (hT'.mono hB).parts
        have HE1 := Lib.hid e1
        have HE2 := Lib.hid e2
        clear hu hv hT hT' e1 e2 hG
        have hi2 : ((B' : Int) + 1) < (k : Int) := by omega
        have hi3 : (B' : Int) < (k : Int) := by omega
        go_wp2
        go_big_quiet (fail)
        go_wp2
        go_ret3
        exact ⟨by rw [HA.out.1, HE1.out, HE2.out]; rfl, belowCall b2 (by (repeat (first | assumption | exact Below.refl _ _ | refine belowDN ?_ _ | refine Below.drew ?_ | refine Below.setCell ?_ (by first | omega | (simp <;> omega)) _ | refine Below.alloc ?_ (by first | omega | (simp <;> omega)) _ | refine belowCall ?_ (by assumption))))⟩
set_option maxRecDepth 100000 in
set_option maxHeartbeats 2000000 in
theorem iGap_any (a : Option Addr) (n c : Nat) (xs : List Pt) (w : World) (h : PtL w a n xs) (hn : n ≤ 1048576) :
    Calls Try.prog 29 #[.slice a n c] w fun e w' => e = .returned (.tuple #[.int .i64 (lgA xs 0), .int .i64 (lgA xs 1), .int .i64 (lgC xs)]) ∧ Below w.heap.size w w' := by
  cases hok : okP xs
  · have HA := Lib.hid (lg_1 hok)
    go_enter Try.func29, Try.ntmps29
    go_wp2_with fail
    refine (iValidCv_any a n c xs w h hn).mono ?_
    rintro e w2 ⟨rfl, b2⟩
    rw [hok]
    go_wp2
    go_ret3
    exact ⟨by rw [HA.out.1, HA.out.2.1, HA.out.2.2]; rfl, b2⟩
  by_cases hn2 : n < 2
  · have HA := Lib.hid (lg_3 h.1 hok hn2)
    have hl : (n : Int) < 2 := by omega
    go_enter Try.func29, Try.ntmps29
    go_wp2_with fail
    refine (iValidCv_any a n c xs w h hn).mono ?_
    rintro e w2 ⟨rfl, b2⟩
    rw [hok]
    clear hok
    go_wp2
    go_ret3
    exact ⟨by rw [HA.out.1, HA.out.2.1, HA.out.2.2]; rfl, b2⟩
  · have HA := Lib.hid (lg_0 h.1 hok hn2)
    obtain ⟨h100, hbd, hinc⟩ := okP_num h.1 hok
    have hl : (n : Int) ≤ 100 := by omega
    have hl2 : (2 : Int) ≤ (n : Int) := by omega
    go_enter Try.func29, Try.ntmps29
    go_wp2_with fail
    refine (iValidCv_any a n c xs w h hn).mono ?_
    rintro e w2 ⟨rfl, b2⟩
    rw [hok]
    have h2 := h.mono b2
    clear hok
    go_wp2
    go_loopw [5, 6, 7] (fun s t i wr => ∃ k : Nat, 1 ≤ k ∧ k ≤ n ∧ i = .int .i64 k ∧ s = .int .i64 (gfr xs k) ∧ t = .int .i64 (gto xs k) ∧ Below w2.heap.size w2 wr) (fun _ _ i _ => n - (Go.RowKit.intOf i).toNat)
    case atStart => exact ⟨1, by omega, by omega, rfl, by simp [gfr], by simp [gto], Below.refl _ _⟩
    case round =>
      obtain ⟨k, hk1, hk, rfl, rfl, rfl, hB⟩ := hrel
      by_cases hlt : k < n
      · obtain ⟨k', rfl⟩ : ∃ k', k = k' + 1 := ⟨k - 1, by omega⟩
        obtain ⟨b1, o1, rfl, hS⟩ := h2.2 (k' + 1) hlt
        obtain ⟨b1', o1', he, hS'⟩ := h2.2 k' (by omega)
        cases he
        obtain ⟨⟨x0, x1⟩, hx⟩ : ∃ x, xs[k' + 1]?.getD pt0 = x := ⟨_, rfl⟩
        obtain ⟨⟨y0, y1⟩, hy⟩ : ∃ x, xs[k']?.getD pt0 = x := ⟨_, rfl⟩
        have HY := Lib.hid (g_yes hx hy)
        have HN := Lib.hid (g_no hx hy (by have := hinc k' (by omega); rw [hx, hy] at this; exact this))
        have d1 := hbd (k' + 1) hlt
        have d2 := hbd k' (by omega)
        obtain ⟨d3, d4⟩ := g_bd hbd hk
        rw [hx] at hS d1
        rw [hy] at hS' d2
        obtain ⟨-, p0, -⟩ := (hS.mono hB).parts
        obtain ⟨-, q0, -⟩ := (hS'.mono hB).parts
        clear hx hy hS hS' hbd hinc
        generalize gfr xs (k' + 1) = F at *
        generalize gto xs (k' + 1) = T at *
        have hkk : ((k' : Int) + 1) < (n : Int) := by omega
        have hi1 : (k' : Int) < (n : Int) := by omega
        by_cases hg : T - F < x0 - y0
        · have HS := Lib.hid (HY.out hg)
          go_wp2
          go_big_quiet (fail)
          go_wp2
          go_roundw
          case rel => exact ⟨k' + 1 + 1, by omega, by omega, by go_num, by rw [HS.out.1], by rw [HS.out.2], belowDN hB _⟩
          case measure => simp [Go.RowKit.intOf]; omega
        · have HS := Lib.hid (HN.out hg)
          go_wp2
          go_big_quiet (fail)
          go_wp2
          go_roundw
          case rel => exact ⟨k' + 1 + 1, by omega, by omega, by go_num, by rw [HS.out.1], by rw [HS.out.2], belowDN hB _⟩
          case measure => simp [Go.RowKit.intOf]; omega
      · obtain rfl : k = n := by omega
        go_wp2
        go_ret3
        exact ⟨by rw [HA.out.1, HA.out.2.1, HA.out.2.2]; rfl, belowCall b2 hB⟩
end Go.Proofs.Ytiogffjhhhpolaa
