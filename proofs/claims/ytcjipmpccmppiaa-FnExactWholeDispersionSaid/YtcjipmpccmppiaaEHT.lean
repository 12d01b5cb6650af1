/- WholeDispersion (the model's), ThetaOf, both sides. -/
import Derived.Test.YtcjipmpccmppiaaEH
namespace Go.Proofs.Ytcjipmpccmppiaa
open Go.ChangeShapes Go.WideShapes Go.ChangeAt Go.RowKit Go.Deep

theorem whole_1 {xs : List Pt} (h : okP xs = false) : dsC xs 1000000 1 = 1 := ds_f (fo_1 h) (by decide)
theorem whole_3 {xs : List Pt} {n : Nat} (hn : xs.length = n) (h : okP xs = true) (h2 : dpN 1000000 1 xs n = 0) : dsC xs 1000000 1 = 3 := ds_3 hn (fo_0 h (by decide)) h2
theorem whole_0 {xs : List Pt} {n : Nat} (hn : xs.length = n) (h : okP xs = true) (h2 : dpN 1000000 1 xs n ≠ 0) : dsF xs 1000000 1 = (lowN (dpQ 1000000 1 xs n) (dpN 1000000 1 xs n), lowD (dpQ 1000000 1 xs n) (dpN 1000000 1 xs n), 0) := (ds_0 hn (fo_0 h (by decide)) h2).2
set_option maxRecDepth 100000 in
set_option maxHeartbeats 1000000 in
theorem sWhl_any (a : Option Addr) (n c : Nat) (xs : List Pt) (w : World) (h : PtL w a n xs) (hn : n ≤ 1048576) :
    Calls Try.prog 22 #[.slice a n c] w fun e w' => FrP (dsF xs 1000000 1) e ∧ Below w.heap.size w w' := by
  have B1 : Below w.heap.size w (w.alloc (.cells #[.int .i64 0, .int .i64 0] 27)) := (Below.refl _ w).alloc (Nat.le_refl _) _
  have h1 := h.mono B1
  have R1 := RF.fresh w 27
  cases hok : okP xs
  · have HC := Lib.hid (dsF_no (whole_1 hok) (by decide))
    go_enter Try.func22, Try.ntmps22
    go_wp2_with fail
    generalize w.alloc (.cells #[.int .i64 0, .int .i64 0] 27) = w1 at B1 h1 R1 ⊢
    refine (l08Ok_below a n c xs w1 h1 hn).mono ?_
    rintro e w2 ⟨rfl, b2⟩
    rw [hok]
    have R2 := R1.mono b2
    have B2 := belowCall B1 b2
    have h2 := h1.mono b2
    obtain ⟨⟨hBl, q0, q1⟩, z0, z1⟩ := R2.parts
    go_wp2
    obtain ⟨t0, t1⟩ := R2.stored 0 0 rfl
    exact bodyPost_ret (v := .tuple #[.agg #[.int .i64 0, .int .i64 0], .int .i64 1]) (by simp [results, Try.results22, go_sem, t0, t1]) rfl ⟨FrP.mk HC.out, (B2.setCell (Nat.le_refl _) _).setCell (Nat.le_refl _) _⟩
  obtain ⟨⟨m1, m2⟩, m3, m4⟩ := dp_bd (p := 1000000) (b := 1) h.1 hok
  have HDI := Lib.hid (fun (W : World) (hW : PtL W a n xs) => ins_any 1000000 1 a n c xs W hW hok (by omega) (by omega) (by omega) (by omega))
  by_cases hN : dpN 1000000 1 xs n = 0
  · have HC := Lib.hid (dsF_no (whole_3 h.1 hok hN) (by decide))
    obtain ⟨DN, hDN⟩ : ∃ x, dpN 1000000 1 xs n = x := ⟨_, rfl⟩
    rw [hDN] at HDI hN
    have hNd : (DN == 0) = true := by simpa using hN
    clear hN hDN
    go_enter Try.func22, Try.ntmps22
    go_wp2_with fail
    generalize w.alloc (.cells #[.int .i64 0, .int .i64 0] 27) = w1 at B1 h1 R1 ⊢
    refine (l08Ok_below a n c xs w1 h1 hn).mono ?_
    rintro e w2 ⟨rfl, b2⟩
    rw [hok]
    have R2 := R1.mono b2
    have B2 := belowCall B1 b2
    have h2 := h1.mono b2
    clear hok
    go_wp2_with fail
    refine (HDI.out _ h2).mono ?_
    rintro e w3 ⟨rfl, b3⟩
    have R3 := R2.mono b3
    have B3 := belowCall B2 b3
    obtain ⟨⟨hBl, q0, q1⟩, z0, z1⟩ := R3.parts
    go_wp2
    obtain ⟨t0, t1⟩ := R3.stored 0 0 rfl
    exact bodyPost_ret (v := .tuple #[.agg #[.int .i64 0, .int .i64 0], .int .i64 3]) (by simp [results, Try.results22, go_sem, t0, t1]) rfl ⟨FrP.mk HC.out, (B3.setCell (Nat.le_refl _) _).setCell (Nat.le_refl _) _⟩
  · have HC := Lib.hid (whole_0 h.1 hok hN)
    generalize dpQ 1000000 1 xs n = DQ at *
    generalize dpN 1000000 1 xs n = DN at *
    have hNd : (DN == 0) = false := by simpa using hN
    have hpos : 1 ≤ DN := by omega
    obtain ⟨x, hx⟩ : ∃ x, lowN DQ DN = x := ⟨_, rfl⟩
    obtain ⟨y, hy⟩ : ∃ x, lowD DQ DN = x := ⟨_, rfl⟩
    have HL : ∀ W, Calls Try.prog 68 #[.int .i64 DQ, .int .i64 DN] W fun e w' => e = .returned (.agg #[.int .i64 x, .int .i64 y]) ∧ Below W.heap.size W w' := fun W => by rw [← hx, ← hy]; exact l02MakeW_any DQ DN W (by omega) (by omega) (by omega) (by omega)
    rw [hx, hy] at HC
    clear hN hx hy
    go_enter Try.func22, Try.ntmps22
    go_wp2_with fail
    generalize w.alloc (.cells #[.int .i64 0, .int .i64 0] 27) = w1 at B1 h1 R1 ⊢
    refine (l08Ok_below a n c xs w1 h1 hn).mono ?_
    rintro e w2 ⟨rfl, b2⟩
    rw [hok]
    have R2 := R1.mono b2
    have B2 := belowCall B1 b2
    have h2 := h1.mono b2
    clear hok
    go_wp2_with fail
    refine (HDI.out _ h2).mono ?_
    rintro e w3 ⟨rfl, b3⟩
    have R3 := R2.mono b3
    have B3 := belowCall B2 b3
    go_wp2_with fail
    refine (HL _).mono ?_
    rintro e w4 ⟨rfl, b4⟩
    have R4 := R3.mono b4
    have B4 := belowCall B3 b4
    obtain ⟨⟨hBl, q0, q1⟩, z0, z1⟩ := R4.parts
    go_wp2
    obtain ⟨t0, t1⟩ := R4.stored x y rfl
    exact bodyPost_ret (v := .tuple #[.agg #[.int .i64 x, .int .i64 y], .int .i64 0]) (by simp [results, Try.results22, go_sem, t0, t1]) rfl ⟨FrP.mk HC.out, (B4.setCell (Nat.le_refl _) _).setCell (Nat.le_refl _) _⟩
theorem th_no {xs : List Pt} {p b c : Int} (h : thC xs p b = c) (hc : c ≠ 0) : thF xs p b = (0, 0, c) := by subst h; simp [thF, hc]
theorem th_d {xs : List Pt} {p b c : Int} (h : dsC xs p b = c) (hc : c ≠ 0) : thC xs p b = c := by subst h; simp [thC, hc]
theorem th_6 {xs : List Pt} {p b : Int} {n : Nat} (hn : xs.length = n) (h : dsC xs p b = 0) (h2 : dpQ 1000000 1 xs n = 0) : thC xs p b = 6 := by subst hn; simp [thC, h, h2]
theorem th_0 {xs : List Pt} {p b : Int} {n : Nat} (hn : xs.length = n) (h : dsC xs p b = 0) (h2 : dpQ 1000000 1 xs n ≠ 0) : thF xs p b = (lowN (dpQ p b xs n * dpN 1000000 1 xs n) (dpN p b xs n * dpQ 1000000 1 xs n), lowD (dpQ p b xs n * dpN 1000000 1 xs n) (dpN p b xs n * dpQ 1000000 1 xs n), 0) := by
  subst hn
  have e : thC xs p b = 0 := by simp [thC, h, h2]
  simp [thF, e]
theorem ds_parts {xs : List Pt} {p b : Int} {n : Nat} (hn : xs.length = n) (h : dsC xs p b = 0) : foC xs p b = 0 ∧ dpN p b xs n ≠ 0 := by
  subst hn
  unfold dsC at h
  by_cases h1 : foC xs p b = 0
  · rw [if_pos h1] at h
    exact ⟨h1, fun h2 => by rw [if_pos h2] at h; cases h⟩
  · rw [if_neg h1] at h; exact absurd h h1
theorem dpN_some {xs : List Pt} {p b : Int} {n : Nat} (hn : n ≤ 100) (h : dpQ p b xs n ≠ 0) : dpN p b xs n ≠ 0 := fun h2 => h (outQ_none n hn h2)
theorem th_small {a b c d : Int} (h1 : 0 ≤ a ∧ a ≤ 4840000000000) (h2 : 0 ≤ b ∧ b ≤ 10000) (h3 : 0 ≤ c ∧ c ≤ 4840000000000) (h4 : 0 ≤ d ∧ d ≤ 10000) : (0 ≤ a * d ∧ a * d ≤ 48400000000000000) ∧ 0 ≤ b * c ∧ b * c ≤ 48400000000000000 := by
  have p := aMul (a := a) (b := d) (A := 4840000000000) (B := 10000) (by omega) (by omega) (by omega) (by omega)
  have q := aMul (a := b) (b := c) (A := 10000) (B := 4840000000000) (by omega) (by omega) (by omega) (by omega)
  have r := Int.mul_nonneg h1.1 h4.1
  have s := Int.mul_nonneg h2.1 h3.1
  omega
theorem low_bd {a b M K : Int} (h1 : 0 ≤ a) (h2 : a ≤ M) (h3 : 1 ≤ b) (h4 : b ≤ K) : (0 ≤ lowN a b ∧ lowN a b ≤ M) ∧ 0 ≤ lowD a b ∧ lowD a b ≤ K := by
  have p := lowN_bd (a := a) (b := b) (M := M) (by omega) h2
  have q := lowD_pos (a := a) h3
  have r := lowD_le (a := a) h3
  have s : 0 ≤ lowN a b := Int.ediv_nonneg h1 (by omega)
  omega
set_option maxRecDepth 100000 in
set_option maxHeartbeats 1000000 in
theorem iTht_any (a : Option Addr) (n c : Nat) (xs : List Pt) (p b : Int) (w : World) (h : PtL w a n xs) (hn : n ≤ 1048576) :
    Calls Try.prog 24 #[.slice a n c, .int .i64 p, .int .i64 b] w fun e w' => FrP (thF xs p b) e ∧ Below w.heap.size w w' := by
  have B1 : Below w.heap.size w (w.alloc (.cells #[.int .i64 0, .int .i64 0] 27)) := (Below.refl _ w).alloc (Nat.le_refl _) _
  have h1 := h.mono B1
  have R1 := RF.fresh w 27
  by_cases hz : dsC xs p b = 0
  rotate_left
  · obtain ⟨cc, hcc⟩ : ∃ cc, dsC xs p b = cc := ⟨_, rfl⟩
    rw [hcc] at hz
    have HC := Lib.hid (th_no (th_d hcc hz) hz)
    have HK := Lib.hid (dsF_no hcc hz)
    have hzd : (cc != 0) = true := by simpa using hz
    clear hz hcc
    go_enter Try.func24, Try.ntmps24
    go_wp2_with fail
    generalize w.alloc (.cells #[.int .i64 0, .int .i64 0] 27) = w1 at B1 h1 R1 ⊢
    refine (iDsp_any a n c xs p b w1 h1 hn).mono ?_
    rintro e w2 ⟨⟨x, y, c2, hv, rfl⟩, b2⟩
    rw [HK.out] at hv
    cases hv
    have b3 : Below w2.heap.size w2 (w2.alloc (.cells #[.int .i64 0, .int .i64 0] 27)) := (Below.refl _ _).alloc (Nat.le_refl _) _
    have R3 := (R1.mono b2).mono b3
    have B3 := belowCall (belowCall B1 b2) b3
    obtain ⟨⟨hBl, q0, q1⟩, z0, z1⟩ := R3.parts
    clear b3
    go_wp2
    obtain ⟨t0, t1⟩ := R3.stored 0 0 rfl
    exact bodyPost_ret (v := .tuple #[.agg #[.int .i64 0, .int .i64 0], .int .i64 cc]) (by simp [results, Try.results24, go_sem, t0, t1]) rfl ⟨FrP.mk HC.out, (B3.setCell (Nat.le_refl _) _).setCell (Nat.le_refl _) _⟩
  obtain ⟨hfo, hN⟩ := ds_parts h.1 hz
  obtain ⟨hok, ⟨p1, p2⟩, q1, q2⟩ := fo_parts hfo
  obtain ⟨h100, -, -⟩ := okP_num h.1 hok
  have HK := Lib.hid (ds_0 h.1 hfo hN).2
  obtain ⟨⟨m1, m2⟩, m3, m4⟩ := dp_bd (p := p) (b := b) h.1 hok
  obtain ⟨⟨k1, k2⟩, k3, k4⟩ := dp_bd (p := 1000000) (b := 1) h.1 hok
  by_cases hQ : dpQ 1000000 1 xs n = 0
  · have HC := Lib.hid (th_no (th_6 h.1 hz hQ) (by decide))
    have HW : Hid (∀ x y c, dsF xs 1000000 1 = (x, y, c) → x = 0) := Lib.hid fun x y c e => by
      by_cases hW : dpN 1000000 1 xs n = 0
      · rw [dsF_no (whole_3 h.1 hok hW) (by decide)] at e; cases e; rfl
      · rw [whole_0 h.1 hok hW, hQ] at e; cases e; exact lowN_zero.2 rfl
    generalize lowN (dpQ p b xs n) (dpN p b xs n) = x1 at HK
    generalize lowD (dpQ p b xs n) (dpN p b xs n) = y1 at HK
    clear hz hok hN hQ hfo
    go_enter Try.func24, Try.ntmps24
    go_wp2_with fail
    generalize w.alloc (.cells #[.int .i64 0, .int .i64 0] 27) = w1 at B1 h1 R1 ⊢
    refine (iDsp_any a n c xs p b w1 h1 hn).mono ?_
    rintro e w2 ⟨⟨x, y, c2, hv, rfl⟩, b2⟩
    rw [HK.out] at hv
    cases hv
    have b3 : Below w2.heap.size w2 (w2.alloc (.cells #[.int .i64 x1, .int .i64 y1] 27)) := (Below.refl _ _).alloc (Nat.le_refl _) _
    have R3 := (R1.mono b2).mono b3
    have B3 := belowCall (belowCall B1 b2) b3
    have h3 := (h1.mono b2).mono b3
    have hF3 := FrS.fresh w2 27 x1 y1
    go_wp2_with fail
    generalize w2.alloc (.cells #[.int .i64 x1, .int .i64 y1] 27) = w3 at b3 R3 B3 h3 hF3 ⊢
    refine (iWhl_any a n c xs w3 h3 hn).mono ?_
    rintro e w4 ⟨⟨x, y, c2, hv, rfl⟩, b4⟩
    have hx0 := HW.out _ _ _ hv
    subst hx0
    clear hv
    have b5 : Below w4.heap.size w4 (w4.alloc (.cells #[.int .i64 0, .int .i64 y] 27)) := (Below.refl _ _).alloc (Nat.le_refl _) _
    have R5 := (R3.mono b4).mono b5
    have B5 := belowCall (belowCall B3 b4) b5
    obtain ⟨⟨hBl, q0, q1⟩, z0, z1⟩ := R5.parts
    clear b5
    go_wp2
    obtain ⟨t0, t1⟩ := R5.stored 0 0 rfl
    exact bodyPost_ret (v := .tuple #[.agg #[.int .i64 0, .int .i64 0], .int .i64 6]) (by simp [results, Try.results24, go_sem, t0, t1]) rfl ⟨FrP.mk HC.out, (B5.setCell (Nat.le_refl _) _).setCell (Nat.le_refl _) _⟩
  · have hW := dpN_some h100 hQ
    have HC : Hid (thF xs p b = (lowN (lowN (dpQ p b xs n) (dpN p b xs n) * lowD (dpQ 1000000 1 xs n) (dpN 1000000 1 xs n)) (lowD (dpQ p b xs n) (dpN p b xs n) * lowN (dpQ 1000000 1 xs n) (dpN 1000000 1 xs n)), lowD (lowN (dpQ p b xs n) (dpN p b xs n) * lowD (dpQ 1000000 1 xs n) (dpN 1000000 1 xs n)) (lowD (dpQ p b xs n) (dpN p b xs n) * lowN (dpQ 1000000 1 xs n) (dpN 1000000 1 xs n)), 0)) := Lib.hid (by
      obtain ⟨e1, e2⟩ := theta_low (a := dpQ p b xs n) (b := dpN p b xs n) (c := dpQ 1000000 1 xs n) (d := dpN 1000000 1 xs n) hN hQ
      rw [th_0 h.1 hz hQ, e1, e2])
    have HW := Lib.hid (whole_0 h.1 hok hW)
    obtain ⟨l1, l2⟩ := low_bd m1 m2 (show 1 ≤ dpN p b xs n by omega) m4
    obtain ⟨l3, l4⟩ := low_bd k1 k2 (show 1 ≤ dpN 1000000 1 xs n by omega) k4
    have l5 := lowD_pos (a := dpQ p b xs n) (show 1 ≤ dpN p b xs n by omega)
    have l6 : lowN (dpQ 1000000 1 xs n) (dpN 1000000 1 xs n) ≠ 0 := fun e => hQ (lowN_zero.1 e)
    generalize lowN (dpQ p b xs n) (dpN p b xs n) = x1 at *
    generalize lowD (dpQ p b xs n) (dpN p b xs n) = y1 at *
    generalize lowN (dpQ 1000000 1 xs n) (dpN 1000000 1 xs n) = x2 at *
    generalize lowD (dpQ 1000000 1 xs n) (dpN 1000000 1 xs n) = y2 at *
    obtain ⟨s1, s2⟩ := th_small l1 l2 l3 l4
    have s3 : 1 ≤ y1 * x2 := by
      have := Int.mul_le_mul (show (1 : Int) ≤ y1 from l5) (show (1 : Int) ≤ x2 by omega) (by omega) (by omega)
      omega
    have wr1 : IntKind.i64.wrap (x1 * y2) = x1 * y2 := IntWalk.i64_in _ (by omega)
    have wr2 : IntKind.i64.wrap (y1 * x2) = y1 * x2 := IntWalk.i64_in _ (by omega)
    have hxz : (x2 == 0) = false := by simpa using l6
    obtain ⟨x, hx⟩ : ∃ x, lowN (x1 * y2) (y1 * x2) = x := ⟨_, rfl⟩
    obtain ⟨y, hy⟩ : ∃ x, lowD (x1 * y2) (y1 * x2) = x := ⟨_, rfl⟩
    have HL : ∀ W, Calls Try.prog 66 #[.agg #[.int .i64 (x1 * y2), .int .i64 (y1 * x2)]] W fun e w' => e = .returned (.agg #[.int .i64 x, .int .i64 y]) ∧ Below W.heap.size W w' := fun W => by rw [← hx, ← hy]; exact lowestW_any _ _ W (by omega) (by omega) (by omega) (by omega)
    rw [hx, hy] at HC
    clear hz hok hN hQ hW hx hy hfo
    go_enter Try.func24, Try.ntmps24
    go_wp2_with fail
    generalize w.alloc (.cells #[.int .i64 0, .int .i64 0] 27) = w1 at B1 h1 R1 ⊢
    refine (iDsp_any a n c xs p b w1 h1 hn).mono ?_
    rintro e w2 ⟨⟨x', y', c2, hv, rfl⟩, b2⟩
    rw [HK.out] at hv
    cases hv
    have b3 : Below w2.heap.size w2 (w2.alloc (.cells #[.int .i64 x1, .int .i64 y1] 27)) := (Below.refl _ _).alloc (Nat.le_refl _) _
    have R3 := (R1.mono b2).mono b3
    have B3 := belowCall (belowCall B1 b2) b3
    have h3 := (h1.mono b2).mono b3
    have hF3 := FrS.fresh w2 27 x1 y1
    go_wp2_with fail
    generalize w2.alloc (.cells #[.int .i64 x1, .int .i64 y1] 27) = w3 at b3 R3 B3 h3 hF3 ⊢
    refine (iWhl_any a n c xs w3 h3 hn).mono ?_
    rintro e w4 ⟨⟨x', y', c2, hv, rfl⟩, b4⟩
    rw [HW.out] at hv
    cases hv
    have b5 : Below w4.heap.size w4 (w4.alloc (.cells #[.int .i64 x2, .int .i64 y2] 27)) := (Below.refl _ _).alloc (Nat.le_refl _) _
    have R5 := (R3.mono b4).mono b5
    have B5 := belowCall (belowCall B3 b4) b5
    have hF4 := hF3.mono b4
    obtain ⟨hlF, fc0, fc1, -, -⟩ := hF4
    clear hF3
    go_wp2_with fail
    refine (HL _).mono ?_
    rintro e w6 ⟨rfl, b6⟩
    have R6 := R5.mono b6
    have B6 := belowCall B5 b6
    obtain ⟨⟨hBl, q0, q1⟩, z0, z1⟩ := R6.parts
    clear b5 R5
    go_wp2
    obtain ⟨t0, t1⟩ := R6.stored x y rfl
    exact bodyPost_ret (v := .tuple #[.agg #[.int .i64 x, .int .i64 y], .int .i64 0]) (by simp [results, Try.results24, go_sem, t0, t1]) rfl ⟨FrP.mk HC.out, (B6.setCell (Nat.le_refl _) _).setCell (Nat.le_refl _) _⟩
set_option maxRecDepth 100000 in
set_option maxHeartbeats 1000000 in
theorem sTht_any (a : Option Addr) (n c : Nat) (xs : List Pt) (p b : Int) (w : World) (h : PtL w a n xs) (hn : n ≤ 1048576) :
    Calls Try.prog 25 #[.slice a n c, .int .i64 p, .int .i64 b] w fun e w' => FrP (thF xs p b) e ∧ Below w.heap.size w w' := by
  have B1 : Below w.heap.size w (w.alloc (.cells #[.int .i64 0, .int .i64 0] 27)) := (Below.refl _ w).alloc (Nat.le_refl _) _
  have h1 := h.mono B1
  have R1 := RF.fresh w 27
  by_cases hz : foC xs p b = 0
  rotate_left
  · obtain ⟨cc, hcc⟩ : ∃ cc, foC xs p b = cc := ⟨_, rfl⟩
    rw [hcc] at hz
    have HC := Lib.hid (th_no (th_d (ds_f hcc hz) hz) hz)
    have HK := Lib.hid hcc
    have hzd : (cc != 0) = true := by simpa using hz
    clear hz hcc
    go_enter Try.func25, Try.ntmps25
    go_wp2_with fail
    generalize w.alloc (.cells #[.int .i64 0, .int .i64 0] 27) = w1 at B1 h1 R1 ⊢
    refine (l11Code_any p b a n c xs w1 h1 hn).mono ?_
    rintro e w2 ⟨rfl, b2⟩
    rw [HK.out]
    have R2 := R1.mono b2
    have B2 := belowCall B1 b2
    obtain ⟨⟨hBl, q0, q1⟩, z0, z1⟩ := R2.parts
    go_wp2
    obtain ⟨t0, t1⟩ := R2.stored 0 0 rfl
    exact bodyPost_ret (v := .tuple #[.agg #[.int .i64 0, .int .i64 0], .int .i64 cc]) (by simp [results, Try.results25, go_sem, t0, t1]) rfl ⟨FrP.mk HC.out, (B2.setCell (Nat.le_refl _) _).setCell (Nat.le_refl _) _⟩
  obtain ⟨hok, ⟨p1, p2⟩, q1, q2⟩ := fo_parts hz
  obtain ⟨h100, -, -⟩ := okP_num h.1 hok
  have HK := Lib.hid hz
  obtain ⟨⟨m1, m2⟩, m3, m4⟩ := dp_bd (p := p) (b := b) h.1 hok
  obtain ⟨⟨k1, k2⟩, k3, k4⟩ := dp_bd (p := 1000000) (b := 1) h.1 hok
  have HDI := Lib.hid (fun (W : World) (hW : PtL W a n xs) => ins_any p b a n c xs W hW hok p1 p2 q1 q2)
  have HDJ : Hid (∀ (W : World), PtL W a n xs → Calls Try.prog 73 #[.slice a n c, .int .i64 p, .int .i64 1] W fun x w' => x = .returned (.tuple #[.int .i64 (dpQ 1000000 1 xs n), .int .i64 (dpN 1000000 1 xs n)]) ∧ Below W.heap.size W w') := Lib.hid (fun (W : World) (hW : PtL W a n xs) => by
    have h9 := ins_any p 1 a n c xs W hW hok p1 p2 (by omega) (by omega)
    rwa [(dp_one p1 xs n).1, (dp_one p1 xs n).2] at h9)
  by_cases hN : dpN p b xs n = 0
  · have HC := Lib.hid (th_no (th_d (ds_3 h.1 hz hN) (by decide)) (by decide))
    have hNd : (dpN p b xs n == 0) = true := by simpa using hN
    generalize dpQ p b xs n = DQ at *
    generalize dpN p b xs n = DN at *
    generalize dpQ 1000000 1 xs n = WQ at *
    generalize dpN 1000000 1 xs n = WN at *
    clear hz hok hN
    go_enter Try.func25, Try.ntmps25
    go_wp2_with fail
    generalize w.alloc (.cells #[.int .i64 0, .int .i64 0] 27) = w1 at B1 h1 R1 ⊢
    refine (l11Code_any p b a n c xs w1 h1 hn).mono ?_
    rintro e w2 ⟨rfl, b2⟩
    rw [HK.out]
    have R2 := R1.mono b2
    have B2 := belowCall B1 b2
    have h2 := h1.mono b2
    go_wp2_with fail
    refine (HDI.out _ h2).mono ?_
    rintro e w3 ⟨rfl, b3⟩
    have R3 := R2.mono b3
    have B3 := belowCall B2 b3
    have h3 := h2.mono b3
    go_wp2_with fail
    refine (HDJ.out _ h3).mono ?_
    rintro e w4 ⟨rfl, b4⟩
    have R4 := R3.mono b4
    have B4 := belowCall B3 b4
    obtain ⟨⟨hBl, r0, r1⟩, z0, z1⟩ := R4.parts
    go_wp2
    obtain ⟨t0, t1⟩ := R4.stored 0 0 rfl
    exact bodyPost_ret (v := .tuple #[.agg #[.int .i64 0, .int .i64 0], .int .i64 3]) (by simp [results, Try.results25, go_sem, t0, t1]) rfl ⟨FrP.mk HC.out, (B4.setCell (Nat.le_refl _) _).setCell (Nat.le_refl _) _⟩
  have hNd : (dpN p b xs n == 0) = false := by simpa using hN
  obtain ⟨hds, -⟩ := ds_0 h.1 hz hN
  by_cases hQ : dpQ 1000000 1 xs n = 0
  · have HC := Lib.hid (th_no (th_6 h.1 hds hQ) (by decide))
    have hQd : (dpQ 1000000 1 xs n == 0) = true := by simpa using hQ
    generalize dpQ p b xs n = DQ at *
    generalize dpN p b xs n = DN at *
    generalize dpQ 1000000 1 xs n = WQ at *
    generalize dpN 1000000 1 xs n = WN at *
    clear hz hok hN hQ hds
    go_enter Try.func25, Try.ntmps25
    go_wp2_with fail
    generalize w.alloc (.cells #[.int .i64 0, .int .i64 0] 27) = w1 at B1 h1 R1 ⊢
    refine (l11Code_any p b a n c xs w1 h1 hn).mono ?_
    rintro e w2 ⟨rfl, b2⟩
    rw [HK.out]
    have R2 := R1.mono b2
    have B2 := belowCall B1 b2
    have h2 := h1.mono b2
    go_wp2_with fail
    refine (HDI.out _ h2).mono ?_
    rintro e w3 ⟨rfl, b3⟩
    have R3 := R2.mono b3
    have B3 := belowCall B2 b3
    have h3 := h2.mono b3
    go_wp2_with fail
    refine (HDJ.out _ h3).mono ?_
    rintro e w4 ⟨rfl, b4⟩
    have R4 := R3.mono b4
    have B4 := belowCall B3 b4
    obtain ⟨⟨hBl, r0, r1⟩, z0, z1⟩ := R4.parts
    go_wp2
    obtain ⟨t0, t1⟩ := R4.stored 0 0 rfl
    exact bodyPost_ret (v := .tuple #[.agg #[.int .i64 0, .int .i64 0], .int .i64 6]) (by simp [results, Try.results25, go_sem, t0, t1]) rfl ⟨FrP.mk HC.out, (B4.setCell (Nat.le_refl _) _).setCell (Nat.le_refl _) _⟩
  · have hW := dpN_some h100 hQ
    have HC := Lib.hid (th_0 h.1 hds hQ)
    have hQd : (dpQ 1000000 1 xs n == 0) = false := by simpa using hQ
    obtain ⟨s1, s2⟩ := th_small ⟨m1, m2⟩ ⟨m3, m4⟩ ⟨k1, k2⟩ ⟨k3, k4⟩
    generalize dpQ p b xs n = DQ at *
    generalize dpN p b xs n = DN at *
    generalize dpQ 1000000 1 xs n = WQ at *
    generalize dpN 1000000 1 xs n = WN at *
    have s3 : 1 ≤ DN * WQ := by
      have := Int.mul_le_mul (show (1 : Int) ≤ DN by omega) (show (1 : Int) ≤ WQ by omega) (by omega) (by omega)
      omega
    have wr1 : IntKind.i64.wrap (DQ * WN) = DQ * WN := IntWalk.i64_in _ (by omega)
    have wr2 : IntKind.i64.wrap (DN * WQ) = DN * WQ := IntWalk.i64_in _ (by omega)
    obtain ⟨x, hx⟩ : ∃ x, lowN (DQ * WN) (DN * WQ) = x := ⟨_, rfl⟩
    obtain ⟨y, hy⟩ : ∃ x, lowD (DQ * WN) (DN * WQ) = x := ⟨_, rfl⟩
    have HL : ∀ W, Calls Try.prog 68 #[.int .i64 (DQ * WN), .int .i64 (DN * WQ)] W fun e w' => e = .returned (.agg #[.int .i64 x, .int .i64 y]) ∧ Below W.heap.size W w' := fun W => by rw [← hx, ← hy]; exact l02MakeW_any _ _ W (by omega) (by omega) (by omega) (by omega)
    rw [hx, hy] at HC
    clear hz hok hN hQ hds hx hy hW
    go_enter Try.func25, Try.ntmps25
    go_wp2_with fail
    generalize w.alloc (.cells #[.int .i64 0, .int .i64 0] 27) = w1 at B1 h1 R1 ⊢
    refine (l11Code_any p b a n c xs w1 h1 hn).mono ?_
    rintro e w2 ⟨rfl, b2⟩
    rw [HK.out]
    have R2 := R1.mono b2
    have B2 := belowCall B1 b2
    have h2 := h1.mono b2
    go_wp2_with fail
    refine (HDI.out _ h2).mono ?_
    rintro e w3 ⟨rfl, b3⟩
    have R3 := R2.mono b3
    have B3 := belowCall B2 b3
    have h3 := h2.mono b3
    go_wp2_with fail
    refine (HDJ.out _ h3).mono ?_
    rintro e w4 ⟨rfl, b4⟩
    have R4 := R3.mono b4
    have B4 := belowCall B3 b4
    go_wp2_with fail
    refine (HL _).mono ?_
    rintro e w5 ⟨rfl, b5⟩
    have R5 := R4.mono b5
    have B5 := belowCall B4 b5
    obtain ⟨⟨hBl, r0, r1⟩, z0, z1⟩ := R5.parts
    go_wp2
    obtain ⟨t0, t1⟩ := R5.stored x y rfl
    exact bodyPost_ret (v := .tuple #[.agg #[.int .i64 x, .int .i64 y], .int .i64 0]) (by simp [results, Try.results25, go_sem, t0, t1]) rfl ⟨FrP.mk HC.out, (B5.setCell (Nat.le_refl _) _).setCell (Nat.le_refl _) _⟩
end Go.Proofs.Ytcjipmpccmppiaa
