/- DispersionOf, WholeDispersion, ThetaOf, both sides. -/
import Derived.Test.YtcjipmpccmppiaaEG
namespace Go.Proofs.Ytcjipmpccmppiaa
open Go.ChangeShapes Go.WideShapes Go.ChangeAt Go.RowKit Go.Deep

theorem inQ_none {B : Nat → Nat} {m : Nat → Int} {i : Nat} : ∀ k, bCN B (B i) k = 0 → inQ B m i k = 0
  | 0, _ => rfl
  | k + 1, h => by
    have h0 := (bCN_bd B (B i) k).1
    by_cases e : B k = B i
    · rw [bCN_yes e] at h; omega
    · rw [bCN_no e] at h; rw [inQ_no e, inQ_none k h]
theorem outQ_none {B : Nat → Nat} {m : Nat → Int} : ∀ k, k ≤ 100 → outN B k = 0 → outQ B m k = 0
  | 0, _, _ => rfl
  | k + 1, hk, h => by
    have h0 := (outN_bd (B := B) k (by omega)).1
    have h1 := (bCN_bd B (B k) k).1
    have e : outN B (k + 1) = outN B k + bCN B (B k) k := rfl
    have e2 : outQ B m (k + 1) = outQ B m k + inQ B m k k := rfl
    rw [e2, outQ_none k (by omega) (by omega), inQ_none k (by omega)]; rfl
theorem bf_one {p q : Int} (hp : 1 ≤ p) (hq : 1 ≤ q) (xs : List Pt) : bf p 1 xs = bf q 1 xs := funext fun j => by
  have a := bf_lt hp (b := 1) (by omega) xs (K := 1) (by omega) j
  have b := bf_lt hq (b := 1) (by omega) xs (K := 1) (by omega) j
  omega
theorem dp_one {p : Int} (hp : 1 ≤ p) (xs : List Pt) (n : Nat) : dpQ p 1 xs n = dpQ 1000000 1 xs n ∧ dpN p 1 xs n = dpN 1000000 1 xs n := by
  unfold dpQ dpN
  rw [bf_one hp (q := 1000000) (by omega)]
  exact ⟨rfl, rfl⟩
set_option maxRecDepth 100000 in
set_option maxHeartbeats 1000000 in
theorem iDsp_any (a : Option Addr) (n c : Nat) (xs : List Pt) (p b : Int) (w : World) (h : PtL w a n xs) (hn : n ≤ 1048576) :
    Calls Try.prog 26 #[.slice a n c, .int .i64 p, .int .i64 b] w fun e w' => FrP (dsF xs p b) e ∧ Below w.heap.size w w' := by
  have B1 : Below w.heap.size w (w.alloc (.cells #[.int .i64 0, .int .i64 0] 27)) := (Below.refl _ w).alloc (Nat.le_refl _) _
  have h1 := h.mono B1
  have R1 := RF.fresh w 27
  by_cases hz : foC xs p b = 0
  rotate_left
  · obtain ⟨cc, hcc⟩ : ∃ cc, foC xs p b = cc := ⟨_, rfl⟩
    rw [hcc] at hz
    have HC := Lib.hid (dsF_no (ds_f hcc hz) hz)
    have HK := Lib.hid hcc
    have hzd : (cc != 0) = true := by simpa using hz
    clear hz hcc
    go_enter Try.func26, Try.ntmps26
    go_wp2_with fail
    generalize w.alloc (.cells #[.int .i64 0, .int .i64 0] 27) = w1 at B1 h1 R1 ⊢
    refine (chkF_any p b a n c xs w1 h1 hn).mono ?_
    rintro e w2 ⟨rfl, b2⟩
    rw [HK.out]
    have R := R1.mono b2
    have B2 := belowCall B1 b2
    obtain ⟨⟨hBl, q0, q1⟩, z0, z1⟩ := R.parts
    go_wp2
    obtain ⟨t0, t1⟩ := R.stored 0 0 rfl
    exact bodyPost_ret (v := .tuple #[.agg #[.int .i64 0, .int .i64 0], .int .i64 cc]) (by simp [results, Try.results26, go_sem, t0, t1]) rfl ⟨FrP.mk HC.out, (B2.setCell (Nat.le_refl _) _).setCell (Nat.le_refl _) _⟩
  obtain ⟨hok, ⟨p1, p2⟩, q1, q2⟩ := fo_parts hz
  have HK := Lib.hid hz
  have HDI := Lib.hid (fun (W : World) (hW : PtL W a n xs) => disp_any p b a n c xs W hW hok p1 p2 q1 q2)
  by_cases hN : dpN p b xs n = 0
  · have HC := Lib.hid (dsF_no (ds_3 h.1 hz hN) (by decide))
    have HF := Lib.hid (dpF_0 hN)
    clear hz hok hN
    go_enter Try.func26, Try.ntmps26
    go_wp2_with fail
    generalize w.alloc (.cells #[.int .i64 0, .int .i64 0] 27) = w1 at B1 h1 R1 ⊢
    refine (chkF_any p b a n c xs w1 h1 hn).mono ?_
    rintro e w2 ⟨rfl, b2⟩
    rw [HK.out]
    have R2 := R1.mono b2
    have B2 := belowCall B1 b2
    have h2 := h1.mono b2
    go_wp2_with fail
    refine (folded_any p b _).mono ?_
    rintro e w3 ⟨rfl, b3⟩
    have R3 := R2.mono b3
    have B3 := belowCall B2 b3
    have h3 := h2.mono b3
    go_wp2_with fail
    refine (HDI.out _ h3).mono ?_
    rintro e w4 ⟨rfl, b4⟩
    rw [HF.out]
    have R4 := R3.mono b4
    have B4 := belowCall B3 b4
    have b5 : Below w4.heap.size w4 (w4.alloc (.cells #[.int .i64 0, .int .i64 0] 27)) := (Below.refl _ _).alloc (Nat.le_refl _) _
    have R5 := R4.mono b5
    have B5 := belowCall B4 b5
    obtain ⟨⟨hBl, r0, r1⟩, z0, z1⟩ := R5.parts
    clear R4 b5
    go_wp2
    obtain ⟨t0, t1⟩ := R5.stored 0 0 rfl
    exact bodyPost_ret (v := .tuple #[.agg #[.int .i64 0, .int .i64 0], .int .i64 3]) (by simp [results, Try.results26, go_sem, t0, t1]) rfl ⟨FrP.mk HC.out, (B5.setCell (Nat.le_refl _) _).setCell (Nat.le_refl _) _⟩
  · obtain ⟨-, HC0⟩ := ds_0 h.1 hz hN
    have HC := Lib.hid HC0
    have HF := Lib.hid (dpF_1 hN)
    obtain ⟨⟨m1, m2⟩, m3, m4⟩ := dp_bd (p := p) (b := b) h.1 hok
    have hD := lowD_pos (a := dpQ p b xs n) (b := dpN p b xs n) (by omega)
    generalize lowN (dpQ p b xs n) (dpN p b xs n) = x at HC HF
    generalize lowD (dpQ p b xs n) (dpN p b xs n) = y at HC HF hD
    have hyz : (y == 0) = false := by simp; omega
    clear hz hok hN HC0
    go_enter Try.func26, Try.ntmps26
    go_wp2_with fail
    generalize w.alloc (.cells #[.int .i64 0, .int .i64 0] 27) = w1 at B1 h1 R1 ⊢
    refine (chkF_any p b a n c xs w1 h1 hn).mono ?_
    rintro e w2 ⟨rfl, b2⟩
    rw [HK.out]
    have R2 := R1.mono b2
    have B2 := belowCall B1 b2
    have h2 := h1.mono b2
    go_wp2_with fail
    refine (folded_any p b _).mono ?_
    rintro e w3 ⟨rfl, b3⟩
    have R3 := R2.mono b3
    have B3 := belowCall B2 b3
    have h3 := h2.mono b3
    go_wp2_with fail
    refine (HDI.out _ h3).mono ?_
    rintro e w4 ⟨rfl, b4⟩
    rw [HF.out]
    have R4 := R3.mono b4
    have B4 := belowCall B3 b4
    have b5 : Below w4.heap.size w4 (w4.alloc (.cells #[.int .i64 x, .int .i64 y] 27)) := (Below.refl _ _).alloc (Nat.le_refl _) _
    have R5 := R4.mono b5
    have B5 := belowCall B4 b5
    obtain ⟨⟨hBl, r0, r1⟩, z0, z1⟩ := R5.parts
    clear R4 b5
    cases hxz : (x == 0)
    all_goals
      go_wp2
      obtain ⟨t0, t1⟩ := R5.stored x y rfl
      exact bodyPost_ret (v := .tuple #[.agg #[.int .i64 x, .int .i64 y], .int .i64 0]) (by simp [results, Try.results26, go_sem, t0, t1]) rfl ⟨FrP.mk HC.out, (B5.setCell (Nat.le_refl _) _).setCell (Nat.le_refl _) _⟩
set_option maxRecDepth 100000 in
set_option maxHeartbeats 1000000 in
theorem sDsp_any (a : Option Addr) (n c : Nat) (xs : List Pt) (p b : Int) (w : World) (h : PtL w a n xs) (hn : n ≤ 1048576) :
    Calls Try.prog 55 #[.slice a n c, .int .i64 p, .int .i64 b] w fun e w' => FrP (dsF xs p b) e ∧ Below w.heap.size w w' := by
  have B1 : Below w.heap.size w (w.alloc (.cells #[.int .i64 0, .int .i64 0] 27)) := (Below.refl _ w).alloc (Nat.le_refl _) _
  have h1 := h.mono B1
  have R1 := RF.fresh w 27
  by_cases hz : foC xs p b = 0
  rotate_left
  · obtain ⟨cc, hcc⟩ : ∃ cc, foC xs p b = cc := ⟨_, rfl⟩
    rw [hcc] at hz
    have HC := Lib.hid (dsF_no (ds_f hcc hz) hz)
    have HK := Lib.hid hcc
    have hzd : (cc != 0) = true := by simpa using hz
    clear hz hcc
    go_enter Try.func55, Try.ntmps55
    go_wp2_with fail
    generalize w.alloc (.cells #[.int .i64 0, .int .i64 0] 27) = w1 at B1 h1 R1 ⊢
    refine (l11Code_any p b a n c xs w1 h1 hn).mono ?_
    rintro e w2 ⟨rfl, b2⟩
    rw [HK.out]
    have R := R1.mono b2
    have B2 := belowCall B1 b2
    obtain ⟨⟨hBl, q0, q1⟩, z0, z1⟩ := R.parts
    go_wp2
    obtain ⟨t0, t1⟩ := R.stored 0 0 rfl
    exact bodyPost_ret (v := .tuple #[.agg #[.int .i64 0, .int .i64 0], .int .i64 cc]) (by simp [results, Try.results55, go_sem, t0, t1]) rfl ⟨FrP.mk HC.out, (B2.setCell (Nat.le_refl _) _).setCell (Nat.le_refl _) _⟩
  obtain ⟨hok, ⟨p1, p2⟩, q1, q2⟩ := fo_parts hz
  have HK := Lib.hid hz
  obtain ⟨⟨m1, m2⟩, m3, m4⟩ := dp_bd (p := p) (b := b) h.1 hok
  have HDI := Lib.hid (fun (W : World) (hW : PtL W a n xs) => ins_any p b a n c xs W hW hok p1 p2 q1 q2)
  by_cases hN : dpN p b xs n = 0
  · have HC := Lib.hid (dsF_no (ds_3 h.1 hz hN) (by decide))
    obtain ⟨DN, hDN⟩ : ∃ x, dpN p b xs n = x := ⟨_, rfl⟩
    rw [hDN] at HDI hN
    have hNd : (DN == 0) = true := by simpa using hN
    clear hz hok hN hDN
    go_enter Try.func55, Try.ntmps55
    go_wp2_with fail
    generalize w.alloc (.cells #[.int .i64 0, .int .i64 0] 27) = w1 at B1 h1 R1 ⊢
    refine (l11Code_any p b a n c xs w1 h1 hn).mono ?_
    rintro e w2 ⟨rfl, b2⟩
    rw [HK.out]
    have R2 := R1.mono b2
    have B2 := belowCall B1 b2
    have h2 := h1.mono b2
    go_wp2_with fail
    refine (HDI.out _ h2).mono ?_
    rintro e w3 ⟨rfl, b3⟩
    have R3 := R2.mono b3
    have B3 := belowCall B2 b3
    obtain ⟨⟨hBl, r0, r1⟩, z0, z1⟩ := R3.parts
    go_wp2
    obtain ⟨t0, t1⟩ := R3.stored 0 0 rfl
    exact bodyPost_ret (v := .tuple #[.agg #[.int .i64 0, .int .i64 0], .int .i64 3]) (by simp [results, Try.results55, go_sem, t0, t1]) rfl ⟨FrP.mk HC.out, (B3.setCell (Nat.le_refl _) _).setCell (Nat.le_refl _) _⟩
  · obtain ⟨-, HC0⟩ := ds_0 h.1 hz hN
    have HC := Lib.hid HC0
    clear HC0
    generalize dpQ p b xs n = DQ at *
    generalize dpN p b xs n = DN at *
    have hNd : (DN == 0) = false := by simpa using hN
    have hpos : 1 ≤ DN := by omega
    obtain ⟨x, hx⟩ : ∃ x, lowN DQ DN = x := ⟨_, rfl⟩
    obtain ⟨y, hy⟩ : ∃ x, lowD DQ DN = x := ⟨_, rfl⟩
    have HL : ∀ W, Calls Try.prog 68 #[.int .i64 DQ, .int .i64 DN] W fun e w' => e = .returned (.agg #[.int .i64 x, .int .i64 y]) ∧ Below W.heap.size W w' := fun W => by rw [← hx, ← hy]; exact l02MakeW_any DQ DN W (by omega) (by omega) (by omega) (by omega)
    rw [hx, hy] at HC
    clear hz hok hN hx hy
    go_enter Try.func55, Try.ntmps55
    go_wp2_with fail
    generalize w.alloc (.cells #[.int .i64 0, .int .i64 0] 27) = w1 at B1 h1 R1 ⊢
    refine (l11Code_any p b a n c xs w1 h1 hn).mono ?_
    rintro e w2 ⟨rfl, b2⟩
    rw [HK.out]
    have R2 := R1.mono b2
    have B2 := belowCall B1 b2
    have h2 := h1.mono b2
    go_wp2_with fail
    refine (HDI.out _ h2).mono ?_
    rintro e w3 ⟨rfl, b3⟩
    have R3 := R2.mono b3
    have B3 := belowCall B2 b3
    go_wp2_with fail
    refine (HL _).mono ?_
    rintro e w4 ⟨rfl, b4⟩
    have R4 := R3.mono b4
    have B4 := belowCall B3 b4
    obtain ⟨⟨hBl, r0, r1⟩, z0, z1⟩ := R4.parts
    go_wp2
    obtain ⟨t0, t1⟩ := R4.stored x y rfl
    exact bodyPost_ret (v := .tuple #[.agg #[.int .i64 x, .int .i64 y], .int .i64 0]) (by simp [results, Try.results55, go_sem, t0, t1]) rfl ⟨FrP.mk HC.out, (B4.setCell (Nat.le_refl _) _).setCell (Nat.le_refl _) _⟩
theorem iWhl_any (a : Option Addr) (n c : Nat) (xs : List Pt) (w : World) (h : PtL w a n xs) (hn : n ≤ 1048576) :
    Calls Try.prog 21 #[.slice a n c] w fun e w' => FrP (dsF xs 1000000 1) e ∧ Below w.heap.size w w' := by
  have B1 : Below w.heap.size w (w.alloc (.cells #[.int .i64 0, .int .i64 0] 27)) := (Below.refl _ w).alloc (Nat.le_refl _) _
  have h1 := h.mono B1
  have R1 := RF.fresh w 27
  go_enter Try.func21, Try.ntmps21
  go_wp2_with fail
  generalize w.alloc (.cells #[.int .i64 0, .int .i64 0] 27) = w1 at B1 h1 R1 ⊢
  refine (iDsp_any a n c xs 1000000 1 w1 h1 hn).mono ?_
  rintro e w2 ⟨⟨x, y, cc, hv, rfl⟩, b2⟩
  have HC := Lib.hid hv
  have R2 := R1.mono b2
  have B2 := belowCall B1 b2
  obtain ⟨⟨hBl, r0, r1⟩, z0, z1⟩ := R2.parts
  clear hv
  go_wp2
  obtain ⟨t0, t1⟩ := R2.stored x y rfl
  exact bodyPost_ret (v := .tuple #[.agg #[.int .i64 x, .int .i64 y], .int .i64 cc]) (by simp [results, Try.results21, go_sem, t0, t1]) rfl ⟨FrP.mk HC.out, (B2.setCell (Nat.le_refl _) _).setCell (Nat.le_refl _) _⟩
end Go.Proofs.Ytcjipmpccmppiaa
