/- WorstMinimum, both sides. -/
import Derived.Test.YtbjflgohahmjgaaPH
import Derived.Test.YtbjflgohahmjgaaPG
import Derived.Test.YtbjflgohahmjgaaPI
import Derived.Test.YtbjflgohahmjgaaPJ
namespace Go.Proofs.Ytbjflgohahmjgaa
open Go.ChangeShapes Go.WideShapes Go.ChangeAt Go.RowKit Go.Deep

/-- the index of the first greatest one of the first k absolute values -/
def wst (f : Nat → Int) : Nat → Nat
  | 0 => 0
  | k + 1 => if (f (wst f k)).natAbs < (f k).natAbs then k else wst f k
theorem wst_lt (f : Nat → Int) : ∀ k, 0 < k → wst f k < k
  | 1, _ => by simp [wst]
  | k + 2, _ => by
    have := wst_lt f (k + 1) (by omega)
    rw [wst]
    split <;> omega
theorem wst_le (f : Nat → Int) (k : Nat) : wst f k ≤ k := by
  rcases Nat.eq_zero_or_pos k with rfl | h
  · simp [wst]
  · have := wst_lt f k h; omega
theorem wst_yes {f : Nat → Int} {k : Nat} (h : (f (wst f k)).natAbs < (f k).natAbs) : wst f (k + 1) = k := by rw [wst, if_pos h]
theorem wst_no {f : Nat → Int} {k : Nat} (h : ¬ (f (wst f k)).natAbs < (f k).natAbs) : wst f (k + 1) = wst f k := by rw [wst, if_neg h]
def rsF (e p : Int) (xs : List Mi) (k : Nat) : Int := rsd e p (xs[k]?.getD mi0)
/-- WorstMinimum's answer -/
def woA (xs : List Mi) (e p : Int) : Int := if okM xs && ephB e p then (if xs.length = 0 then 0 else (wst (rsF e p xs) xs.length : Nat)) else 0
def woC (xs : List Mi) (e p : Int) : Int := if okM xs && ephB e p then (if xs.length = 0 then 3 else 0) else 1
theorem wo_1 {xs : List Mi} {e p : Int} (h : (okM xs && ephB e p) = false) : woA xs e p = 0 ∧ woC xs e p = 1 := by simp [woA, woC, h]
theorem wo_3 {xs : List Mi} {e p : Int} {n : Nat} (hn : xs.length = n) (h : (okM xs && ephB e p) = true) (h2 : n = 0) : woA xs e p = 0 ∧ woC xs e p = 3 := by simp [woA, woC, h, hn, h2]
theorem wo_0 {xs : List Mi} {e p : Int} {n : Nat} (hn : xs.length = n) (h : (okM xs && ephB e p) = true) (h2 : ¬ n = 0) : woA xs e p = (wst (rsF e p xs) n : Nat) ∧ woC xs e p = 0 := by simp [woA, woC, h, hn, h2]
theorem qDw {P : Program} {f : FuncId} {args : Array Value} {w : World} {v : Value} (h : Calls P f args w fun e w' => e = .returned v ∧ w = w') : Calls P f args w fun e w' => e = .returned v ∧ w' = w :=
  h.mono fun _ _ hh => ⟨hh.1, hh.2.symm⟩
set_option maxRecDepth 100000 in
set_option maxHeartbeats 2000000 in
theorem iWor_any (a : Option Addr) (n c : Nat) (xs : List Mi) (e p : Int) (w : World) (h : MiL w a n xs) (hn : n ≤ 1048576) :
    Calls Try.prog 31 #[.slice a n c, .agg #[.int .i64 e, .int .i64 p]] w fun x w' => x = .returned (.tuple #[.int .i64 (woA xs e p), .int .i64 (woC xs e p)]) ∧ Below w.heap.size w w' := by
  have hbx := PtC.fresh w 45 e p
  have B1 : Below w.heap.size w (w.alloc (.cells #[.int .i64 e, .int .i64 p] 45)) := (Below.refl _ w).alloc (Nat.le_refl _) _
  cases hb : (okM xs && ephB e p)
  · have HD := Lib.hid (wo_1 hb)
    have HR := Lib.hid (rs_no hb)
    go_enter Try.func31, Try.ntmps31
    go_upto_region 1 with fail
    generalize w.alloc (.cells #[.int .i64 e, .int .i64 p] 45) = v at hbx B1 ⊢
    obtain ⟨-, k0, k1⟩ := hbx.parts
    rw [Nat.zero_add] at k1
    go_wp2_with fail
    refine (iRes_any a n c xs e p _ (h.mono (by (repeat (first | assumption | exact Below.refl _ _ | refine belowDN ?_ _ | refine Below.drew ?_ | refine Below.setCell ?_ (by first | omega | (simp <;> omega)) _ | refine Below.alloc ?_ (by first | omega | (simp <;> omega)) _ | refine belowCall ?_ (by assumption))))) hn).mono ?_
    rintro x w2 ⟨⟨la, lc, rfl, -⟩, b2⟩
    rw [HR.out.1, HR.out.2]
    go_wp2
    go_ret2
    exact ⟨by rw [HD.out.1, HD.out.2]; rfl, belowCall B1 b2⟩
  have HR := Lib.hid (rs_yes hb)
  obtain ⟨hok, he⟩ : okM xs = true ∧ ephB e p = true := by simpa using hb
  have HBD := Lib.hid (rs_bd h.1 hok he)
  have hn50 := (okM_num h.1 hok).1
  have HRL : Hid ((rsL e p xs).length = n) := Lib.hid ((rsL_len e p xs).trans h.1)
  have HRA := Lib.hid (fun k (hk : k < n) => rsL_at (e := e) (p := p) h.1 hk rfl)
  have HL := Lib.hid h.1
  have hl : (n : Int) ≤ 50 := by omega
  clear hok he
  by_cases hn0 : n = 0
  · have HD := Lib.hid (wo_3 HL.out hb hn0)
    subst hn0
    go_enter Try.func31, Try.ntmps31
    go_upto_region 1 with fail
    generalize w.alloc (.cells #[.int .i64 e, .int .i64 p] 45) = v at hbx B1 ⊢
    obtain ⟨-, k0, k1⟩ := hbx.parts
    rw [Nat.zero_add] at k1
    go_wp2_with fail
    refine (iRes_any a 0 c xs e p _ (h.mono (by (repeat (first | assumption | exact Below.refl _ _ | refine belowDN ?_ _ | refine Below.drew ?_ | refine Below.setCell ?_ (by first | omega | (simp <;> omega)) _ | refine Below.alloc ?_ (by first | omega | (simp <;> omega)) _ | refine belowCall ?_ (by assumption))))) hn).mono ?_
    rintro x w2 ⟨⟨la, lc, rfl, -⟩, b2⟩
    rw [HR.out.1, HR.out.2, HRL.out]
    go_wp2
    go_ret2
    exact ⟨by rw [HD.out.1, HD.out.2]; rfl, belowCall B1 b2⟩
  have HD := Lib.hid (wo_0 HL.out hb hn0)
  have hnz : ¬ (n : Int) = 0 := by omega
  have hnb : ((n : Int) == 0) = false := by simpa using hnz
  have HDS : ∀ (r : Int) (W : World), (-100000000000 ≤ r ∧ r ≤ 100000000000) → Calls Try.prog 56 #[.int .i64 r, .int .i64 0] W fun e w' => e = .returned (.int .i64 ((r.natAbs : Nat) : Int)) ∧ w' = W := fun r W hr => qDw (dstM_any r W (by omega) (by omega))
  go_enter Try.func31, Try.ntmps31
  go_upto_region 1 with fail
  generalize w.alloc (.cells #[.int .i64 e, .int .i64 p] 45) = v at hbx B1 ⊢
  obtain ⟨-, k0, k1⟩ := hbx.parts
  rw [Nat.zero_add] at k1
  go_wp2_with fail
  refine (iRes_any a n c xs e p _ (h.mono (by (repeat (first | assumption | exact Below.refl _ _ | refine belowDN ?_ _ | refine Below.drew ?_ | refine Below.setCell ?_ (by first | omega | (simp <;> omega)) _ | refine Below.alloc ?_ (by first | omega | (simp <;> omega)) _ | refine belowCall ?_ (by assumption))))) hn).mono ?_
  rintro x w2 ⟨⟨la, lc, rfl, hO⟩, b2⟩
  have hR := (hO 0).toL
  rw [HR.out.1] at hR ⊢
  rw [HR.out.2]
  rw [HRL.out] at hR ⊢
  have B2 := belowCall B1 b2
  clear hO
  go_wp2
  go_loopw [8, 25] (fun s i wr => ∃ k : Nat, k ≤ n ∧ i = .int .i64 k ∧ s = .int .i64 ((wst (rsF e p xs) k : Nat) : Int) ∧ Below w2.heap.size w2 wr) (fun _ i _ => n - (Go.RowKit.intOf i).toNat)
  case atStart => exact ⟨0, Nat.zero_le _, rfl, rfl, Below.refl _ _⟩
  case round =>
    obtain ⟨k, hk, rfl, rfl, hB⟩ := hrel
    by_cases hlt : k < n
    · obtain ⟨b1, o1, rfl, hb1, hc⟩ := hR.2 k hlt
      rw [HRA.out k hlt] at hc
      replace hc := (hB.cell (p := ⟨b1, o1 + k, none⟩) hb1).trans hc
      have hrb := HBD.out k hlt
      have hwl := wst_le (rsF e p xs) k
      have HWY := Lib.hid (wst_yes (f := rsF e p xs) (k := k))
      have HWN := Lib.hid (wst_no (f := rsF e p xs) (k := k))
      generalize wst (rsF e p xs) k = m at hwl HWY HWN ⊢
      have hm : m < n := by omega
      obtain ⟨b1', o1', he, -, hc'⟩ := hR.2 m hm
      cases he
      rw [HRA.out m hm] at hc'
      replace hc' := (hB.cell (p := ⟨b1, o1 + m, none⟩) hb1).trans hc'
      have hrb' := HBD.out m hm
      have hR1 : rsF e p xs k = rsd e p (xs[k]?.getD mi0) := rfl
      have hR2 : rsF e p xs m = rsd e p (xs[m]?.getD mi0) := rfl
      rw [hR1, hR2] at HWY HWN
      generalize rsd e p (xs[k]?.getD mi0) = R at hc hrb HWY HWN
      generalize rsd e p (xs[m]?.getD mi0) = T at hc' hrb' HWY HWN
      have hkk : (k : Int) < (n : Int) := by omega
      have hmm : (m : Int) < (n : Int) := by omega
      have hm0 : (0 : Int) ≤ (m : Int) := by omega
      clear hR1 hR2
      by_cases hgt : T.natAbs < R.natAbs
      · have HW := Lib.hid (HWY.out hgt)
        have hgd : decide (((T.natAbs : Nat) : Int) < ((R.natAbs : Nat) : Int)) = true := by simp; omega
        go_wp2
        (go_big_quiet (first | (go_at_call 56; refine Calls.quiet_of_same (qDw (dstM_any _ _ (by omega) (by omega))))))
        go_wp2
        go_roundw
        case rel => exact ⟨k + 1, by omega, by go_num, by rw [HW.out], belowDN hB _⟩
        case measure => simp [Go.RowKit.intOf]; omega
      · have HW := Lib.hid (HWN.out hgt)
        have hgd : decide (((T.natAbs : Nat) : Int) < ((R.natAbs : Nat) : Int)) = false := by simp; omega
        go_wp2
        (go_big_quiet (first | (go_at_call 56; refine Calls.quiet_of_same (qDw (dstM_any _ _ (by omega) (by omega))))))
        go_wp2
        go_roundw
        case rel => exact ⟨k + 1, by omega, by go_num, by rw [HW.out], belowDN hB _⟩
        case measure => simp [Go.RowKit.intOf]; omega
    · obtain rfl : k = n := by omega
      go_wp2
      go_ret2
      exact ⟨by rw [HD.out.1, HD.out.2]; rfl, belowCall B2 hB⟩
set_option maxRecDepth 100000 in
set_option maxHeartbeats 2000000 in
theorem sWor_any (a : Option Addr) (n c : Nat) (xs : List Mi) (e p : Int) (w : World) (h : MiL w a n xs) (hn : n ≤ 1048576) :
    Calls Try.prog 30 #[.slice a n c, .agg #[.int .i64 e, .int .i64 p]] w fun x w' => x = .returned (.tuple #[.int .i64 (woA xs e p), .int .i64 (woC xs e p)]) ∧ Below w.heap.size w w' := by
  have hbx := PtC.fresh w 45 e p
  have B1 : Below w.heap.size w (w.alloc (.cells #[.int .i64 e, .int .i64 p] 45)) := (Below.refl _ w).alloc (Nat.le_refl _) _
  cases hb : (okM xs && ephB e p)
  · have HD := Lib.hid (wo_1 hb)
    have HR := Lib.hid (rs_no hb)
    go_enter Try.func30, Try.ntmps30
    go_upto_region 1 with fail
    generalize w.alloc (.cells #[.int .i64 e, .int .i64 p] 45) = v at hbx B1 ⊢
    obtain ⟨-, k0, k1⟩ := hbx.parts
    rw [Nat.zero_add] at k1
    go_wp2_with fail
    refine (sRes_any a n c xs e p _ (h.mono (by (repeat (first | assumption | exact Below.refl _ _ | refine belowDN ?_ _ | refine Below.drew ?_ | refine Below.setCell ?_ (by first | omega | (simp <;> omega)) _ | refine Below.alloc ?_ (by first | omega | (simp <;> omega)) _ | refine belowCall ?_ (by assumption))))) hn).mono ?_
    rintro x w2 ⟨⟨la, lc, rfl, -⟩, b2⟩
    rw [HR.out.1, HR.out.2]
    go_wp2
    go_ret2
    exact ⟨by rw [HD.out.1, HD.out.2]; rfl, belowCall B1 b2⟩
  have HR := Lib.hid (rs_yes hb)
  obtain ⟨hok, he⟩ : okM xs = true ∧ ephB e p = true := by simpa using hb
  have HBD := Lib.hid (rs_bd h.1 hok he)
  have hn50 := (okM_num h.1 hok).1
  have HRL : Hid ((rsL e p xs).length = n) := Lib.hid ((rsL_len e p xs).trans h.1)
  have HRA := Lib.hid (fun k (hk : k < n) => rsL_at (e := e) (p := p) h.1 hk rfl)
  have HL := Lib.hid h.1
  have hl : (n : Int) ≤ 50 := by omega
  clear hok he
  by_cases hn0 : n = 0
  · have HD := Lib.hid (wo_3 HL.out hb hn0)
    subst hn0
    go_enter Try.func30, Try.ntmps30
    go_upto_region 1 with fail
    generalize w.alloc (.cells #[.int .i64 e, .int .i64 p] 45) = v at hbx B1 ⊢
    obtain ⟨-, k0, k1⟩ := hbx.parts
    rw [Nat.zero_add] at k1
    go_wp2_with fail
    refine (sRes_any a 0 c xs e p _ (h.mono (by (repeat (first | assumption | exact Below.refl _ _ | refine belowDN ?_ _ | refine Below.drew ?_ | refine Below.setCell ?_ (by first | omega | (simp <;> omega)) _ | refine Below.alloc ?_ (by first | omega | (simp <;> omega)) _ | refine belowCall ?_ (by assumption))))) hn).mono ?_
    rintro x w2 ⟨⟨la, lc, rfl, -⟩, b2⟩
    rw [HR.out.1, HR.out.2, HRL.out]
    go_wp2
    go_ret2
    exact ⟨by rw [HD.out.1, HD.out.2]; rfl, belowCall B1 b2⟩
  have HD := Lib.hid (wo_0 HL.out hb hn0)
  have hnz : ¬ (n : Int) = 0 := by omega
  have hnb : ((n : Int) == 0) = false := by simpa using hnz
  have HSZ : ∀ (r : Int) (W : World), (-100000000000 ≤ r ∧ r ≤ 100000000000) → Calls Try.prog 55 #[.int .i64 r] W fun e w' => e = .returned (.int .i64 ((r.natAbs : Nat) : Int)) ∧ w' = W := fun r W hr => qDw (l02Size_any r W (by omega) (by omega))
  go_enter Try.func30, Try.ntmps30
  go_upto_region 1 with fail
  generalize w.alloc (.cells #[.int .i64 e, .int .i64 p] 45) = v at hbx B1 ⊢
  obtain ⟨-, k0, k1⟩ := hbx.parts
  rw [Nat.zero_add] at k1
  go_wp2_with fail
  refine (sRes_any a n c xs e p _ (h.mono (by (repeat (first | assumption | exact Below.refl _ _ | refine belowDN ?_ _ | refine Below.drew ?_ | refine Below.setCell ?_ (by first | omega | (simp <;> omega)) _ | refine Below.alloc ?_ (by first | omega | (simp <;> omega)) _ | refine belowCall ?_ (by assumption))))) hn).mono ?_
  rintro x w2 ⟨⟨la, lc, rfl, hO⟩, b2⟩
  have hR := (hO 0).toL
  rw [HR.out.1] at hR ⊢
  rw [HR.out.2]
  rw [HRL.out] at hR ⊢
  have B2 := belowCall B1 b2
  clear hO
  go_wp2
  go_loopw [8, 9] (fun s i wr => ∃ k : Nat, 1 ≤ k ∧ k ≤ n ∧ i = .int .i64 k ∧ s = .int .i64 ((wst (rsF e p xs) k : Nat) : Int) ∧ Below w2.heap.size w2 wr) (fun _ i _ => n - (Go.RowKit.intOf i).toNat)
  case atStart => exact ⟨1, Nat.le_refl _, by omega, rfl, by simp [wst], Below.refl _ _⟩
  case round =>
    obtain ⟨k, hk1, hk, rfl, rfl, hB⟩ := hrel
    by_cases hlt : k < n
    · obtain ⟨b1, o1, rfl, hb1, hc⟩ := hR.2 k hlt
      rw [HRA.out k hlt] at hc
      replace hc := (hB.cell (p := ⟨b1, o1 + k, none⟩) hb1).trans hc
      have hrb := HBD.out k hlt
      have hwl := wst_le (rsF e p xs) k
      have HWY := Lib.hid (wst_yes (f := rsF e p xs) (k := k))
      have HWN := Lib.hid (wst_no (f := rsF e p xs) (k := k))
      generalize wst (rsF e p xs) k = m at hwl HWY HWN ⊢
      have hm : m < n := by omega
      obtain ⟨b1', o1', he, -, hc'⟩ := hR.2 m hm
      cases he
      rw [HRA.out m hm] at hc'
      replace hc' := (hB.cell (p := ⟨b1, o1 + m, none⟩) hb1).trans hc'
      have hrb' := HBD.out m hm
      have hR1 : rsF e p xs k = rsd e p (xs[k]?.getD mi0) := rfl
      have hR2 : rsF e p xs m = rsd e p (xs[m]?.getD mi0) := rfl
      rw [hR1, hR2] at HWY HWN
      generalize rsd e p (xs[k]?.getD mi0) = R at hc hrb HWY HWN
      generalize rsd e p (xs[m]?.getD mi0) = T at hc' hrb' HWY HWN
      have hkk : (k : Int) < (n : Int) := by omega
      have hmm : (m : Int) < (n : Int) := by omega
      have hm0 : (0 : Int) ≤ (m : Int) := by omega
      clear hR1 hR2
      by_cases hgt : T.natAbs < R.natAbs
      · have HW := Lib.hid (HWY.out hgt)
        have hgd : decide (((T.natAbs : Nat) : Int) < ((R.natAbs : Nat) : Int)) = true := by simp; omega
        go_wp2
        (go_big_quiet (first | (go_at_call 55; refine Calls.quiet_of_same (qDw (l02Size_any _ _ (by omega) (by omega))))))
        go_wp2
        go_roundw
        case rel => exact ⟨k + 1, by omega, by omega, by go_num, by rw [HW.out], belowDN hB _⟩
        case measure => simp [Go.RowKit.intOf]; omega
      · have HW := Lib.hid (HWN.out hgt)
        have hgd : decide (((T.natAbs : Nat) : Int) < ((R.natAbs : Nat) : Int)) = false := by simp; omega
        go_wp2
        (go_big_quiet (first | (go_at_call 55; refine Calls.quiet_of_same (qDw (l02Size_any _ _ (by omega) (by omega))))))
        go_wp2
        go_roundw
        case rel => exact ⟨k + 1, by omega, by omega, by go_num, by rw [HW.out], belowDN hB _⟩
        case measure => simp [Go.RowKit.intOf]; omega
    · obtain rfl : k = n := by omega
      go_wp2
      go_ret2
      exact ⟨by rw [HD.out.1, HD.out.2]; rfl, belowCall B2 hB⟩
end Go.Proofs.Ytbjflgohahmjgaa
