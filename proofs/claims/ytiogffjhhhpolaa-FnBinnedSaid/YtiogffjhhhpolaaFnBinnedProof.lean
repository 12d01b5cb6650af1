/- FnBinned: for every input the law returns true: bins are a light curve, one for each stretch of time with points; smoothing with no neighbours leaves a curve as it is and finds no outliers; ranges do not grow; the way is at least the range. -/
import Derived.Test.YtiogffjhhhpolaaB1
import Derived.Test.YtiogffjhhhpolaaKB
import Derived.Test.YtiogffjhhhpolaaKC
import Derived.Test.YtiogffjhhhpolaaKD
import Derived.Test.YtiogffjhhhpolaaJ2
import Derived.Test.YtiogffjhhhpolaaJ8
import Derived.Test.YtiogffjhhhpolaaGR
import Derived.ChangeOld
import Derived.Lib.SmallJoins
namespace Go.Proofs.Ytiogffjhhhpolaa.fnBinned
open Go.ChangeShapes Go.WideShapes Go.ChangeAt Go.RowKit
open Go.ChangeMaps (open_string shut_string)
set_option linter.unusedVariables false

theorem own : ownKnob Try.prog.godebug = none := by kernel_rfl
theorem laidOut : laidOutB Try.prog = true := by kernel_rfl
theorem cntW_le (wd : Int) (xs : List Pt) : ∀ k, cntW wd xs k ≤ k
  | 0 => Nat.le_refl _
  | k + 1 => by
    have := cntW_le wd xs k
    rw [cntW]
    split <;> omega
theorem cntW_yes {wd : Int} {xs : List Pt} {k : Nat} (h : k = 0 ∨ sameW wd (xs[k - 1]?.getD pt0) (xs[k]?.getD pt0) = false) : cntW wd xs (k + 1) = cntW wd xs k + 1 := by rw [cntW, if_pos h]
theorem cntW_no {wd : Int} {xs : List Pt} {k : Nat} (h0 : k ≠ 0) (h : sameW wd (xs[k - 1]?.getD pt0) (xs[k]?.getD pt0) = true) : cntW wd xs (k + 1) = cntW wd xs k := by rw [cntW, if_neg (by simp [h0, h])]; rfl
set_option maxRecDepth 100000 in
set_option maxHeartbeats 8000000 in

theorem walk (a0 : Option Addr) (len0 cap0 : Nat) (z0 : List Int) (a1 : Option Addr) (len1 cap1 : Nat) (z1 : List Int) (w : World) (w0 : IsRow .u8 w a0 len0 cap0 z0) (w1 : IsRow .u8 w a1 len1 cap1 z1) :
    Calls Try.prog 3 #[.slice a0 len0 cap0, .slice a1 len1 cap1] w fun e w' => e = .returned (.bool true) ∧ Below w.heap.size w w' := by
  have hb0 := LstB.of_row w0
  have hb1 := LstB.of_row w1
  clear w0 w1
  cases hlong : (decide (3000 < (len0 : Int)) || decide (3000 < (len1 : Int)))
  case true =>
    have HL := Lib.hid hlong
    clear hlong
    go_enter Try.func3, Try.ntmps3
    go_wp2_with fail
    refine (a2Long_any _ _ _ _ _ _ _).mono ?_
    rintro e w' ⟨rfl, rfl⟩
    rw [HL.out]
    go_wp2
    go_ret
    exact ⟨rfl, Below.refl _ _⟩
  have HL := Lib.hid hlong
  have hl0 : len0 ≤ 3000 := by simp at hlong; omega
  have hl1 : len1 ≤ 3000 := by simp at hlong; omega
  clear hlong
  go_enter Try.func3, Try.ntmps3
  go_wp2_with fail
  refine (a2Long_any _ _ _ _ _ _ _).mono ?_
  rintro e w' ⟨rfl, rfl⟩
  rw [HL.out]
  go_wp2_with fail
  refine (A2Curve_any a0 len0 cap0 w hb0 (by omega)).mono ?_
  rintro e w1 ⟨a, n, c, xs, rfl, hL1, hok, hn12, hnc, -, hB1⟩
  have hb1' := hb1.below hB1
  have HN := Lib.hid hL1.1
  have HOK := Lib.hid hok
  have hnn : (n : Int) ≤ 12 := by omega
  clear hb0 hb1 hok
  go_wp2_with fail
  refine (a2At_any _ a1 len1 cap1 0 256 w1 hb1' (by omega) (by decide) (by decide)).mono ?_
  rintro e w2 ⟨v, rfl, hv0, hv1, rfl⟩
  clear hb1'
  go_wp2_with fail
  obtain ⟨wd, hwd⟩ : ∃ wd, 1 + 50 * v = wd := ⟨_, rfl⟩
  have hw1 : 1 ≤ wd := by omega
  have hw2 : wd ≤ 20000 := by omega
  rw [hwd]
  clear hwd hv0 hv1
  have HBI := Lib.hid (bi_0 (wd := wd) HOK.out (by rw [widB, inB_iff]; omega))
  have HS0 : Hid (smC xs 0 = 0 ∧ smL xs 0 = xs) := Lib.hid (by have h := sm_0 (s := 0) HN.out HOK.out (by decide); rw [smP_zero HN.out] at h; exact h)
  have HS2 : Hid (smC xs 2 = 0 ∧ smL xs 2 = smP xs 2 n) := Lib.hid (by have h := sm_0 (s := 2) HN.out HOK.out (by decide); exact h)
  have HOU : Hid (ouC xs 0 1 = 0 ∧ ouL xs 0 1 = []) := Lib.hid (by have h := ou_0 (s := 0) (b := 1) HN.out HOK.out (by decide) (by decide); rw [ouP_none HN.out] at h; exact h)
  have HCV := Lib.hid (cvC_yes HOK.out)
  obtain ⟨f1, f2, f3⟩ := am_bins HN.out HOK.out hw1
  have HCN := Lib.hid (cntW_len wd _ xs (Nat.le_refl _))
  have HB1 := Lib.hid f1
  have HB3 := Lib.hid f3
  have HSM := Lib.hid (smP_ok (s := 2) HN.out HOK.out)
  clear f1 f3
  refine (iBin_any (some ⟨a, 0, none⟩) n c xs wd w1 hL1 (by omega) hnc).mono ?_
  rintro e w2 ⟨⟨ba, bc, rfl, hO⟩, b2⟩
  rw [HBI.out.1]
  have hBL := (hO 1).toL
  rw [HBI.out.2] at hBL ⊢
  clear hO HBI
  generalize binsF wd xs = B at HCN f2 HB1 HB3 hBL ⊢
  obtain ⟨m, hm⟩ : ∃ m, B.length = m := ⟨_, rfl⟩
  rw [hm] at f2 hBL ⊢
  have HM := Lib.hid hm
  clear hm
  have hmm : (m : Int) ≤ (n : Int) := by omega
  have C2 := belowCall hB1 b2
  have hL2 := hL1.mono b2
  clear hL1
  go_wp2_with fail
  refine (iSmooth_any (some ⟨a, 0, none⟩) n c xs 0 w2 hL2 (by omega)).mono ?_
  rintro e w3 ⟨⟨sa, sc, rfl, hO⟩, b3⟩
  rw [HS0.out.1]
  have hSL := (hO 1).toL
  rw [HS0.out.2, HN.out] at hSL ⊢
  clear hO HS0
  have C3 := belowCall C2 b3
  have hL3 := hL2.mono b3
  have hBL3 := hBL.mono b3
  clear hL2 hBL
  go_wp2_with fail
  refine (iSmooth_any (some ⟨a, 0, none⟩) n c xs 2 w3 hL3 (by omega)).mono ?_
  rintro e w4 ⟨⟨ta, tc, rfl, hO⟩, b4⟩
  rw [HS2.out.1]
  have hTL := (hO 1).toL
  rw [HS2.out.2, smP_len] at hTL ⊢
  clear hO HS2
  have C4 := belowCall C3 b4
  have hL4 := hL3.mono b4
  have hBL4 := hBL3.mono b4
  have hSL4 := hSL.mono b4
  clear hL3 hBL3 hSL
  go_wp2_with fail
  refine (iOut_any (some ⟨a, 0, none⟩) n c xs 0 1 w4 hL4 (by omega)).mono ?_
  rintro e w5 ⟨⟨oa, oc, rfl, -⟩, b5⟩
  rw [HOU.out.1, HOU.out.2]
  clear HOU
  have C5 := belowCall C4 b5
  have hL5 := hL4.mono b5
  have hBL5 := hBL4.mono b5
  have hSL5 := hSL4.mono b5
  have hTL5 := hTL.mono b5
  clear hL4 hBL4 hSL4 hTL
  go_wp2_with fail
  refine (iPath_any (some ⟨a, 0, none⟩) n c xs w5 hL5 (by omega)).mono ?_
  rintro e w6 ⟨rfl, b6⟩
  rw [HCV.out]
  have C6 := belowCall C5 b6
  have hL6 := hL5.mono b6
  have hBL6 := hBL5.mono b6
  have hSL6 := hSL5.mono b6
  have hTL6 := hTL5.mono b6
  clear hL5 hBL5 hSL5 hTL5 HCV
  have hnm1 : decide (n < m) = false := by simp; omega
  have hnm2 : decide ((n : Int) < (m : Int)) = false := by simp; omega
  have hnm3 : ¬ n < m := by omega
  have hnm4 : ¬ (n : Int) < (m : Int) := by omega
  have HSX : Hid (samePt xs xs = true) := Lib.hid (by simp [samePt])
  go_wp2_with fail
  refine (sValidCv_any ba m bc B w6 hBL6 (by omega)).mono ?_
  rintro e w7 ⟨rfl, b7⟩
  rw [HB1.out]
  go_wp2_with fail
  refine (iValidCv_any ba m bc B w7 (hBL6.mono b7) (by omega)).mono ?_
  rintro e w8 ⟨rfl, b8⟩
  rw [HB1.out]
  have c8 := belowCall b7 b8
  go_wp2_with fail
  refine (sSamePt_any sa (some ⟨a, 0, none⟩) n n sc c xs xs w8 (hSL6.mono c8) (hL6.mono c8) (by omega) (by omega)).mono ?_
  rintro e w9 ⟨rfl, b9⟩
  rw [HSX.out]
  have c9 := belowCall c8 b9
  go_wp2_with fail
  refine (iSamePt_any sa (some ⟨a, 0, none⟩) n n sc c xs xs w9 (hSL6.mono c9) (hL6.mono c9) (by omega) (by omega)).mono ?_
  rintro e w10 ⟨rfl, b10⟩
  rw [HSX.out]
  have c10 := belowCall c9 b10
  have C10 := belowCall C6 c10
  have hL10 := hL6.mono c10
  have hBL10 := hBL6.mono c10
  have hTL10 := hTL6.mono c10
  clear hL6 hBL6 hSL6 hTL6 b7 b8 b9 b10 c8 c9 c10 HSX
  obtain ⟨-, hbd, -⟩ := okP_num HN.out HOK.out
  have HBD := Lib.hid hbd
  clear hbd
  go_wp2_with fail
  go_loopw [17, 18] (fun at' i wi => ∃ k : Nat, k ≤ n ∧ at' = .int .i64 ((cntW wd xs k : Nat) : Int) ∧ i = .int .i64 (k : Int) ∧ Below w.heap.size w wi ∧ Below w10.heap.size w10 wi) (fun _ i _ => n - (Go.RowKit.intOf i).toNat)
  case atStart => exact ⟨0, Nat.zero_le _, rfl, rfl, C10, Below.refl _ _⟩
  case round =>
    obtain ⟨k, hk, rfl, rfl, hB, hBr⟩ := hrel
    by_cases hlt : k < n
    · have hkk : (k : Int) < (n : Int) := by omega
      obtain ⟨⟨y0, y1⟩, hy⟩ : ∃ x, xs[k]?.getD pt0 = x := ⟨_, rfl⟩
      have HY := Lib.hid hy
      have hby := HBD.out k hlt
      rw [hy] at hby
      obtain ⟨q0, -⟩ := (hL10.mono hBr).get hlt hy
      have hcl := cntW_le wd xs k
      obtain ⟨N, hN⟩ : ∃ N, cntW wd xs k = N := ⟨_, rfl⟩
      have HNN := Lib.hid hN
      rw [hN] at hcl ⊢
      have hN12 : (N : Int) ≤ 12 := by omega
      clear hy hN
      by_cases hk0 : k = 0
      · subst hk0
        have HS := Lib.hid (cntW_yes (wd := wd) (xs := xs) (k := 0) (.inl rfl))
        simp only [Nat.zero_mul] at q0
        go_wp2
        go_big_quiet (fail)
        go_wp2
        go_roundw
        case rel => exact ⟨0 + 1, by omega, by rw [HS.out, HNN.out]; go_num, by go_num, belowDN hB _, belowDN hBr _⟩
        case measure => simp [Go.RowKit.intOf]; omega
      · obtain ⟨k', rfl⟩ : ∃ k', k = k' + 1 := ⟨k - 1, by omega⟩
        obtain ⟨⟨x0, x1⟩, hx⟩ : ∃ x, xs[k']?.getD pt0 = x := ⟨_, rfl⟩
        have HX := Lib.hid hx
        have hbx := HBD.out k' (by omega)
        rw [hx] at hbx
        obtain ⟨p0, -⟩ := (hL10.mono hBr).get (show k' < n by omega) hx
        have hki : (k' : Int) < (n : Int) := by omega
        have hkz : ((k' : Int) + 1 == 0) = false := by simp; omega
        have hqx := tdiv_bd x0 wd 10000000 (by omega) (by omega)
        have hqy := tdiv_bd y0 wd 10000000 (by omega) (by omega)
        clear hx hk0
        cases hsame : (y0.tdiv wd == x0.tdiv wd)
        · have HS := Lib.hid (cntW_yes (wd := wd) (xs := xs) (k := k' + 1) (.inr (by rw [Nat.add_sub_cancel, HX.out, HY.out]; exact hsame)))
          have hne : (y0.tdiv wd != x0.tdiv wd) = true := by simp [bne, hsame]
          go_wp2
          go_big_quiet (fail)
          go_wp2
          go_roundw
          case rel => exact ⟨k' + 1 + 1, by omega, by rw [HS.out, HNN.out]; go_num, by go_num, belowDN hB _, belowDN hBr _⟩
          case measure => simp [Go.RowKit.intOf]; omega
        · have HS := Lib.hid (cntW_no (wd := wd) (xs := xs) (k := k' + 1) (by omega) (by rw [Nat.add_sub_cancel, HX.out, HY.out]; exact hsame))
          have hne : (y0.tdiv wd != x0.tdiv wd) = false := by simp [bne, hsame]
          go_wp2
          go_big_quiet (fail)
          go_wp2
          go_roundw
          case rel => exact ⟨k' + 1 + 1, by omega, by rw [HS.out, HNN.out], by go_num, belowDN hB _, belowDN hBr _⟩
          case measure => simp [Go.RowKit.intOf]; omega
    · obtain rfl : k = n := by omega
      have HC := Lib.hid (show cntW wd xs k = m by have h := HCN.out; rw [HN.out, HM.out] at h; exact h)
      rw [HC.out]
      by_cases hn0 : k = 0
      · subst hn0
        have HP0 : Hid (paA xs = 0) := Lib.hid (by rw [paA_yes HN.out HOK.out]; rfl)
        rw [HP0.out]
        go_wp2
        go_ret
        exact ⟨rfl, hB⟩
      · have h0 : 0 < k := by omega
        obtain ⟨g1, g2⟩ := HB3.out h0
        have HA1 := Lib.hid (am_0 HN.out HOK.out h0).1
        have HA2 := Lib.hid (am_0 (smP_len xs 2 k) HSM.out h0).1
        have HA3 := Lib.hid (am_0 rfl HB1.out g1).1
        have g3 := am_smooth (s := 2) HN.out HOK.out h0
        have g4 := path_am HN.out HOK.out h0
        have hkz : ((k : Int) == 0) = false := by simp; omega
        go_wp2_with fail
        refine (iAmpl_any (some ⟨a, 0, none⟩) k c xs wr (hL10.mono hBr) (by omega)).mono ?_
        rintro e w11 ⟨rfl, b11⟩
        rw [HA1.out]
        go_wp2_with fail
        refine (sAmpl_any ta k tc (smP xs 2 k) w11 ((hTL10.mono hBr).mono b11) (by omega)).mono ?_
        rintro e w12 ⟨rfl, b12⟩
        rw [HA2.out]
        go_wp2_with fail
        refine (sAmpl_any ba m bc B w12 (((hBL10.mono hBr).mono b11).mono b12) (by omega)).mono ?_
        rintro e w13 ⟨rfl, b13⟩
        rw [HA3.out]
        have B13 := belowCall (belowCall (belowCall hB b11) b12) b13
        go_wp2
        go_ret
        exact ⟨rfl, B13⟩

set_option maxRecDepth 100000 in
theorem lifted (os : Os) (started : os.Started) (H : Type) (enc : TypeId × Value → H) :
    ReturnsInHanded {} Try.checked os 3 .any (Rows.fnBinnedSpec.pre6 enc Try.prog Try.f3 Rows.fnBinnedRow.domain false) (Rows.fnBinnedSpec.post enc Try.prog Try.f3 false true false false) := by
  refine returnsInHanded_of_change (C := Try.checked) own started (by kernel_rfl) Try.func3
    (ChangeSpec.witness6 (enc := enc) (C := Try.checked) false ⟨#[], #[.slice none 0 0, .slice none 0 0], []⟩ 8 (by kernel_rfl) (by kernel_rfl) (by kernel_rfl) (by kernel_rfl)) ?_
  intro W base args ds gs before hval0 hW hcnd _
  have hval : ∀ (j : Nat) t v, Try.f3.params[j]? = some t → args[j]? = some v → Value.okWide Try.prog W .any base t v := hval0
  have hW' := hW
  obtain ⟨p, q, hA0, hV, rfl, hfz, hnd⟩ := hW
  have hA : DataW.TrodAll enc Try.prog W 0 (fun _ => true) true Try.f3.params.toList args.toList ds p := hA0
  rw [Try.params3] at hA hval
  obtain ⟨v0, vs0, d0, ds0, p0, q0, hargs, rfl, rfl, h0, r0⟩ := trodAll_cons hA
  obtain ⟨v1, vs1, d1, ds1, p1, q1, rfl, rfl, rfl, h1, r1⟩ := trodAll_cons r0
  obtain ⟨rfl, rfl, rfl⟩ := trodAll_nil r1
  obtain rfl : args = #[v0, v1] := by cases args; simp_all
  obtain ⟨rfl, rfl⟩ := trodVars_none hV
  have k0 := h0
  have lt0 : ∀ x ∈ p0, x.block < W.heap.size := by obtain ⟨m, hm⟩ := k0; exact DataW.trod_lt m _ _ _ hm
  obtain ⟨a0, len0, cap0, rfl⟩ := okWide_slice Try.underlying22 (hval 0 22 v0 rfl rfl)
  obtain ⟨z0, w0⟩ : ∃ zs, IsRow .u8 W a0 len0 cap0 zs := by
    obtain ⟨fuel, hf⟩ := h0
    rcases open_ints Try.underlying22 Try.underlying5 (by kernel_rfl) hf with ⟨hcs, _⟩ | ⟨x, l, c, zs, hcs, _, hl, hm, hz, _, hcell, hwz⟩
    · simp [Value.cells] at hcs
      obtain ⟨rfl, rfl, rfl⟩ := hcs
      exact ⟨[], .inl ⟨rfl, rfl, rfl, rfl⟩⟩
    · simp [Value.cells] at hcs
      obtain ⟨rfl, rfl, rfl⟩ := hcs
      exact ⟨zs, .inr ⟨_, rfl, hl, hm, by simpa using hz, hcell, hwz⟩⟩
  have k1 := h1
  have lt1 : ∀ x ∈ p1, x.block < W.heap.size := by obtain ⟨m, hm⟩ := k1; exact DataW.trod_lt m _ _ _ hm
  obtain ⟨a1, len1, cap1, rfl⟩ := okWide_slice Try.underlying22 (hval 1 22 v1 rfl rfl)
  obtain ⟨z1, w1⟩ : ∃ zs, IsRow .u8 W a1 len1 cap1 zs := by
    obtain ⟨fuel, hf⟩ := h1
    rcases open_ints Try.underlying22 Try.underlying5 (by kernel_rfl) hf with ⟨hcs, _⟩ | ⟨x, l, c, zs, hcs, _, hl, hm, hz, _, hcell, hwz⟩
    · simp [Value.cells] at hcs
      obtain ⟨rfl, rfl, rfl⟩ := hcs
      exact ⟨[], .inl ⟨rfl, rfl, rfl, rfl⟩⟩
    · simp [Value.cells] at hcs
      obtain ⟨rfl, rfl, rfl⟩ := hcs
      exact ⟨zs, .inr ⟨_, rfl, hl, hm, by simpa using hz, hcell, hwz⟩⟩
  clear hA0 hval0
  refine (walk a0 len0 cap0 z0 a1 len1 cap1 z1 W w0 w1).mono fun e W' ⟨he, bel⟩ => ?_
  subst he
  exact ⟨_, rfl, _, _, _, [], _, [], hW', trodAll_mk1 (shut_bool Try.underlying4 _), (trodAll_cons_mk (Below.trod laidOut (by kernel_rfl) (of_decide_eq_true (by kernel_rfl)) k0 bel lt0) (trodAll_cons_mk (Below.trod laidOut (by kernel_rfl) (of_decide_eq_true (by kernel_rfl)) k1 bel lt1) trodAll_mk0)), rfl, bel.frame _, fun h => by cases h⟩

theorem over : Rows.fnBinnedRow.holds Try.pinned (OpenSpec.ofChange Rows.fnBinnedSpec) :=
  OpenClaim.holds_of_wide 3 Try.f3 rfl rfl rfl rfl rfl rfl rfl ⟨rfl, rfl, rfl, rfl, rfl⟩ rfl rfl rfl rfl rfl (by kernel_rfl) Try.func3 (by kernel_rfl)
    (of_decide_eq_true (by kernel_rfl)) (by unfold Func.isWrapper; first | (rw [if_pos (by decide +kernel)]; kernel_rfl) | (rw [if_neg (by decide +kernel)]; exact ⟨rfl, rfl⟩))
    (fun os started H enc _ => lifted os started H enc)

theorem proved : Rows.FnBinnedSaid := over
#print axioms proved
end Go.Proofs.Ytiogffjhhhpolaa.fnBinned
