/- FnCurves: for every input the law returns true: the light curve of a star is one, has a point at the time of each of its estimates that are not fainter, and no more points than there are estimates. -/
import Derived.Test.YtiogffjhhhpolaaB1
import Derived.Test.YtiogffjhhhpolaaKF
import Derived.Test.YtiogffjhhhpolaaK6
import Derived.ChangeOld
import Derived.Lib.SmallJoins
namespace Go.Proofs.Ytiogffjhhhpolaa.fnCurves
open Go.ChangeShapes Go.WideShapes Go.ChangeAt Go.RowKit
open Go.ChangeMaps (open_string shut_string)
set_option linter.unusedVariables false

theorem own : ownKnob Try.prog.godebug = none := by kernel_rfl
theorem laidOut : laidOutB Try.prog = true := by kernel_rfl
theorem cInc {C : List Pt} {m : Nat} (h : ∀ k, k + 1 < m → (C[k]?.getD pt0).1 < (C[k + 1]?.getD pt0).1) : ∀ (d i : Nat), i + d + 1 < m → (C[i]?.getD pt0).1 < (C[i + d + 1]?.getD pt0).1
  | 0, i, hi => h i hi
  | d + 1, i, hi => Int.lt_trans (cInc h d i (by omega)) (h (i + d + 1) hi)
theorem cLeast {C : List Pt} {m kk : Nat} {x0 : Int} (h : ∀ k, k + 1 < m → (C[k]?.getD pt0).1 < (C[k + 1]?.getD pt0).1) (hk : kk < m) (hx : (C[kk]?.getD pt0).1 = x0) (q : Nat) (hq : x0 ≤ (C[q]?.getD pt0).1) : kk ≤ q := by
  by_cases hlt : q < kk
  · have := cInc h (kk - q - 1) q (by omega)
    rw [show q + (kk - q - 1) + 1 = kk from by omega] at this
    omega
  · omega
theorem mira_name : nameB ⟨#[109, 105, 114, 97]⟩ = true := by decide
set_option maxRecDepth 100000 in
set_option maxHeartbeats 8000000 in

theorem walk (a0 : Option Addr) (len0 cap0 : Nat) (z0 : List Int) (w : World) (w0 : IsRow .u8 w a0 len0 cap0 z0) :
    Calls Try.prog 6 #[.slice a0 len0 cap0] w fun e w' => e = .returned (.bool true) ∧ Below w.heap.size w w' := by
  have hb0 := LstB.of_row w0
  clear w0
  cases hlong : (decide (3000 < (len0 : Int)) || decide (3000 < ((0 : Nat) : Int)))
  case true =>
    have HL := Lib.hid hlong
    clear hlong
    go_enter Try.func6, Try.ntmps6
    go_wp2_with fail
    refine (a2Long_any _ _ _ _ _ _ _).mono ?_
    rintro e w' ⟨rfl, rfl⟩
    rw [HL.out]
    go_wp2
    go_ret
    exact ⟨rfl, Below.refl _ _⟩
  have HL := Lib.hid hlong
  have hl0 : len0 ≤ 3000 := by simp at hlong; omega
  clear hlong
  go_enter Try.func6, Try.ntmps6
  go_wp2_with fail
  refine (a2Long_any _ _ _ _ _ _ _).mono ?_
  rintro e w' ⟨rfl, rfl⟩
  rw [HL.out]
  go_wp2_with fail
  refine (A2Estimates_any a0 len0 cap0 w hb0 (by omega)).mono ?_
  rintro e w1 ⟨a, n, c, xs, rfl, hL1, hok, hn12, hB1⟩
  clear hb0
  have HN := Lib.hid hL1.1
  have HOK := Lib.hid hok
  obtain ⟨s, hs⟩ : ∃ s : ByteArray, (⟨#[109, 105, 114, 97]⟩ : ByteArray) = s := ⟨_, rfl⟩
  have hnm : nameB s = true := by rw [← hs]; exact mira_name
  have HC := Lib.hid (co_0 hok hnm)
  obtain ⟨f1, f2, f3⟩ := curve_facts HN.out hok s
  have HLE := Lib.hid (fun a b (h1 : a ≤ b) (h2 : b < n) => okE_le HN.out HOK.out b a h1 h2)
  have hnn : (n : Int) ≤ 12 := by omega
  clear hok
  go_wp2_with fail
  (try rw [hs])
  refine (iCurveOf_any (some ⟨a, 0, none⟩) n c xs s w1 hL1 (by omega)).mono ?_
  rintro e w2 ⟨⟨ca, cc, rfl, hO⟩, b2⟩
  rw [HC.out.1]
  have hC2 := (hO 1).toL
  rw [HC.out.2] at hC2 ⊢
  clear hO HC
  generalize binsF 1 (ptsE s xs) = C at f1 f2 f3 hC2 ⊢
  obtain ⟨m, hm⟩ : ∃ m, C.length = m := ⟨_, rfl⟩
  rw [hm] at f2 f3 hC2 ⊢
  have HM := Lib.hid hm
  obtain ⟨m100, hCB, hCI⟩ := okP_num hm f1
  have HCI := Lib.hid hCI
  have HOKC := Lib.hid f1
  have HF3 := Lib.hid f3
  have hL2 := hL1.mono b2
  have B2 := belowCall hB1 b2
  have hmm : (m : Int) ≤ (n : Int) := by omega
  clear f1 f3 hCB hCI hm hL1
  go_wp2_with (go_at_call 22; refine (sValidCv_any ca m cc C _ hC2 (by omega)).mono ?_; rintro e w3 ⟨rfl, b3⟩; rw [HOKC.out])
  have B3 := belowCall B2 b3
  go_wp2
  go_loopw [6, 7] (fun at' i wi => ∃ k p : Nat, k ≤ n ∧ p ≤ m ∧ at' = .int .i64 (p : Int) ∧ i = .int .i64 (k : Int) ∧ (∀ j, j < p → ∀ k', k ≤ k' → k' < n → (C[j]?.getD pt0).1 < (xs[k']?.getD es0).1) ∧ Below w.heap.size w wi ∧ Below w2.heap.size w2 wi) (fun _ i _ => n - (Go.RowKit.intOf i).toNat)
  case atStart => exact ⟨0, 0, by omega, by omega, rfl, rfl, fun j hj => by omega, B3, b3⟩
  case round =>
    obtain ⟨k, p, hk, hp, rfl, rfl, hbefore, hB, hBr⟩ := hrel
    have HBF := Lib.hid hbefore
    clear hbefore
    have hLr := hL2.mono hBr
    have hCr := hC2.mono hBr
    by_cases hkn : k < n
    · have hki : (k : Int) < (n : Int) := by omega
      obtain ⟨⟨x0, x1, x2, x3, x4⟩, hx⟩ : ∃ x, xs[k]?.getD es0 = x := ⟨_, rfl⟩
      have HX := Lib.hid hx
      obtain ⟨b, o, he, hE⟩ := hLr.2 k hkn
      cases he
      rw [hx] at hE
      obtain ⟨hXb, c0, c1, c2, c3, c4⟩ := hE.parts
      (try simp only [Nat.zero_add] at c0 c1 c2 c3 c4)
      clear hx hE
      go_wp2_with fail
      all_goals first
        | exact ⟨⟨k + 1, p, by omega, hp, rfl, by go_num, fun j hj k' h1 h2 => HBF.out j hj k' (by omega) h2, hB, hBr⟩, by simp [Go.RowKit.intOf]; omega⟩
        | skip
      rename_i hx1 hx4 _ _
      subst hx4
      obtain ⟨kk, hkk, hek⟩ := HF3.out k hkn (by rw [HX.out]; simp [pSeen, hx1])
      rw [HX.out] at hek
      simp only at hek
      have hpk : p ≤ kk := by
        by_cases hh : kk < p
        · have := HBF.out kk hh k (Nat.le_refl k) hkn
          rw [HX.out] at this
          simp only at this
          omega
        · omega
      have HLQ := Lib.hid (cLeast HCI.out hkk hek)
      have HEK := Lib.hid hek
      have hst : ∀ j, j < p → (C[j]?.getD pt0).1 < x0 := fun j hj => by
        have := HBF.out j hj k (Nat.le_refl k) hkn
        rw [HX.out] at this
        exact this
      have HST := Lib.hid hst
      clear hst hek c0 c1 c2 c3 c4 hx1 hLr hCr
      obtain ⟨cb, co, rfl, -⟩ := hC2.2 kk hkk
      go_loopw [6] (fun at' wi => ∃ q : Nat, q ≤ kk ∧ at' = .int .i64 (q : Int) ∧ (∀ j, j < q → (C[j]?.getD pt0).1 < x0) ∧ Below w.heap.size w wi ∧ Below w2.heap.size w2 wi) (fun at' _ => m - (Go.RowKit.intOf at').toNat)
      case atStart => exact ⟨p, hpk, rfl, HST.out, hB, hBr⟩
      case round =>
        obtain ⟨q, hq, rfl, hlt, hB', hBr'⟩ := hrel
        have HLT := Lib.hid hlt
        clear hlt
        have hqm : (q : Int) < (m : Int) := by omega
        have hqm' : q < m := by omega
        obtain ⟨⟨t0, t1⟩, ht⟩ : ∃ t, C[q]?.getD pt0 = t := ⟨_, rfl⟩
        have HT := Lib.hid ht
        obtain ⟨_, _, he, hc⟩ := (hC2.mono hBr').2 q hqm'
        cases he
        rw [ht] at hc
        obtain ⟨hcb, t0c, t1c⟩ := hc.parts
        obtain ⟨_, _, he, hc'⟩ := (hL2.mono hBr').2 k hkn
        cases he
        rw [HX.out] at hc'
        obtain ⟨hXb', c0, c1, c2, c3, c4⟩ := hc'.parts
        simp only [Nat.zero_add] at c0 c1 c2 c3 c4
        clear ht hc hc'
        by_cases hcmp : t0 < x0
        · have hqk : q < kk := by
            by_cases e : q = kk
            · subst e
              have h1 := HT.out
              have h2 := HEK.out
              rw [h1] at h2
              simp only at h2
              omega
            · omega
          go_wp2
          go_big_quiet (fail)
          go_wp2
          go_roundw
          case rel => exact ⟨q + 1, by omega, by go_num, fun j hj => by
            by_cases e : j = q
            · subst e; rw [HT.out]; exact hcmp
            · exact HLT.out j (by omega), belowDN hB' _, belowDN hBr' _⟩
          case measure => simp [Go.RowKit.intOf]; omega
        · obtain rfl : kk = q := Nat.le_antisymm (HLQ.out q (by rw [HT.out]; simp only; omega)) hq
          obtain rfl : t0 = x0 := by have h2 := HEK.out; rw [HT.out] at h2; exact h2
          go_wp2
          go_big_quiet (fail)
          have hB9 := belowDN hB' nq
          have hBr9 := belowDN hBr' nq
          generalize wr.drewN nq = w9 at hB9 hBr9 ⊢
          clear hcb t0c t1c hXb' c0 c1 c2 c3 c4
          obtain ⟨_, _, he, hc⟩ := (hC2.mono hBr9).2 kk hqm'
          cases he
          rw [HT.out] at hc
          obtain ⟨hcb, t0c, t1c⟩ := hc.parts
          obtain ⟨_, _, he, hc'⟩ := (hL2.mono hBr9).2 k hkn
          cases he
          rw [HX.out] at hc'
          obtain ⟨hXb', c0, c1, c2, c3, c4⟩ := hc'.parts
          simp only [Nat.zero_add] at c0 c1 c2 c3 c4
          clear hc hc'
          have hge : ¬ (m : Int) ≤ (kk : Int) := by omega
          have hge2 : decide ((m : Int) ≤ (kk : Int)) = false := by simp; omega
          have hge3 : ¬ m ≤ kk := by omega
          have hge4 : decide (m ≤ kk) = false := by simp; omega
          go_wp2
          go_big_quiet (fail)
          go_wp2
          exact ⟨⟨k + 1, kk, by omega, by omega, rfl, by go_num, fun j hj k' h1 h2 => by
            have ha := HLT.out j hj
            have hb := HLE.out k k' (by omega) h2
            rw [HX.out] at hb
            simp only at hb
            omega, belowDN hB9 _, belowDN hBr9 _⟩, by simp [Go.RowKit.intOf]; omega⟩
    · obtain rfl : k = n := by omega
      go_wp2
      go_ret
      exact ⟨rfl, hB⟩

set_option maxRecDepth 100000 in
theorem lifted (os : Os) (started : os.Started) (H : Type) (enc : TypeId × Value → H) :
    ReturnsInHanded {} Try.checked os 6 .any (Rows.fnCurvesSpec.pre6 enc Try.prog Try.f6 Rows.fnCurvesRow.domain false) (Rows.fnCurvesSpec.post enc Try.prog Try.f6 false true false false) := by
  refine returnsInHanded_of_change (C := Try.checked) own started (by kernel_rfl) Try.func6
    (ChangeSpec.witness6 (enc := enc) (C := Try.checked) false ⟨#[], #[.slice none 0 0], []⟩ 8 (by kernel_rfl) (by kernel_rfl) (by kernel_rfl) (by kernel_rfl)) ?_
  intro W base args ds gs before hval0 hW hcnd _
  have hval : ∀ (j : Nat) t v, Try.f6.params[j]? = some t → args[j]? = some v → Value.okWide Try.prog W .any base t v := hval0
  have hW' := hW
  obtain ⟨p, q, hA0, hV, rfl, hfz, hnd⟩ := hW
  have hA : DataW.TrodAll enc Try.prog W 0 (fun _ => true) true Try.f6.params.toList args.toList ds p := hA0
  rw [Try.params6] at hA hval
  obtain ⟨v0, vs0, d0, ds0, p0, q0, hargs, rfl, rfl, h0, r0⟩ := trodAll_cons hA
  obtain ⟨rfl, rfl, rfl⟩ := trodAll_nil r0
  obtain rfl : args = #[v0] := by cases args; simp_all
  obtain ⟨rfl, rfl⟩ := trodVars_none hV
  have k0 := h0
  have lt0 : ∀ x ∈ p0, x.block < W.heap.size := by obtain ⟨m, hm⟩ := k0; exact DataW.trod_lt m _ _ _ hm
  obtain ⟨a0, len0, cap0, rfl⟩ := okWide_slice Try.underlying22 (hval 0 22 v0 rfl rfl)
  obtain ⟨z0, w0⟩ : ∃ zs, IsRow .u8 W a0 len0 cap0 zs := by
    obtain ⟨fuel, hf⟩ := h0
    rcases open_ints Try.underlying22 Try.underlying5 (by kernel_rfl) hf with ⟨hcs, _⟩ | ⟨x, l, c, zs, hcs, _, hl, hm, hz, _, hcell, hwz⟩
    · simp [Value.cells] at hcs
      obtain ⟨rfl, rfl, rfl⟩ := hcs
      exact ⟨[], .inl ⟨rfl, rfl, rfl, rfl⟩⟩
    · simp [Value.cells] at hcs
      obtain ⟨rfl, rfl, rfl⟩ := hcs
      exact ⟨zs, .inr ⟨_, rfl, hl, hm, by simpa using hz, hcell, hwz⟩⟩
  clear hA0 hval0
  refine (walk a0 len0 cap0 z0 W w0).mono fun e W' ⟨he, bel⟩ => ?_
  subst he
  exact ⟨_, rfl, _, _, _, [], _, [], hW', trodAll_mk1 (shut_bool Try.underlying4 _), (trodAll_cons_mk (Below.trod laidOut (by kernel_rfl) (of_decide_eq_true (by kernel_rfl)) k0 bel lt0) trodAll_mk0), rfl, bel.frame _, fun h => by cases h⟩

theorem over : Rows.fnCurvesRow.holds Try.pinned (OpenSpec.ofChange Rows.fnCurvesSpec) :=
  OpenClaim.holds_of_wide 6 Try.f6 rfl rfl rfl rfl rfl rfl rfl ⟨rfl, rfl, rfl, rfl, rfl⟩ rfl rfl rfl rfl rfl (by kernel_rfl) Try.func6 (by kernel_rfl)
    (of_decide_eq_true (by kernel_rfl)) (by unfold Func.isWrapper; first | (rw [if_pos (by decide +kernel)]; kernel_rfl) | (rw [if_neg (by decide +kernel)]; exact ⟨rfl, rfl⟩))
    (fun os started H enc _ => lifted os started H enc)

theorem proved : Rows.FnCurvesSaid := over
#print axioms proved
end Go.Proofs.Ytiogffjhhhpolaa.fnCurves
