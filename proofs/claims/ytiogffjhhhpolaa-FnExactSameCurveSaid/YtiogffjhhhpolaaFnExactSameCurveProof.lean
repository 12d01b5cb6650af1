/- FnExactSameCurve: for every two slices of points (that hold no more than the law's bound) the program's SameCurve (slices.Equal) answers as the model's, and writes into no argument. -/
import Derived.Test.YtiogffjhhhpolaaB1
import Derived.Test.YtiogffjhhhpolaaGPt4
import Derived.ChangeOld
import Derived.Lib.SmallJoins
namespace Go.Proofs.Ytiogffjhhhpolaa.fnExactSameCurve
open Go.ChangeShapes Go.WideShapes Go.ChangeAt Go.RowKit
open Go.ChangeMaps (open_string shut_string)
set_option linter.unusedVariables false

theorem own : ownKnob Try.prog.godebug = none := by kernel_rfl
theorem laidOut : laidOutB Try.prog = true := by kernel_rfl

theorem walk (a0 : Option Addr) (len0 cap0 : Nat) (z0 : List Pt) (a1 : Option Addr) (len1 cap1 : Nat) (z1 : List Pt) (w : World) (w0 : IsPt w a0 len0 cap0 z0) (w1 : IsPt w a1 len1 cap1 z1) :
    Calls Try.prog 8 #[.slice a0 len0 cap0, .slice a1 len1 cap1] w fun e w' => e = .returned (.bool true) ∧ Below w.heap.size w w' := by
  by_cases hbig : (1048576 : Int) < totPt z0
  · have HZ := Lib.hid (szQ_no hbig)
    go_enter Try.func8, Try.ntmps8
    go_wp2_with fail
    refine (szPtS_any _ _ _ z0 1048576 _ w0 (by omega) (by omega)).mono ?_
    rintro e w1 ⟨rfl, b1⟩
    rw [HZ.out]
    go_wp2
    go_ret
    exact ⟨rfl, b1⟩
  have HZ := Lib.hid (szQ_yes hbig)
  have hn : len0 ≤ 1048576 := sizePt hbig (by omega) w0.1.1
  have hn0 : ¬ (1048576 : Int) - totPt z0 < 0 := by omega
  have hp0 := totPt_nonneg z0
  obtain ⟨l, hl⟩ : ∃ l, (1048576 : Int) - totPt z0 = l := ⟨_, rfl⟩
  have hl1 : 0 ≤ l := by omega
  have hl2 : l ≤ 1048576 := by omega
  have HL := Lib.hid hl
  clear hp0
  by_cases hbig1 : l < totPt z1
  · have HZ1 := Lib.hid (szQ_no hbig1)
    go_enter Try.func8, Try.ntmps8
    go_wp2_with fail
    refine (szPtS_any _ _ _ z0 1048576 _ w0 (by omega) (by omega)).mono ?_
    rintro e w2 ⟨rfl, b2⟩
    rw [HZ.out, HL.out]
    clear hl
    go_wp2_with fail
    refine (szPtS_any _ _ _ z1 l _ (w1.mono b2) hl1 hl2).mono ?_
    rintro e w3 ⟨rfl, b3⟩
    rw [HZ1.out]
    go_wp2
    go_ret
    exact ⟨rfl, belowCall b2 b3⟩
  have HZ1 := Lib.hid (szQ_yes hbig1)
  have hm : len1 ≤ 1048576 := sizePt hbig1 hl2 w1.1.1
  have hm0 : ¬ l - totPt z1 < 0 := by omega
  obtain ⟨v, hv⟩ : ∃ v, samePt z0 z1 = v := ⟨_, rfl⟩
  have HV := Lib.hid hv
  clear hv
  go_enter Try.func8, Try.ntmps8
  go_wp2_with fail
  refine (szPtS_any _ _ _ z0 1048576 _ w0 (by omega) (by omega)).mono ?_
  rintro e w2 ⟨rfl, b2⟩
  rw [HZ.out, HL.out]
  clear hl
  go_wp2_with fail
  refine (szPtS_any _ _ _ z1 l _ (w1.mono b2) hl1 hl2).mono ?_
  rintro e w3 ⟨rfl, b3⟩
  rw [HZ1.out]
  have B3 : Below w.heap.size w w3 := belowCall b2 b3
  go_wp2_with fail
  refine (toPtS_any _ _ _ z0 w3 (w0.1.mono B3) hn).mono ?_
  rintro e w4 ⟨g4, rfl, -, hr4, b4⟩
  have hs4 := PtL.of_row w0.1.1 hr4
  have B4 : Below w.heap.size w w4 := belowCall B3 b4
  go_wp2_with fail
  refine (toPtS_any _ _ _ z1 w4 (w1.1.mono B4) hm).mono ?_
  rintro e w5 ⟨g5, rfl, -, hr5, b5⟩
  have hs5 := PtL.of_row w1.1.1 hr5
  have B5 : Below w.heap.size w w5 := belowCall B4 b5
  go_wp2_with fail
  refine (sSamePt_any _ _ _ _ _ _ z0 z1 w5 (hs4.mono b5) hs5 hn hm).mono ?_
  rintro e w6 ⟨rfl, b6⟩
  rw [HV.out]
  have B6 : Below w.heap.size w w6 := belowCall B5 b6
  go_wp2_with fail
  refine (toPtS_any _ _ _ z0 w6 (w0.1.mono B6) hn).mono ?_
  rintro e w7 ⟨g7, rfl, -, hr7, b7⟩
  have hs7 := PtL.of_row w0.1.1 hr7
  have B7 : Below w.heap.size w w7 := belowCall B6 b7
  go_wp2_with fail
  refine (toPtS_any _ _ _ z1 w7 (w1.1.mono B7) hm).mono ?_
  rintro e w8 ⟨g8, rfl, -, hr8, b8⟩
  have hs8 := PtL.of_row w1.1.1 hr8
  have B8 : Below w.heap.size w w8 := belowCall B7 b8
  go_wp2_with fail
  refine (iSamePt_any _ _ _ _ _ _ z0 z1 w8 (hs7.mono b8) hs8 hn hm).mono ?_
  rintro e w9 ⟨rfl, b9⟩
  rw [HV.out]
  have B9 : Below w.heap.size w w9 := belowCall B8 b9
  have hneq : (v != v) = false := by simp
  go_wp2_with fail
  refine (toPtS_any _ _ _ z0 w9 (w0.1.mono B9) hn).mono ?_
  rintro e wa ⟨ga, rfl, -, hra, ba⟩
  have hsa := PtL.of_row w0.1.1 hra
  have BA : Below w.heap.size w wa := belowCall B9 ba
  go_wp2_with fail
  refine (eqPtS_self _ _ _ _ _ z0 wa (((hs7.mono b8).mono b9).mono ba) hsa hn).mono ?_
  rintro e wb ⟨rfl, bb⟩
  have BB : Below w.heap.size w wb := belowCall BA bb
  go_wp2_with fail
  refine (toPtS_any _ _ _ z1 wb (w1.1.mono BB) hm).mono ?_
  rintro e wc ⟨gc, rfl, -, hrc, bc⟩
  have hsc := PtL.of_row w1.1.1 hrc
  have BC : Below w.heap.size w wc := belowCall BB bc
  go_wp2_with fail
  refine (eqPtS_self _ _ _ _ _ z1 wc ((((hs8.mono b9).mono ba).mono bb).mono bc) hsc hm).mono ?_
  rintro e wd ⟨rfl, bd⟩
  go_wp2
  go_ret
  exact ⟨rfl, belowCall BC bd⟩

set_option maxRecDepth 100000 in
theorem lifted (os : Os) (started : os.Started) (H : Type) (enc : TypeId × Value → H) :
    ReturnsInHanded {} Try.checked os 8 .any (Rows.fnExactSameCurveSpec.pre6 enc Try.prog Try.f8 Rows.fnExactSameCurveRow.domain false) (Rows.fnExactSameCurveSpec.post enc Try.prog Try.f8 false true false false) := by
  refine returnsInHanded_of_change (C := Try.checked) own started (by kernel_rfl) Try.func8
    (ChangeSpec.witness6 (enc := enc) (C := Try.checked) false ⟨#[], #[.slice none 0 0, .slice none 0 0], []⟩ 8 (by kernel_rfl) (by kernel_rfl) (by kernel_rfl) (by kernel_rfl)) ?_
  intro W base args ds gs before hval0 hW hcnd _
  have hval : ∀ (j : Nat) t v, Try.f8.params[j]? = some t → args[j]? = some v → Value.okWide Try.prog W .any base t v := hval0
  have hW' := hW
  obtain ⟨p, q, hA0, hV, rfl, hfz, hnd⟩ := hW
  have hA : DataW.TrodAll enc Try.prog W 0 (fun _ => true) true Try.f8.params.toList args.toList ds p := hA0
  rw [Try.params8] at hA hval
  obtain ⟨v0, vs0, d0, ds0, p0, q0, hargs, rfl, rfl, h0, r0⟩ := trodAll_cons hA
  obtain ⟨v1, vs1, d1, ds1, p1, q1, rfl, rfl, rfl, h1, r1⟩ := trodAll_cons r0
  obtain ⟨rfl, rfl, rfl⟩ := trodAll_nil r1
  obtain rfl : args = #[v0, v1] := by cases args; simp_all
  obtain ⟨rfl, rfl⟩ := trodVars_none hV
  have k0 := h0
  have lt0 : ∀ x ∈ p0, x.block < W.heap.size := by obtain ⟨m, hm⟩ := k0; exact DataW.trod_lt m _ _ _ hm
  obtain ⟨a0, len0, cap0, rfl⟩ := okWide_slice Try.underlying51 (hval 0 51 v0 rfl rfl)
  obtain ⟨z0, w0⟩ : ∃ zs, IsPt W a0 len0 cap0 zs := by
    obtain ⟨fuel, hf⟩ := h0
    exact pts_of Try.underlying51 Try.underlying94 (by kernel_rfl) (show Try.prog.cellsOf 94 = 2 by kernel_rfl) Try.underlying2 Try.underlying2 (by simpa [Value.cells] using hf)
  have k1 := h1
  have lt1 : ∀ x ∈ p1, x.block < W.heap.size := by obtain ⟨m, hm⟩ := k1; exact DataW.trod_lt m _ _ _ hm
  obtain ⟨a1, len1, cap1, rfl⟩ := okWide_slice Try.underlying51 (hval 1 51 v1 rfl rfl)
  obtain ⟨z1, w1⟩ : ∃ zs, IsPt W a1 len1 cap1 zs := by
    obtain ⟨fuel, hf⟩ := h1
    exact pts_of Try.underlying51 Try.underlying94 (by kernel_rfl) (show Try.prog.cellsOf 94 = 2 by kernel_rfl) Try.underlying2 Try.underlying2 (by simpa [Value.cells] using hf)
  clear hA0 hval0
  refine (walk a0 len0 cap0 z0 a1 len1 cap1 z1 W w0 w1).mono fun e W' ⟨he, bel⟩ => ?_
  subst he
  exact ⟨_, rfl, _, _, _, [], _, [], hW', trodAll_mk1 (shut_bool Try.underlying4 _), (trodAll_cons_mk (Below.trod laidOut (by kernel_rfl) (of_decide_eq_true (by kernel_rfl)) k0 bel lt0) (trodAll_cons_mk (Below.trod laidOut (by kernel_rfl) (of_decide_eq_true (by kernel_rfl)) k1 bel lt1) trodAll_mk0)), rfl, bel.frame _, fun h => by cases h⟩

theorem over : Rows.fnExactSameCurveRow.holds Try.pinned (OpenSpec.ofChange Rows.fnExactSameCurveSpec) :=
  OpenClaim.holds_of_wide 8 Try.f8 rfl rfl rfl rfl rfl rfl rfl ⟨rfl, rfl, rfl, rfl, rfl⟩ rfl rfl rfl rfl rfl (by kernel_rfl) Try.func8 (by kernel_rfl)
    (of_decide_eq_true (by kernel_rfl)) (by unfold Func.isWrapper; first | (rw [if_pos (by decide +kernel)]; kernel_rfl) | (rw [if_neg (by decide +kernel)]; exact ⟨rfl, rfl⟩))
    (fun os started H enc _ => lifted os started H enc)

theorem proved : Rows.FnExactSameCurveSaid := over
#print axioms proved
end Go.Proofs.Ytiogffjhhhpolaa.fnExactSameCurve
