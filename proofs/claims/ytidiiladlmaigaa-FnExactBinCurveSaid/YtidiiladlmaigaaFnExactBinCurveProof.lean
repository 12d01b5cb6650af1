/- FnExactBinCurve: for every slice of points and every width (that hold no more than the law's bound) the program's BinCurve (sort.Search, variadic sums of method expressions) answers as the model's, writes into no argument, and its answer owns its memory: it holds the law's marks through another call. -/
import Derived.Test.YtidiiladlmaigaaB1
import Derived.Test.YtidiiladlmaigaaJX
import Derived.Test.YtidiiladlmaigaaJY
import Derived.Test.YtidiiladlmaigaaGR
import Derived.ChangeOld
import Derived.Lib.SmallJoins
namespace Go.Proofs.Ytidiiladlmaigaa.fnExactBinCurve
open Go.ChangeShapes Go.WideShapes Go.ChangeAt Go.RowKit
open Go.ChangeMaps (open_string shut_string)
set_option linter.unusedVariables false

theorem own : ownKnob Try.prog.godebug = none := by kernel_rfl
theorem laidOut : laidOutB Try.prog = true := by kernel_rfl
set_option maxHeartbeats 8000000 in

theorem walk (a0 : Option Addr) (len0 cap0 : Nat) (z0 : List Pt) (a1 : Int) (w : World) (w0 : IsPt w a0 len0 cap0 z0) (w1 : (Lit.int .i64 a1).wf = true) :
    Calls Try.prog 4 #[.slice a0 len0 cap0, .int .i64 a1] w fun e w' => e = .returned (.bool true) ∧ Below w.heap.size w w' := by
  have hl0 : (0 : Int) ≤ 1048576 := by omega
  have hu0 : (1048576 : Int) ≤ 1048576 := by omega
  by_cases hbig0 : (1048576 : Int) < totPt z0
  · have HZ0 := Lib.hid (szQ_no hbig0)
    go_enter Try.func4, Try.ntmps4
    go_wp2_with fail
    refine (szPtS_any _ _ _ z0 1048576 _ (w0.mono (Below.refl _ w)) hl0 hu0).mono ?_
    rintro e s0 ⟨rfl, c0⟩
    rw [HZ0.out]
    have B0 : Below w.heap.size w s0 := c0
    go_wp2
    go_ret
    exact ⟨rfl, B0⟩
  have HZ0 := Lib.hid (szQ_yes hbig0)
  have hn0 : len0 ≤ 1048576 := by have h1 := totPt_nonneg z0; have h2 := w0.1.1; omega
  have hg0 : ¬ (1048576 : Int) - totPt z0 < 0 := by omega
  clear hbig0
  have hcc : ((biC z0 a1) != (biC z0 a1)) = false := by simp
  go_enter Try.func4, Try.ntmps4
  go_wp2_with fail
  refine (szPtS_any _ _ _ z0 1048576 _ (w0.mono (Below.refl _ w)) hl0 hu0).mono ?_
  rintro e s0 ⟨rfl, c0⟩
  rw [HZ0.out]
  have B0 : Below w.heap.size w s0 := c0
  clear hl0 hu0
  have zzB := B0.size
  go_wp2_with fail
  refine (toPtS_any _ _ _ z0 s0 (w0.1.mono B0) hn0).mono ?_
  rintro e u1 ⟨g1, rfl, y1, hr1, b1⟩
  have yl1 := hr1.lt
  have hx1 := PtL.of_row w0.1.1 hr1
  have zz1 := b1.size
  have B1 := belowCall B0 b1
  go_wp2_with fail
  refine (sBin_any _ _ _ z0 a1 u1 hx1 hn0).mono ?_
  rintro e u2 ⟨⟨aw, caw, rfl, hLw0⟩, b2⟩
  clear hx1
  have zz2 := b2.size
  have B2 := belowCall B1 b2
  have baw := b2.size
  have hLw := (hLw0 1).toL.toB
  clear hLw0
  go_wp2_with fail
  refine (toPtS_any _ _ _ z0 u2 (w0.1.mono B2) hn0).mono ?_
  rintro e u3 ⟨g3, rfl, y3, hr3, b3⟩
  have yl3 := hr3.lt
  have hx3 := PtL.of_row w0.1.1 hr3
  have zz3 := b3.size
  have B3 := belowCall B2 b3
  replace hLw := hLw.below b3 (by omega)
  go_wp2_with fail
  refine (iBin_any _ _ _ z0 a1 u3 hx3 hn0 (Nat.le_refl _)).mono ?_
  rintro e u4 ⟨⟨ag, cag, rfl, hMg0⟩, b4⟩
  have zz4 := b4.size
  have B4 := belowCall B3 b4
  replace hr3 := rowB hr3 b4
  replace hx3 := hx3.mono b4
  replace hLw := hLw.below b4 (by omega)
  have bag := b4.size
  have hMg := hMg0 1
  clear hMg0
  go_wp2_with fail
  refine (eqPtS_self _ _ _ _ _ (biL z0 a1) u4 hMg.toL hLw.toL (biL_len (n := 1048576) (by have := w0.1.1; omega))).mono ?_
  rintro e u5 ⟨rfl, b5⟩
  have zz5 := b5.size
  have B5 := belowCall B4 b5
  replace hr3 := rowB hr3 b5
  replace hx3 := hx3.mono b5
  replace hLw := hLw.below b5 (by omega)
  replace hMg := hMg.below b5
  go_wp2_with fail
  refine (toPtS_any _ _ _ z0 u5 (w0.1.mono B5) hn0).mono ?_
  rintro e u6 ⟨g6, rfl, y6, hr6, b6⟩
  have yl6 := hr6.lt
  have hx6 := PtL.of_row w0.1.1 hr6
  have zz6 := b6.size
  have B6 := belowCall B5 b6
  replace hr3 := rowB hr3 b6
  replace hx3 := hx3.mono b6
  replace hLw := hLw.below b6 (by omega)
  replace hMg := hMg.below b6
  go_wp2_with fail
  refine (eqPtS_self _ _ _ _ _ z0 u6 hx3 hx6 hn0).mono ?_
  rintro e u7 ⟨rfl, b7⟩
  clear hx6
  have zz7 := b7.size
  have B7 := belowCall B6 b7
  replace hr3 := rowB hr3 b7
  replace hx3 := hx3.mono b7
  replace hLw := hLw.below b7 (by omega)
  replace hMg := hMg.below b7
  clear hx3
  have hm3 : ∀ m, SMG u7 g3 (len0 * 2) (mfPt m 0) := fun m => SMG.of_row hr3 (by intro j; simp [mfPt])
  clear hr3
  go_wp2_with fail
  refine (markPtS_f g3 _ (1) _ u7 (hm3 _) hn0 (by omega) (by omega)).mono ?_
  rintro e u8 ⟨rfl, -, b8⟩
  clear hm3
  have zz8 := b8.size
  have B8 : Below w.heap.size w u8 := B7.grown b8 B7.size (fun k e => by cases e; omega)
  replace hLw := hLw.grown b8 (by omega)
  replace hMg := hMg.far b8 (by omega)
  have hk0 : ¬ ((1 + 2 * len0 : Nat) : Int) < 0 := by omega
  go_wp2_with fail
  refine (eqPtS_self _ _ _ _ _ (biL z0 a1) u8 hMg.toL hLw.toL (biL_len (n := 1048576) (by have := w0.1.1; omega))).mono ?_
  rintro e u9 ⟨rfl, b9⟩
  have zz9 := b9.size
  have B9 := belowCall B8 b9
  replace hLw := hLw.below b9 (by omega)
  replace hMg := hMg.below b9
  go_wp2_with fail
  refine (markPtS_o ag _ 1 _ _ _ u9 u9 (Below.refl _ _) (by omega) hMg (biL_len (n := 1048576) (by have := w0.1.1; omega)) (by omega) (by omega)).mono ?_
  rintro e u10 ⟨rfl, hMm, b10⟩
  have zz10 := b10.size
  have B10 : Below w.heap.size w u10 := B9.trans (b10.mono (by omega))
  replace hLw := hLw.below b10 (by omega)
  clear hMg
  have hMg := hMm
  clear hMm
  have hq0 : ¬ ((1 + 2 * (biL z0 a1).length : Nat) : Int) < 0 := by omega
  go_wp2_with fail
  refine (heldPtS_o ag _ 1 _ _ _ u10 hMg (biL_len (n := 1048576) (by have := w0.1.1; omega)) (by omega) (by omega)).mono ?_
  rintro e u11 ⟨rfl, b11⟩
  have zz11 := b11.size
  have B11 := belowCall B10 b11
  replace hLw := hLw.below b11 (by omega)
  replace hMg := hMg.below b11
  go_wp2_with fail
  refine (toPtS_any _ _ _ z0 u11 (w0.1.mono B11) hn0).mono ?_
  rintro e u12 ⟨g12, rfl, y12, hr12, b12⟩
  have yl12 := hr12.lt
  have hx12 := PtL.of_row w0.1.1 hr12
  have zz12 := b12.size
  have B12 := belowCall B11 b12
  replace hLw := hLw.below b12 (by omega)
  replace hMg := hMg.below b12
  go_wp2_with fail
  refine (iBin_any _ _ _ z0 a1 u12 hx12 hn0 (Nat.le_refl _)).mono ?_
  rintro e u13 ⟨⟨ah, cah, rfl, hMh0⟩, b13⟩
  clear hx12
  have zz13 := b13.size
  have B13 := belowCall B12 b13
  replace hLw := hLw.below b13 (by omega)
  replace hMg := hMg.below b13
  have bah := b13.size
  have hMh := hMh0 1
  clear hMh0
  go_wp2_with fail
  refine (eqPtS_self _ _ _ _ _ (biL z0 a1) u13 hMh.toL hLw.toL (biL_len (n := 1048576) (by have := w0.1.1; omega))).mono ?_
  rintro e u14 ⟨rfl, b14⟩
  have zz14 := b14.size
  have B14 := belowCall B13 b14
  replace hLw := hLw.below b14 (by omega)
  replace hMg := hMg.below b14
  replace hMh := hMh.below b14
  go_wp2_with fail
  refine (heldPtS_o ag _ 1 _ _ _ u14 hMg (biL_len (n := 1048576) (by have := w0.1.1; omega)) (by omega) (by omega)).mono ?_
  rintro e u15 ⟨rfl, b15⟩
  have zz15 := b15.size
  have B15 := belowCall B14 b15
  replace hLw := hLw.below b15 (by omega)
  replace hMg := hMg.below b15
  replace hMh := hMh.below b15
  go_wp2_with fail
  go_ret
  exact ⟨rfl, B15⟩

set_option maxRecDepth 100000 in
theorem lifted (os : Os) (started : os.Started) (H : Type) (enc : TypeId × Value → H) :
    ReturnsInHanded {} Try.checked os 4 .any (Rows.fnExactBinCurveSpec.pre6 enc Try.prog Try.f4 Rows.fnExactBinCurveRow.domain false) (Rows.fnExactBinCurveSpec.post enc Try.prog Try.f4 false true false false) := by
  refine returnsInHanded_of_change (C := Try.checked) own started (by kernel_rfl) Try.func4
    (ChangeSpec.witness6 (enc := enc) (C := Try.checked) false ⟨#[], #[.slice none 0 0, .int .i64 0], []⟩ 8 (by kernel_rfl) (by kernel_rfl) (by kernel_rfl) (by kernel_rfl)) ?_
  intro W base args ds gs before hval0 hW hcnd _
  have hval : ∀ (j : Nat) t v, Try.f4.params[j]? = some t → args[j]? = some v → Value.okWide Try.prog W .any base t v := hval0
  have hW' := hW
  obtain ⟨p, q, hA0, hV, rfl, hfz, hnd⟩ := hW
  have hA : DataW.TrodAll enc Try.prog W 0 (fun _ => true) true Try.f4.params.toList args.toList ds p := hA0
  rw [Try.params4] at hA hval
  obtain ⟨v0, vs0, d0, ds0, p0, q0, hargs, rfl, rfl, h0, r0⟩ := trodAll_cons hA
  obtain ⟨v1, vs1, d1, ds1, p1, q1, rfl, rfl, rfl, h1, r1⟩ := trodAll_cons r0
  obtain ⟨rfl, rfl, rfl⟩ := trodAll_nil r1
  obtain rfl : args = #[v0, v1] := by cases args; simp_all
  obtain ⟨rfl, rfl⟩ := trodVars_none hV
  have k0 := h0
  have lt0 : ∀ x ∈ p0, x.block < W.heap.size := by obtain ⟨m, hm⟩ := k0; exact DataW.trod_lt m _ _ _ hm
  obtain ⟨a0, len0, cap0, rfl⟩ := okWide_slice Try.underlying32 (hval 0 32 v0 rfl rfl)
  obtain ⟨z0, w0⟩ : ∃ zs, IsPt W a0 len0 cap0 zs := by
    obtain ⟨fuel, hf⟩ := h0
    exact pts_of Try.underlying32 Try.underlying23 (by kernel_rfl) (show Try.prog.cellsOf 23 = 2 by kernel_rfl) Try.underlying2 Try.underlying2 (by simpa [Value.cells] using hf)
  obtain ⟨a1, rfl, rfl, rfl, w1⟩ := open_int Try.underlying2 (hval 1 2 v1 rfl rfl) h1
  clear hA0 hval0
  refine (walk a0 len0 cap0 z0 a1 W w0 w1).mono fun e W' ⟨he, bel⟩ => ?_
  subst he
  exact ⟨_, rfl, _, _, _, [], _, [], hW', trodAll_mk1 (shut_bool Try.underlying4 _), (trodAll_cons_mk (Below.trod laidOut (by kernel_rfl) (of_decide_eq_true (by kernel_rfl)) k0 bel lt0) (trodAll_cons_mk (shut_int Try.underlying2 w1) trodAll_mk0)), rfl, bel.frame _, fun h => by cases h⟩

theorem over : Rows.fnExactBinCurveRow.holds Try.pinned (OpenSpec.ofChange Rows.fnExactBinCurveSpec) :=
  OpenClaim.holds_of_wide 4 Try.f4 rfl rfl rfl rfl rfl rfl rfl ⟨rfl, rfl, rfl, rfl, rfl⟩ rfl rfl rfl rfl rfl (by kernel_rfl) Try.func4 (by kernel_rfl)
    (of_decide_eq_true (by kernel_rfl)) (by unfold Func.isWrapper; first | (rw [if_pos (by decide +kernel)]; kernel_rfl) | (rw [if_neg (by decide +kernel)]; exact ⟨rfl, rfl⟩))
    (fun os started H enc _ => lifted os started H enc)

theorem proved : Rows.FnExactBinCurveSaid := over
#print axioms proved
end Go.Proofs.Ytidiiladlmaigaa.fnExactBinCurve
