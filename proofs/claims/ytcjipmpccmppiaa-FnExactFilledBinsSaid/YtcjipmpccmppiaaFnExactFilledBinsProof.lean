/- FnExactFilledBins: for every slice of points (that holds no more than the law's bound), every period and every number of bins the program's FilledBins (an array of structs by value) answers as the model's, and writes into no argument. -/
import Derived.Test.YtcjipmpccmppiaaB1
import Derived.Test.YtcjipmpccmppiaaEE
import Derived.Test.YtcjipmpccmppiaaGI
import Derived.ChangeOld
import Derived.Lib.SmallJoins
namespace Go.Proofs.Ytcjipmpccmppiaa.fnExactFilledBins
open Go.ChangeShapes Go.WideShapes Go.ChangeAt Go.RowKit
open Go.ChangeMaps (open_string shut_string)
set_option linter.unusedVariables false

theorem own : ownKnob Try.prog.godebug = none := by kernel_rfl
theorem laidOut : laidOutB Try.prog = true := by kernel_rfl
set_option maxHeartbeats 8000000 in

theorem walk (a0 : Option Addr) (len0 cap0 : Nat) (z0 : List Pt) (a1 : Int) (a2 : Int) (w : World) (w0 : IsPt w a0 len0 cap0 z0) (w1 : (Lit.int .i64 a1).wf = true) (w2 : (Lit.int .i64 a2).wf = true) :
    Calls Try.prog 9 #[.slice a0 len0 cap0, .int .i64 a1, .int .i64 a2] w fun e w' => e = .returned (.bool true) ∧ Below w.heap.size w w' := by
  have hss : ((fiA z0 a1 a2) != (fiA z0 a1 a2)) = false := by simp
  have hl0 : (0 : Int) ≤ 1048576 := by omega
  have hu0 : (1048576 : Int) ≤ 1048576 := by omega
  by_cases hbig0 : (1048576 : Int) < totPt z0
  · have HZ0 := Lib.hid (szQ_no hbig0)
    go_enter Try.func9, Try.ntmps9
    go_wp2_with fail
    refine (szPtS_any _ _ _ z0 1048576 _ (w0.mono (Below.refl _ w)) hl0 hu0).mono ?_
    rintro e s0 ⟨rfl, c0⟩
    rw [HZ0.out]
    have B0 : Below w.heap.size w s0 := c0
    go_wp2
    go_ret
    exact ⟨rfl, B0⟩
  have HZ0 := Lib.hid (szQ_yes hbig0)
  have hn0 : len0 ≤ 1048576 := by have h1 := totPt_nonneg z0; have h2 := w0.1.1; omega
  have hg0 : ¬ (1048576 : Int) - totPt z0 < 0 := by omega
  clear hbig0
  have hcc : ((boC z0 a1 a2) != (boC z0 a1 a2)) = false := by simp
  go_enter Try.func9, Try.ntmps9
  go_wp2_with fail
  refine (szPtS_any _ _ _ z0 1048576 _ (w0.mono (Below.refl _ w)) hl0 hu0).mono ?_
  rintro e s0 ⟨rfl, c0⟩
  rw [HZ0.out]
  have B0 : Below w.heap.size w s0 := c0
  clear hl0 hu0
  have zzB := B0.size
  go_wp2_with fail
  refine (toPtS_any _ _ _ z0 s0 (w0.1.mono B0) hn0).mono ?_
  rintro e u1 ⟨g1, rfl, y1, hr1, b1⟩
  have yl1 := hr1.lt
  have hx1 := PtL.of_row w0.1.1 hr1
  have zz1 := b1.size
  have B1 := belowCall B0 b1
  go_wp2_with fail
  refine (sFil_any _ _ _ z0 a1 a2 u1 hx1 hn0).mono ?_
  rintro e u2 ⟨rfl, b2⟩
  clear hx1
  have zz2 := b2.size
  have B2 := belowCall B1 b2
  go_wp2_with fail
  refine (toPtS_any _ _ _ z0 u2 (w0.1.mono B2) hn0).mono ?_
  rintro e u3 ⟨g3, rfl, y3, hr3, b3⟩
  have yl3 := hr3.lt
  have hx3 := PtL.of_row w0.1.1 hr3
  have zz3 := b3.size
  have B3 := belowCall B2 b3
  go_wp2_with fail
  refine (iFil_any _ _ _ z0 a1 a2 u3 hx3 hn0).mono ?_
  rintro e u4 ⟨rfl, b4⟩
  have zz4 := b4.size
  have B4 := belowCall B3 b4
  replace hr3 := rowB hr3 b4
  replace hx3 := hx3.mono b4
  go_wp2_with fail
  refine (toPtS_any _ _ _ z0 u4 (w0.1.mono B4) hn0).mono ?_
  rintro e u5 ⟨g5, rfl, y5, hr5, b5⟩
  have yl5 := hr5.lt
  have hx5 := PtL.of_row w0.1.1 hr5
  have zz5 := b5.size
  have B5 := belowCall B4 b5
  replace hr3 := rowB hr3 b5
  replace hx3 := hx3.mono b5
  go_wp2_with fail
  refine (eqPtS_self _ _ _ _ _ z0 u5 hx3 hx5 hn0).mono ?_
  rintro e u6 ⟨rfl, b6⟩
  clear hx5
  have zz6 := b6.size
  have B6 := belowCall B5 b6
  replace hr3 := rowB hr3 b6
  replace hx3 := hx3.mono b6
  go_wp2_with fail
  go_ret
  exact ⟨rfl, B6⟩

set_option maxRecDepth 100000 in
theorem lifted (os : Os) (started : os.Started) (H : Type) (enc : TypeId × Value → H) :
    ReturnsInHanded {} Try.checked os 9 .any (Rows.fnExactFilledBinsSpec.pre6 enc Try.prog Try.f9 Rows.fnExactFilledBinsRow.domain false) (Rows.fnExactFilledBinsSpec.post enc Try.prog Try.f9 false true false false) := by
  refine returnsInHanded_of_change (C := Try.checked) own started (by kernel_rfl) Try.func9
    (ChangeSpec.witness6 (enc := enc) (C := Try.checked) false ⟨#[], #[.slice none 0 0, .int .i64 0, .int .i64 0], []⟩ 8 (by kernel_rfl) (by kernel_rfl) (by kernel_rfl) (by kernel_rfl)) ?_
  intro W base args ds gs before hval0 hW hcnd _
  have hval : ∀ (j : Nat) t v, Try.f9.params[j]? = some t → args[j]? = some v → Value.okWide Try.prog W .any base t v := hval0
  have hW' := hW
  obtain ⟨p, q, hA0, hV, rfl, hfz, hnd⟩ := hW
  have hA : DataW.TrodAll enc Try.prog W 0 (fun _ => true) true Try.f9.params.toList args.toList ds p := hA0
  rw [Try.params9] at hA hval
  obtain ⟨v0, vs0, d0, ds0, p0, q0, hargs, rfl, rfl, h0, r0⟩ := trodAll_cons hA
  obtain ⟨v1, vs1, d1, ds1, p1, q1, rfl, rfl, rfl, h1, r1⟩ := trodAll_cons r0
  obtain ⟨v2, vs2, d2, ds2, p2, q2, rfl, rfl, rfl, h2, r2⟩ := trodAll_cons r1
  obtain ⟨rfl, rfl, rfl⟩ := trodAll_nil r2
  obtain rfl : args = #[v0, v1, v2] := by cases args; simp_all
  obtain ⟨rfl, rfl⟩ := trodVars_none hV
  have k0 := h0
  have lt0 : ∀ x ∈ p0, x.block < W.heap.size := by obtain ⟨m, hm⟩ := k0; exact DataW.trod_lt m _ _ _ hm
  obtain ⟨a0, len0, cap0, rfl⟩ := okWide_slice Try.underlying56 (hval 0 56 v0 rfl rfl)
  obtain ⟨z0, w0⟩ : ∃ zs, IsPt W a0 len0 cap0 zs := by
    obtain ⟨fuel, hf⟩ := h0
    exact pts_of Try.underlying56 Try.underlying109 (by kernel_rfl) (show Try.prog.cellsOf 109 = 2 by kernel_rfl) Try.underlying2 Try.underlying2 (by simpa [Value.cells] using hf)
  obtain ⟨a1, rfl, rfl, rfl, w1⟩ := open_int Try.underlying2 (hval 1 2 v1 rfl rfl) h1
  obtain ⟨a2, rfl, rfl, rfl, w2⟩ := open_int Try.underlying2 (hval 2 2 v2 rfl rfl) h2
  clear hA0 hval0
  refine (walk a0 len0 cap0 z0 a1 a2 W w0 w1 w2).mono fun e W' ⟨he, bel⟩ => ?_
  subst he
  exact ⟨_, rfl, _, _, _, [], _, [], hW', trodAll_mk1 (shut_bool Try.underlying4 _), (trodAll_cons_mk (Below.trod laidOut (by kernel_rfl) (of_decide_eq_true (by kernel_rfl)) k0 bel lt0) (trodAll_cons_mk (shut_int Try.underlying2 w1) (trodAll_cons_mk (shut_int Try.underlying2 w2) trodAll_mk0))), rfl, bel.frame _, fun h => by cases h⟩

theorem over : Rows.fnExactFilledBinsRow.holds Try.pinned (OpenSpec.ofChange Rows.fnExactFilledBinsSpec) :=
  OpenClaim.holds_of_wide 9 Try.f9 rfl rfl rfl rfl rfl rfl rfl ⟨rfl, rfl, rfl, rfl, rfl⟩ rfl rfl rfl rfl rfl (by kernel_rfl) Try.func9 (by kernel_rfl)
    (of_decide_eq_true (by kernel_rfl)) (by unfold Func.isWrapper; first | (rw [if_pos (by decide +kernel)]; kernel_rfl) | (rw [if_neg (by decide +kernel)]; exact ⟨rfl, rfl⟩))
    (fun os started H enc _ => lifted os started H enc)

theorem proved : Rows.FnExactFilledBinsSaid := over
#print axioms proved
end Go.Proofs.Ytcjipmpccmppiaa.fnExactFilledBins
