/- FnExactStringLength: for every slice of points (that holds no more than the law's bound) and every period the program's StringLength (slices.SortStableFunc with a closure) answers as the model's, and writes into no argument. -/
import Derived.Test.YtkjdkjnhfdcafaaB1
import Derived.Test.YtkjdkjnhfdcafaaLC
import Derived.Test.YtkjdkjnhfdcafaaGR
import Derived.ChangeOld
import Derived.Lib.SmallJoins
import Derived.Conc.Holds
import Derived.Leaving
namespace Go.Proofs.Ytkjdkjnhfdcafaa.fnExactStringLength
open Go.ChangeShapes Go.WideShapes Go.ChangeAt Go.RowKit
open Go.ChangeMaps (open_string shut_string)
set_option linter.unusedVariables false

theorem own : ownKnob Try.prog.godebug = none := by kernel_rfl
theorem laidOut : laidOutB Try.prog = true := by kernel_rfl
set_option maxHeartbeats 8000000 in

theorem walk (a0 : Option Addr) (len0 cap0 : Nat) (z0 : List Pt) (a1 : Int) (w : World) (w0 : IsPt w a0 len0 cap0 z0) (w1 : (Lit.int .i64 a1).wf = true) :
    Calls Try.prog 5 #[.slice a0 len0 cap0, .int .i64 a1] w fun e w' => e = .returned (.bool true) ∧ Below w.heap.size w w' := by
  have hss : ((slA z0 a1) != (slA z0 a1)) = false := by simp
  have hl0 : (0 : Int) ≤ 1048576 := by omega
  have hu0 : (1048576 : Int) ≤ 1048576 := by omega
  by_cases hbig0 : (1048576 : Int) < totPt z0
  · have HZ0 := Lib.hid (szQ_no hbig0)
    go_enter Try.func5, Try.ntmps5
    go_wp2_with fail
    refine (szPtS_any _ _ _ z0 1048576 _ (w0.mono (Below.refl _ w)) hl0 hu0).mono ?_
    rintro e s0 ⟨rfl, c0⟩
    rw [HZ0.out]
    have B0 : Below w.heap.size w s0 := c0
    go_wp2
    go_ret
    exact ⟨rfl, B0⟩
  have HZ0 := Lib.hid (szQ_yes hbig0)
  have hn0 : len0 ≤ 1048576 := by have h1 := totPt_nonneg z0; have h2 := w0.1.1; omega
  have hg0 : ¬ (1048576 : Int) - totPt z0 < 0 := by omega
  clear hbig0
  have hcc : ((slC z0 a1) != (slC z0 a1)) = false := by simp
  go_enter Try.func5, Try.ntmps5
  go_wp2_with fail
  refine (szPtS_any _ _ _ z0 1048576 _ (w0.mono (Below.refl _ w)) hl0 hu0).mono ?_
  rintro e s0 ⟨rfl, c0⟩
  rw [HZ0.out]
  have B0 : Below w.heap.size w s0 := c0
  clear hl0 hu0
  have zzB := B0.size
  go_wp2_with fail
  refine (toPtS_any _ _ _ z0 s0 (w0.1.mono B0) hn0).mono ?_
  rintro e u1 ⟨g1, rfl, y1, hr1, b1⟩
  have yl1 := hr1.lt
  have hx1 := PtL.of_row w0.1.1 hr1
  have zz1 := b1.size
  have B1 := belowCall B0 b1
  go_wp2_with fail
  refine (sStrLen_any a1 _ _ _ z0 u1 hx1 hn0).mono ?_
  rintro e u2 ⟨rfl, b2⟩
  clear hx1
  have zz2 := b2.size
  have B2 := belowCall B1 b2
  go_wp2_with fail
  refine (toPtS_any _ _ _ z0 u2 (w0.1.mono B2) hn0).mono ?_
  rintro e u3 ⟨g3, rfl, y3, hr3, b3⟩
  have yl3 := hr3.lt
  have hx3 := PtL.of_row w0.1.1 hr3
  have zz3 := b3.size
  have B3 := belowCall B2 b3
  go_wp2_with fail
  refine (iStrLen_any a1 _ _ _ z0 u3 hx3 hn0).mono ?_
  rintro e u4 ⟨rfl, b4⟩
  have zz4 := b4.size
  have B4 := belowCall B3 b4
  replace hr3 := rowB hr3 b4
  replace hx3 := hx3.mono b4
  go_wp2_with fail
  refine (toPtS_any _ _ _ z0 u4 (w0.1.mono B4) hn0).mono ?_
  rintro e u5 ⟨g5, rfl, y5, hr5, b5⟩
  have yl5 := hr5.lt
  have hx5 := PtL.of_row w0.1.1 hr5
  have zz5 := b5.size
  have B5 := belowCall B4 b5
  replace hr3 := rowB hr3 b5
  replace hx3 := hx3.mono b5
  go_wp2_with fail
  refine (eqPtS_self _ _ _ _ _ z0 u5 hx3 hx5 hn0).mono ?_
  rintro e u6 ⟨rfl, b6⟩
  clear hx5
  have zz6 := b6.size
  have B6 := belowCall B5 b6
  replace hr3 := rowB hr3 b6
  replace hx3 := hx3.mono b6
  go_wp2_with fail
  go_ret
  exact ⟨rfl, B6⟩

set_option maxRecDepth 100000 in
theorem lifted (os : Os) (started : os.Started) (H : Type) (enc : TypeId × Value → H) :
    ReturnsInHanded {} Try.checked os 5 .any (Rows.fnExactStringLengthSpec.pre6 enc Try.prog Try.f5 Rows.fnExactStringLengthRow.domain false) (Rows.fnExactStringLengthSpec.post enc Try.prog Try.f5 false true false false) := by
  refine returnsInHanded_of_change (C := Try.checked) own started (by kernel_rfl) Try.func5
    (ChangeSpec.witness6 (enc := enc) (C := Try.checked) false ⟨#[], #[.slice none 0 0, .int .i64 0], []⟩ 8 (by kernel_rfl) (by kernel_rfl) (by kernel_rfl) (by kernel_rfl)) ?_
  intro W base args ds gs before hval0 hW hcnd _
  have hval : ∀ (j : Nat) t v, Try.f5.params[j]? = some t → args[j]? = some v → Value.okWide Try.prog W .any base t v := hval0
  have hW' := hW
  obtain ⟨p, q, hA0, hV, rfl, hfz, hnd⟩ := hW
  have hA : DataW.TrodAll enc Try.prog W 0 (fun _ => true) true Try.f5.params.toList args.toList ds p := hA0
  rw [Try.params5] at hA hval
  obtain ⟨v0, vs0, d0, ds0, p0, q0, hargs, rfl, rfl, h0, r0⟩ := trodAll_cons hA
  obtain ⟨v1, vs1, d1, ds1, p1, q1, rfl, rfl, rfl, h1, r1⟩ := trodAll_cons r0
  obtain ⟨rfl, rfl, rfl⟩ := trodAll_nil r1
  obtain rfl : args = #[v0, v1] := by cases args; simp_all
  obtain ⟨rfl, rfl⟩ := trodVars_none hV
  have k0 := h0
  have lt0 : ∀ x ∈ p0, x.block < W.heap.size := by obtain ⟨m, hm⟩ := k0; exact DataW.trod_lt m _ _ _ hm
  obtain ⟨a0, len0, cap0, rfl⟩ := okWide_slice Try.underlying33 (hval 0 33 v0 rfl rfl)
  obtain ⟨z0, w0⟩ : ∃ zs, IsPt W a0 len0 cap0 zs := by
    obtain ⟨fuel, hf⟩ := h0
    exact pts_of Try.underlying33 Try.underlying80 (by kernel_rfl) (show Try.prog.cellsOf 80 = 2 by kernel_rfl) Try.underlying2 Try.underlying2 (by simpa [Value.cells] using hf)
  obtain ⟨a1, rfl, rfl, rfl, w1⟩ := open_int Try.underlying2 (hval 1 2 v1 rfl rfl) h1
  clear hA0 hval0
  refine (walk a0 len0 cap0 z0 a1 W w0 w1).mono fun e W' ⟨he, bel⟩ => ?_
  subst he
  exact ⟨_, rfl, _, _, _, [], _, [], hW', trodAll_mk1 (shut_bool Try.underlying4 _), (trodAll_cons_mk (Below.trod laidOut (by kernel_rfl) (of_decide_eq_true (by kernel_rfl)) k0 bel lt0) (trodAll_cons_mk (shut_int Try.underlying2 w1) trodAll_mk0)), rfl, bel.frame _, fun h => by cases h⟩

/-- one that returns alone is only left by nobody -/
theorem leavingOf {a : Assume} {C : Checked} {os : Os} {f : FuncId} {r : Reach} {Pre : World → Array Value → Prop} {Post : World → Array Value → Value → World → Prop} (h : ReturnsInHanded a C os f r Pre Post) : ReturnsInLeavingWide a C os f r Pre Post := fun enter => by
  obtain ⟨h1, h2, h3, h4, h5⟩ := h enter
  refine ⟨h1, h2, h3, h4, fun w tape i hf => ?_⟩
  obtain ⟨n, v, w', e1, e2, e3, e4, ⟨j, last, e5, e6, e7⟩, e8⟩ := h5 w tape i hf
  exact ⟨n, v, w', e1, e2, e3, e4, ⟨j, last, e5, e6, e7.2.1, onlyLeaving_of_quiet e7.1, e7.2.2⟩, e8⟩
theorem over : Rows.fnExactStringLengthRow.holds Try.pinned (OpenSpec.ofChange Rows.fnExactStringLengthSpec) :=
  OpenClaim.holds_of_wide_leaving 5 Try.f5 rfl rfl rfl rfl rfl rfl rfl ⟨rfl, rfl, rfl, rfl, rfl⟩ rfl rfl rfl rfl rfl (by kernel_rfl) Try.func5 (by kernel_rfl)
    (of_decide_eq_true (by kernel_rfl)) (by unfold Func.isWrapper; first | (rw [if_pos (by decide +kernel)]; kernel_rfl) | (rw [if_neg (by decide +kernel)]; exact ⟨rfl, rfl⟩))
    (fun os started H enc _ => leavingOf (lifted os started H enc))

theorem proved : Rows.FnExactStringLengthSaid := over
#print axioms proved
end Go.Proofs.Ytkjdkjnhfdcafaa.fnExactStringLength
