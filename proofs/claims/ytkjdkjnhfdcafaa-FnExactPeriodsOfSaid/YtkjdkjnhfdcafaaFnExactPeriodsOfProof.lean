/- FnExactPeriodsOf: for every search the program's PeriodsOf answers as the model's, and its answer owns its memory: it holds the law's marks through another call. -/
import Derived.Test.YtkjdkjnhfdcafaaB1
import Derived.Test.YtkjdkjnhfdcafaaLB
import Derived.Test.YtkjdkjnhfdcafaaGI
import Derived.Test.YtkjdkjnhfdcafaaH7R
import Derived.ChangeOld
import Derived.Lib.SmallJoins
namespace Go.Proofs.Ytkjdkjnhfdcafaa.fnExactPeriodsOf
open Go.ChangeShapes Go.WideShapes Go.ChangeAt Go.RowKit
open Go.ChangeMaps (open_string shut_string)
set_option linter.unusedVariables false

theorem own : ownKnob Try.prog.godebug = none := by kernel_rfl
theorem laidOut : laidOutB Try.prog = true := by kernel_rfl
set_option maxHeartbeats 8000000 in

theorem walk (a0_0 : Int) (a0_1 : Int) (a0_2 : Int) (w : World) (w0_0 : (Lit.int .i64 a0_0).wf = true) (w0_1 : (Lit.int .i64 a0_1).wf = true) (w0_2 : (Lit.int .i64 a0_2).wf = true) :
    Calls Try.prog 4 #[.agg #[.int .i64 a0_0, .int .i64 a0_1, .int .i64 a0_2]] w fun e w' => e = .returned (.bool true) ∧ Below w.heap.size w w' := by
  have hbxE := SrC.fresh w 23 a0_0 a0_1 a0_2
  have BW : Below w.heap.size w (w.alloc (.cells #[.int .i64 a0_0, .int .i64 a0_1, .int .i64 a0_2] 23)) := (Below.refl _ w).alloc (Nat.le_refl _) _
  have hcc : ((srV1 a0_0 a0_1 a0_2) != (srV1 a0_0 a0_1 a0_2)) = false := by simp
  go_enter Try.func4, Try.ntmps4
  go_wp2_with fail
  generalize w.alloc (.cells #[.int .i64 a0_0, .int .i64 a0_1, .int .i64 a0_2] 23) = v at hbxE BW ⊢
  refine (toSr_any _ _ _ _).mono ?_
  rintro x u1 ⟨rfl, b1⟩
  have zz1 := b1.size
  have B1 := belowCall (Below.refl _ v) b1
  go_wp2_with fail
  refine (sPers_any a0_0 a0_1 a0_2 u1).mono ?_
  rintro e u2 ⟨⟨aw, caw, rfl, hLw0⟩, b2⟩
  have zz2 := b2.size
  have B2 := belowCall B1 b2
  have baw := b2.size
  have hLw := (hLw0 1).toL.toB
  clear hLw0
  obtain ⟨-, kE0, kE1, kE2⟩ := (hbxE.mono B2).parts
  rw [Nat.zero_add] at kE1 kE2
  go_wp2_with fail
  refine (toSr_any _ _ _ _).mono ?_
  rintro x u3 ⟨rfl, b3⟩
  clear kE0 kE1 kE2
  have zz3 := b3.size
  have B3 := belowCall B2 b3
  replace hLw := hLw.below b3 (by omega)
  go_wp2_with fail
  refine (iPers_any a0_0 a0_1 a0_2 u3).mono ?_
  rintro e u4 ⟨⟨ag, cag, rfl, hMg0⟩, b4⟩
  have zz4 := b4.size
  have B4 := belowCall B3 b4
  replace hLw := hLw.below b4 (by omega)
  have bag := b4.size
  have hMg := hMg0 1
  clear hMg0
  go_wp2_with fail
  refine (eqI_self _ _ _ _ _ (srV a0_0 a0_1 a0_2) u4 hMg.toL hLw.toL (srV_len (n := 1048576) (by omega) _ _ _)).mono ?_
  rintro e u5 ⟨rfl, b5⟩
  have zz5 := b5.size
  have B5 := belowCall B4 b5
  replace hLw := hLw.below b5 (by omega)
  replace hMg := hMg.below b5
  go_wp2_with fail
  refine (markI_o ag _ 1 _ _ _ u5 u5 (Below.refl _ _) (by omega) hMg (srV_len (n := 1048576) (by omega) _ _ _) (by omega) (by omega)).mono ?_
  rintro e u6 ⟨rfl, hMm, b6⟩
  have zz6 := b6.size
  have B6 : Below v.heap.size v u6 := B5.trans (b6.mono (by omega))
  replace hLw := hLw.below b6 (by omega)
  clear hMg
  have hMg := hMm
  clear hMm
  have hq0 : ¬ ((1 + (srV a0_0 a0_1 a0_2).length : Nat) : Int) < 0 := by omega
  go_wp2_with fail
  refine (heldI_o ag _ 1 _ _ _ u6 hMg (srV_len (n := 1048576) (by omega) _ _ _) (by omega) (by omega)).mono ?_
  rintro e u7 ⟨rfl, b7⟩
  have zz7 := b7.size
  have B7 := belowCall B6 b7
  replace hLw := hLw.below b7 (by omega)
  replace hMg := hMg.below b7
  obtain ⟨-, kE0, kE1, kE2⟩ := (hbxE.mono B7).parts
  rw [Nat.zero_add] at kE1 kE2
  go_wp2_with fail
  refine (toSr_any _ _ _ _).mono ?_
  rintro x u8 ⟨rfl, b8⟩
  clear kE0 kE1 kE2
  have zz8 := b8.size
  have B8 := belowCall B7 b8
  replace hLw := hLw.below b8 (by omega)
  replace hMg := hMg.below b8
  go_wp2_with fail
  refine (iPers_any a0_0 a0_1 a0_2 u8).mono ?_
  rintro e u9 ⟨⟨ah, cah, rfl, hMh0⟩, b9⟩
  have zz9 := b9.size
  have B9 := belowCall B8 b9
  replace hLw := hLw.below b9 (by omega)
  replace hMg := hMg.below b9
  have bah := b9.size
  have hMh := hMh0 1
  clear hMh0
  go_wp2_with fail
  refine (eqI_self _ _ _ _ _ (srV a0_0 a0_1 a0_2) u9 hMh.toL hLw.toL (srV_len (n := 1048576) (by omega) _ _ _)).mono ?_
  rintro e u10 ⟨rfl, b10⟩
  have zz10 := b10.size
  have B10 := belowCall B9 b10
  replace hLw := hLw.below b10 (by omega)
  replace hMg := hMg.below b10
  replace hMh := hMh.below b10
  go_wp2_with fail
  refine (heldI_o ag _ 1 _ _ _ u10 hMg (srV_len (n := 1048576) (by omega) _ _ _) (by omega) (by omega)).mono ?_
  rintro e u11 ⟨rfl, b11⟩
  have zz11 := b11.size
  have B11 := belowCall B10 b11
  replace hLw := hLw.below b11 (by omega)
  replace hMg := hMg.below b11
  replace hMh := hMh.below b11
  go_wp2_with fail
  go_ret
  exact ⟨rfl, belowCall BW (B11)⟩

set_option maxRecDepth 100000 in
theorem lifted (os : Os) (started : os.Started) (H : Type) (enc : TypeId × Value → H) :
    ReturnsInHanded {} Try.checked os 4 .any (Rows.fnExactPeriodsOfSpec.pre6 enc Try.prog Try.f4 Rows.fnExactPeriodsOfRow.domain false) (Rows.fnExactPeriodsOfSpec.post enc Try.prog Try.f4 false true false false) := by
  refine returnsInHanded_of_change (C := Try.checked) own started (by kernel_rfl) Try.func4
    (ChangeSpec.witness6 (enc := enc) (C := Try.checked) false ⟨#[], #[.agg #[.int .i64 0, .int .i64 0, .int .i64 0]], []⟩ 8 (by kernel_rfl) (by kernel_rfl) (by kernel_rfl) (by kernel_rfl)) ?_
  intro W base args ds gs before hval0 hW hcnd _
  have hval : ∀ (j : Nat) t v, Try.f4.params[j]? = some t → args[j]? = some v → Value.okWide Try.prog W .any base t v := hval0
  have hW' := hW
  obtain ⟨p, q, hA0, hV, rfl, hfz, hnd⟩ := hW
  have hA : DataW.TrodAll enc Try.prog W 0 (fun _ => true) true Try.f4.params.toList args.toList ds p := hA0
  rw [Try.params4] at hA hval
  obtain ⟨v0, vs0, d0, ds0, p0, q0, hargs, rfl, rfl, h0, r0⟩ := trodAll_cons hA
  obtain ⟨rfl, rfl, rfl⟩ := trodAll_nil r0
  obtain rfl : args = #[v0] := by cases args; simp_all
  obtain ⟨rfl, rfl⟩ := trodVars_none hV
  have k0 := h0
  have lt0 : ∀ x ∈ p0, x.block < W.heap.size := by obtain ⟨m, hm⟩ := k0; exact DataW.trod_lt m _ _ _ hm
  obtain ⟨c0_0, c0_1, c0_2, y0_0, y0_1, y0_2, mf0, rfl, hd0, hp0, g0_0, g0_1, g0_2⟩ := Go.Joins.open_agg3 Try.underlying23 (by kernel_rfl) (show Try.prog.cellsOf 23 = 3 by kernel_rfl) (hval 0 23 v0 rfl rfl) h0
  obtain ⟨a0_0, e0_0, _, w0_0⟩ := DataW.trod_int Try.underlying2 g0_0
  simp only [List.cons.injEq, and_true] at e0_0
  subst e0_0
  obtain ⟨a0_1, e0_1, _, w0_1⟩ := DataW.trod_int Try.underlying2 g0_1
  simp only [List.cons.injEq, and_true] at e0_1
  subst e0_1
  obtain ⟨a0_2, e0_2, _, w0_2⟩ := DataW.trod_int Try.underlying2 g0_2
  simp only [List.cons.injEq, and_true] at e0_2
  subst e0_2
  clear hA0 hval0
  refine (walk a0_0 a0_1 a0_2 W w0_0 w0_1 w0_2).mono fun e W' ⟨he, bel⟩ => ?_
  subst he
  exact ⟨_, rfl, _, _, _, [], _, [], hW', trodAll_mk1 (shut_bool Try.underlying4 _), (trodAll_cons_mk (Below.trod laidOut (by kernel_rfl) (of_decide_eq_true (by kernel_rfl)) k0 bel lt0) trodAll_mk0), rfl, bel.frame _, fun h => by cases h⟩

theorem over : Rows.fnExactPeriodsOfRow.holds Try.pinned (OpenSpec.ofChange Rows.fnExactPeriodsOfSpec) :=
  OpenClaim.holds_of_wide 4 Try.f4 rfl rfl rfl rfl rfl rfl rfl ⟨rfl, rfl, rfl, rfl, rfl⟩ rfl rfl rfl rfl rfl (by kernel_rfl) Try.func4 (by kernel_rfl)
    (of_decide_eq_true (by kernel_rfl)) (by unfold Func.isWrapper; first | (rw [if_pos (by decide +kernel)]; kernel_rfl) | (rw [if_neg (by decide +kernel)]; exact ⟨rfl, rfl⟩))
    (fun os started H enc _ => lifted os started H enc)

theorem proved : Rows.FnExactPeriodsOfSaid := over
#print axioms proved
end Go.Proofs.Ytkjdkjnhfdcafaa.fnExactPeriodsOf
