/- FnExactCountsBetween: for every four numbers the program's CountsBetween answers as the model's, and its answer owns its memory: it holds the law's marks through another call. -/
import Derived.Test.YtbjflgohahmjgaaB1
import Derived.Test.YtbjflgohahmjgaaPC
import Derived.Test.YtbjflgohahmjgaaGI
import Derived.Test.YtbjflgohahmjgaaH7R
import Derived.ChangeOld
import Derived.Lib.SmallJoins
namespace Go.Proofs.Ytbjflgohahmjgaa.fnExactCountsBetween
open Go.ChangeShapes Go.WideShapes Go.ChangeAt Go.RowKit
open Go.ChangeMaps (open_string shut_string)
set_option linter.unusedVariables false

theorem own : ownKnob Try.prog.godebug = none := by kernel_rfl
theorem laidOut : laidOutB Try.prog = true := by kernel_rfl
set_option maxHeartbeats 8000000 in

theorem walk (a0 : Int) (a1 : Int) (a2 : Int) (a3 : Int) (w : World) (w0 : (Lit.int .i64 a0).wf = true) (w1 : (Lit.int .i64 a1).wf = true) (w2 : (Lit.int .i64 a2).wf = true) (w3 : (Lit.int .i64 a3).wf = true) :
    Calls Try.prog 9 #[.int .i64 a0, .int .i64 a1, .int .i64 a2, .int .i64 a3] w fun e w' => e = .returned (.bool true) ∧ Below w.heap.size w w' := by
  have hcc : ((cbC a0 a1 a2 a3) != (cbC a0 a1 a2 a3)) = false := by simp
  go_enter Try.func9, Try.ntmps9
  go_wp2_with fail
  refine (sCou_any a0 a1 a2 a3 w).mono ?_
  rintro e u1 ⟨⟨aw, caw, rfl, hLw0⟩, b1⟩
  have zz1 := b1.size
  have B1 := belowCall (Below.refl _ w) b1
  have baw := b1.size
  have hLw := (hLw0 1).toL.toB
  clear hLw0
  go_wp2_with fail
  refine (iCou_any a0 a1 a2 a3 u1).mono ?_
  rintro e u2 ⟨⟨ag, cag, rfl, hMg0⟩, b2⟩
  have zz2 := b2.size
  have B2 := belowCall B1 b2
  replace hLw := hLw.below b2 (by omega)
  have bag := b2.size
  have hMg := hMg0 1
  clear hMg0
  go_wp2_with fail
  refine (eqI_self _ _ _ _ _ (cbL a0 a1 a2 a3) u2 hMg.toL hLw.toL (cbL_len (n := 1048576) (by omega) _ _ _ _)).mono ?_
  rintro e u3 ⟨rfl, b3⟩
  have zz3 := b3.size
  have B3 := belowCall B2 b3
  replace hLw := hLw.below b3 (by omega)
  replace hMg := hMg.below b3
  go_wp2_with fail
  refine (markI_o ag _ 1 _ _ _ u3 u3 (Below.refl _ _) (by omega) hMg (cbL_len (n := 1048576) (by omega) _ _ _ _) (by omega) (by omega)).mono ?_
  rintro e u4 ⟨rfl, hMm, b4⟩
  have zz4 := b4.size
  have B4 : Below w.heap.size w u4 := B3.trans (b4.mono (by omega))
  replace hLw := hLw.below b4 (by omega)
  clear hMg
  have hMg := hMm
  clear hMm
  have hq0 : ¬ ((1 + (cbL a0 a1 a2 a3).length : Nat) : Int) < 0 := by omega
  go_wp2_with fail
  refine (heldI_o ag _ 1 _ _ _ u4 hMg (cbL_len (n := 1048576) (by omega) _ _ _ _) (by omega) (by omega)).mono ?_
  rintro e u5 ⟨rfl, b5⟩
  have zz5 := b5.size
  have B5 := belowCall B4 b5
  replace hLw := hLw.below b5 (by omega)
  replace hMg := hMg.below b5
  go_wp2_with fail
  refine (iCou_any a0 a1 a2 a3 u5).mono ?_
  rintro e u6 ⟨⟨ah, cah, rfl, hMh0⟩, b6⟩
  have zz6 := b6.size
  have B6 := belowCall B5 b6
  replace hLw := hLw.below b6 (by omega)
  replace hMg := hMg.below b6
  have bah := b6.size
  have hMh := hMh0 1
  clear hMh0
  go_wp2_with fail
  refine (eqI_self _ _ _ _ _ (cbL a0 a1 a2 a3) u6 hMh.toL hLw.toL (cbL_len (n := 1048576) (by omega) _ _ _ _)).mono ?_
  rintro e u7 ⟨rfl, b7⟩
  have zz7 := b7.size
  have B7 := belowCall B6 b7
  replace hLw := hLw.below b7 (by omega)
  replace hMg := hMg.below b7
  replace hMh := hMh.below b7
  go_wp2_with fail
  refine (heldI_o ag _ 1 _ _ _ u7 hMg (cbL_len (n := 1048576) (by omega) _ _ _ _) (by omega) (by omega)).mono ?_
  rintro e u8 ⟨rfl, b8⟩
  have zz8 := b8.size
  have B8 := belowCall B7 b8
  replace hLw := hLw.below b8 (by omega)
  replace hMg := hMg.below b8
  replace hMh := hMh.below b8
  go_wp2_with fail
  go_ret
  exact ⟨rfl, B8⟩

set_option maxRecDepth 100000 in
theorem lifted (os : Os) (started : os.Started) (H : Type) (enc : TypeId × Value → H) :
    ReturnsInHanded {} Try.checked os 9 .any (Rows.fnExactCountsBetweenSpec.pre6 enc Try.prog Try.f9 Rows.fnExactCountsBetweenRow.domain false) (Rows.fnExactCountsBetweenSpec.post enc Try.prog Try.f9 false true false false) := by
  refine returnsInHanded_of_change (C := Try.checked) own started (by kernel_rfl) Try.func9
    (ChangeSpec.witness6 (enc := enc) (C := Try.checked) false ⟨#[], #[.int .i64 0, .int .i64 0, .int .i64 0, .int .i64 0], []⟩ 8 (by kernel_rfl) (by kernel_rfl) (by kernel_rfl) (by kernel_rfl)) ?_
  intro W base args ds gs before hval0 hW hcnd _
  have hval : ∀ (j : Nat) t v, Try.f9.params[j]? = some t → args[j]? = some v → Value.okWide Try.prog W .any base t v := hval0
  have hW' := hW
  obtain ⟨p, q, hA0, hV, rfl, hfz, hnd⟩ := hW
  have hA : DataW.TrodAll enc Try.prog W 0 (fun _ => true) true Try.f9.params.toList args.toList ds p := hA0
  rw [Try.params9] at hA hval
  obtain ⟨v0, vs0, d0, ds0, p0, q0, hargs, rfl, rfl, h0, r0⟩ := trodAll_cons hA
  obtain ⟨v1, vs1, d1, ds1, p1, q1, rfl, rfl, rfl, h1, r1⟩ := trodAll_cons r0
  obtain ⟨v2, vs2, d2, ds2, p2, q2, rfl, rfl, rfl, h2, r2⟩ := trodAll_cons r1
  obtain ⟨v3, vs3, d3, ds3, p3, q3, rfl, rfl, rfl, h3, r3⟩ := trodAll_cons r2
  obtain ⟨rfl, rfl, rfl⟩ := trodAll_nil r3
  obtain rfl : args = #[v0, v1, v2, v3] := by cases args; simp_all
  obtain ⟨rfl, rfl⟩ := trodVars_none hV
  obtain ⟨a0, rfl, rfl, rfl, w0⟩ := open_int Try.underlying2 (hval 0 2 v0 rfl rfl) h0
  obtain ⟨a1, rfl, rfl, rfl, w1⟩ := open_int Try.underlying2 (hval 1 2 v1 rfl rfl) h1
  obtain ⟨a2, rfl, rfl, rfl, w2⟩ := open_int Try.underlying2 (hval 2 2 v2 rfl rfl) h2
  obtain ⟨a3, rfl, rfl, rfl, w3⟩ := open_int Try.underlying2 (hval 3 2 v3 rfl rfl) h3
  clear hA0 hval0
  refine (walk a0 a1 a2 a3 W w0 w1 w2 w3).mono fun e W' ⟨he, bel⟩ => ?_
  subst he
  exact ⟨_, rfl, _, _, _, [], _, [], hW', trodAll_mk1 (shut_bool Try.underlying4 _), (trodAll_cons_mk (shut_int Try.underlying2 w0) (trodAll_cons_mk (shut_int Try.underlying2 w1) (trodAll_cons_mk (shut_int Try.underlying2 w2) (trodAll_cons_mk (shut_int Try.underlying2 w3) trodAll_mk0)))), rfl, bel.frame _, fun h => by cases h⟩

theorem over : Rows.fnExactCountsBetweenRow.holds Try.pinned (OpenSpec.ofChange Rows.fnExactCountsBetweenSpec) :=
  OpenClaim.holds_of_wide 9 Try.f9 rfl rfl rfl rfl rfl rfl rfl ⟨rfl, rfl, rfl, rfl, rfl⟩ rfl rfl rfl rfl rfl (by kernel_rfl) Try.func9 (by kernel_rfl)
    (of_decide_eq_true (by kernel_rfl)) (by unfold Func.isWrapper; first | (rw [if_pos (by decide +kernel)]; kernel_rfl) | (rw [if_neg (by decide +kernel)]; exact ⟨rfl, rfl⟩))
    (fun os started H enc _ => lifted os started H enc)

theorem proved : Rows.FnExactCountsBetweenSaid := over
#print axioms proved
end Go.Proofs.Ytbjflgohahmjgaa.fnExactCountsBetween
