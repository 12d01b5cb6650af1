/- FnExactAliasOf: for every two numbers the program's AliasOf (a range over an array) answers as the model's, and its answer owns its memory: it holds the law's marks through another call. -/
import Derived.Test.YtejkflacpbjkjaaB1
import Derived.Test.YtejkflacpbjkjaaF4
import Derived.Test.YtejkflacpbjkjaaGI
import Derived.Test.YtejkflacpbjkjaaH7R
import Derived.ChangeOld
import Derived.Lib.SmallJoins
namespace Go.Proofs.Ytejkflacpbjkjaa.fnExactAliasOf
open Go.ChangeShapes Go.WideShapes Go.ChangeAt Go.RowKit
open Go.ChangeMaps (open_string shut_string)
set_option linter.unusedVariables false

theorem own : ownKnob Try.prog.godebug = none := by kernel_rfl
theorem laidOut : laidOutB Try.prog = true := by kernel_rfl
set_option maxHeartbeats 8000000 in

theorem walk (a0 : Int) (a1 : Int) (w : World) (w0 : (Lit.int .i64 a0).wf = true) (w1 : (Lit.int .i64 a1).wf = true) :
    Calls Try.prog 12 #[.int .i64 a0, .int .i64 a1] w fun e w' => e = .returned (.bool true) ∧ Below w.heap.size w w' := by
  have hcc : ((aliC a0 a1) != (aliC a0 a1)) = false := by simp
  go_enter Try.func12, Try.ntmps12
  go_wp2_with fail
  refine (sAli_any a0 a1 w).mono ?_
  rintro e u1 ⟨⟨aw, caw, rfl, hLw0⟩, b1⟩
  have zz1 := b1.size
  have B1 := belowCall (Below.refl _ w) b1
  have baw := b1.size
  have hLw := (hLw0 1).toL.toB
  clear hLw0
  go_wp2_with fail
  refine (iAli_any a0 a1 u1).mono ?_
  rintro e u2 ⟨⟨ag, cag, rfl, hMg0⟩, b2⟩
  have zz2 := b2.size
  have B2 := belowCall B1 b2
  replace hLw := hLw.below b2 (by omega)
  have bag := b2.size
  have hMg := hMg0 1
  clear hMg0
  go_wp2_with fail
  refine (eqI_self _ _ _ _ _ (aliL a0 a1) u2 hMg.toL hLw.toL (aliL_len (n := 1048576) (by omega) _ _)).mono ?_
  rintro e u3 ⟨rfl, b3⟩
  have zz3 := b3.size
  have B3 := belowCall B2 b3
  replace hLw := hLw.below b3 (by omega)
  replace hMg := hMg.below b3
  go_wp2_with fail
  refine (markI_o ag _ 1 _ _ _ u3 u3 (Below.refl _ _) (by omega) hMg (aliL_len (n := 1048576) (by omega) _ _) (by omega) (by omega)).mono ?_
  rintro e u4 ⟨rfl, hMm, b4⟩
  have zz4 := b4.size
  have B4 : Below w.heap.size w u4 := B3.trans (b4.mono (by omega))
  replace hLw := hLw.below b4 (by omega)
  clear hMg
  have hMg := hMm
  clear hMm
  have hq0 : ¬ ((1 + (aliL a0 a1).length : Nat) : Int) < 0 := by omega
  go_wp2_with fail
  refine (heldI_o ag _ 1 _ _ _ u4 hMg (aliL_len (n := 1048576) (by omega) _ _) (by omega) (by omega)).mono ?_
  rintro e u5 ⟨rfl, b5⟩
  have zz5 := b5.size
  have B5 := belowCall B4 b5
  replace hLw := hLw.below b5 (by omega)
  replace hMg := hMg.below b5
  go_wp2_with fail
  refine (iAli_any a0 a1 u5).mono ?_
  rintro e u6 ⟨⟨ah, cah, rfl, hMh0⟩, b6⟩
  have zz6 := b6.size
  have B6 := belowCall B5 b6
  replace hLw := hLw.below b6 (by omega)
  replace hMg := hMg.below b6
  have bah := b6.size
  have hMh := hMh0 1
  clear hMh0
  go_wp2_with fail
  refine (eqI_self _ _ _ _ _ (aliL a0 a1) u6 hMh.toL hLw.toL (aliL_len (n := 1048576) (by omega) _ _)).mono ?_
  rintro e u7 ⟨rfl, b7⟩
  have zz7 := b7.size
  have B7 := belowCall B6 b7
  replace hLw := hLw.below b7 (by omega)
  replace hMg := hMg.below b7
  replace hMh := hMh.below b7
  go_wp2_with fail
  refine (heldI_o ag _ 1 _ _ _ u7 hMg (aliL_len (n := 1048576) (by omega) _ _) (by omega) (by omega)).mono ?_
  rintro e u8 ⟨rfl, b8⟩
  have zz8 := b8.size
  have B8 := belowCall B7 b8
  replace hLw := hLw.below b8 (by omega)
  replace hMg := hMg.below b8
  replace hMh := hMh.below b8
  go_wp2_with fail
  go_ret
  exact ⟨rfl, B8⟩

set_option maxRecDepth 100000 in
theorem lifted (os : Os) (started : os.Started) (H : Type) (enc : TypeId × Value → H) :
    ReturnsInHanded {} Try.checked os 12 .any (Rows.fnExactAliasOfSpec.pre6 enc Try.prog Try.f12 Rows.fnExactAliasOfRow.domain false) (Rows.fnExactAliasOfSpec.post enc Try.prog Try.f12 false true false false) := by
  refine returnsInHanded_of_change (C := Try.checked) own started (by kernel_rfl) Try.func12
    (ChangeSpec.witness6 (enc := enc) (C := Try.checked) false ⟨#[], #[.int .i64 0, .int .i64 0], []⟩ 8 (by kernel_rfl) (by kernel_rfl) (by kernel_rfl) (by kernel_rfl)) ?_
  intro W base args ds gs before hval0 hW hcnd _
  have hval : ∀ (j : Nat) t v, Try.f12.params[j]? = some t → args[j]? = some v → Value.okWide Try.prog W .any base t v := hval0
  have hW' := hW
  obtain ⟨p, q, hA0, hV, rfl, hfz, hnd⟩ := hW
  have hA : DataW.TrodAll enc Try.prog W 0 (fun _ => true) true Try.f12.params.toList args.toList ds p := hA0
  rw [Try.params12] at hA hval
  obtain ⟨v0, vs0, d0, ds0, p0, q0, hargs, rfl, rfl, h0, r0⟩ := trodAll_cons hA
  obtain ⟨v1, vs1, d1, ds1, p1, q1, rfl, rfl, rfl, h1, r1⟩ := trodAll_cons r0
  obtain ⟨rfl, rfl, rfl⟩ := trodAll_nil r1
  obtain rfl : args = #[v0, v1] := by cases args; simp_all
  obtain ⟨rfl, rfl⟩ := trodVars_none hV
  obtain ⟨a0, rfl, rfl, rfl, w0⟩ := open_int Try.underlying2 (hval 0 2 v0 rfl rfl) h0
  obtain ⟨a1, rfl, rfl, rfl, w1⟩ := open_int Try.underlying2 (hval 1 2 v1 rfl rfl) h1
  clear hA0 hval0
  refine (walk a0 a1 W w0 w1).mono fun e W' ⟨he, bel⟩ => ?_
  subst he
  exact ⟨_, rfl, _, _, _, [], _, [], hW', trodAll_mk1 (shut_bool Try.underlying4 _), (trodAll_cons_mk (shut_int Try.underlying2 w0) (trodAll_cons_mk (shut_int Try.underlying2 w1) trodAll_mk0)), rfl, bel.frame _, fun h => by cases h⟩

theorem over : Rows.fnExactAliasOfRow.holds Try.pinned (OpenSpec.ofChange Rows.fnExactAliasOfSpec) :=
  OpenClaim.holds_of_wide 12 Try.f12 rfl rfl rfl rfl rfl rfl rfl ⟨rfl, rfl, rfl, rfl, rfl⟩ rfl rfl rfl rfl rfl (by kernel_rfl) Try.func12 (by kernel_rfl)
    (of_decide_eq_true (by kernel_rfl)) (by unfold Func.isWrapper; first | (rw [if_pos (by decide +kernel)]; kernel_rfl) | (rw [if_neg (by decide +kernel)]; exact ⟨rfl, rfl⟩))
    (fun os started H enc _ => lifted os started H enc)

theorem proved : Rows.FnExactAliasOfSaid := over
#print axioms proved
end Go.Proofs.Ytejkflacpbjkjaa.fnExactAliasOf
