/- FnExactValidStars: for every slice of stars (that holds no more than the law's bound) the program's ValidStars answers as the model's, and writes into no argument. -/
import Derived.Test.YtompkkbpaiaflaaS6
import Derived.Test.YtompkkbpaiaflaaS8
import Derived.ChangeOld
import Derived.Lib.SmallJoins
namespace Go.Proofs.Ytompkkbpaiaflaa.fnExactValidStars
open Go.ChangeShapes Go.WideShapes Go.ChangeAt Go.RowKit
open Go.ChangeMaps (open_string shut_string)
set_option linter.unusedVariables false

theorem own : ownKnob Try.prog.godebug = none := by kernel_rfl
theorem laidOut : laidOutB Try.prog = true := by kernel_rfl

theorem walk (a0 : Option Addr) (len0 cap0 : Nat) (z0 : List St) (w : World) (w0 : IsStars w a0 len0 cap0 z0) :
    Calls Try.prog 3 #[.slice a0 len0 cap0] w fun e w' => e = .returned (.bool true) ∧ Below w.heap.size w w' := by
  by_cases hbig : (1048576 : Int) < totS z0
  · have HZ := Lib.hid (szR_no hbig)
    go_enter Try.func3, Try.ntmps3
    go_wp2_with fail
    refine (szStarS_any _ _ _ z0 1048576 _ w0 (by omega) (by omega)).mono ?_
    rintro e w1 ⟨rfl, b1⟩
    rw [HZ.out]
    go_wp2
    go_ret
    exact ⟨rfl, b1⟩
  have HZ := Lib.hid (szR_yes hbig)
  have hn : len0 ≤ 1048576 := by have h1 := totS_nonneg z0; have h2 := w0.1.1; omega
  have hn0 : ¬ (1048576 : Int) - totS z0 < 0 := by omega
  obtain ⟨v, hv⟩ : ∃ v, okS z0 = v := ⟨_, rfl⟩
  have HV := Lib.hid hv
  clear hv
  go_enter Try.func3, Try.ntmps3
  go_wp2_with fail
  refine (szStarS_any _ _ _ z0 1048576 _ w0 (by omega) (by omega)).mono ?_
  rintro e w1 ⟨rfl, b1⟩
  rw [HZ.out]
  go_wp2_with fail
  refine (toStarS_any _ _ _ z0 w1 (w0.1.mono b1) hn).mono ?_
  rintro e w2 ⟨g2, rfl, -, hr2, b2⟩
  have hs2 := StL.of_row w0.1.1 hr2
  go_wp2_with fail
  refine (sValidStars_any _ _ _ z0 w2 hs2 hn).mono ?_
  rintro e w3 ⟨rfl, b3⟩
  rw [HV.out]
  have B3 : Below w.heap.size w w3 := belowCall (belowCall b1 b2) b3
  go_wp2_with fail
  refine (toStarS_any _ _ _ z0 w3 (w0.1.mono B3) hn).mono ?_
  rintro e w4 ⟨g4, rfl, -, hr4, b4⟩
  have hs4 := StL.of_row w0.1.1 hr4
  go_wp2_with fail
  refine (iValidStars_any _ _ _ z0 w4 hs4 hn).mono ?_
  rintro e w5 ⟨rfl, b5⟩
  rw [HV.out]
  have B5 : Below w.heap.size w w5 := belowCall (belowCall B3 b4) b5
  have hneq : (v != v) = false := by simp
  go_wp2_with fail
  refine (toStarS_any _ _ _ z0 w5 (w0.1.mono B5) hn).mono ?_
  rintro e w6 ⟨g6, rfl, -, hr6, b6⟩
  have hs6 := StL.of_row w0.1.1 hr6
  go_wp2_with fail
  refine (eqStarS_self _ _ _ _ _ z0 w6 ((hs4.mono b5).mono b6) hs6 hn).mono ?_
  rintro e w7 ⟨rfl, b7⟩
  go_wp2
  go_ret
  exact ⟨rfl, belowCall (belowCall B5 b6) b7⟩

set_option maxRecDepth 100000 in
theorem lifted (os : Os) (started : os.Started) (H : Type) (enc : TypeId × Value → H) :
    ReturnsInHanded {} Try.checked os 3 .any (Rows.fnExactValidStarsSpec.pre6 enc Try.prog Try.f3 Rows.fnExactValidStarsRow.domain false) (Rows.fnExactValidStarsSpec.post enc Try.prog Try.f3 false true false false) := by
  refine returnsInHanded_of_change (C := Try.checked) own started (by kernel_rfl) Try.func3
    (ChangeSpec.witness6 (enc := enc) (C := Try.checked) false ⟨#[], #[.slice none 0 0], []⟩ 8 (by kernel_rfl) (by kernel_rfl) (by kernel_rfl) (by kernel_rfl)) ?_
  intro W base args ds gs before hval0 hW hcnd _
  have hval : ∀ (j : Nat) t v, Try.f3.params[j]? = some t → args[j]? = some v → Value.okWide Try.prog W .any base t v := hval0
  have hW' := hW
  obtain ⟨p, q, hA0, hV, rfl, hfz, hnd⟩ := hW
  have hA : DataW.TrodAll enc Try.prog W 0 (fun _ => true) true Try.f3.params.toList args.toList ds p := hA0
  rw [Try.params3] at hA hval
  obtain ⟨v0, vs0, d0, ds0, p0, q0, hargs, rfl, rfl, h0, r0⟩ := trodAll_cons hA
  obtain ⟨rfl, rfl, rfl⟩ := trodAll_nil r0
  obtain rfl : args = #[v0] := by cases args; simp_all
  obtain ⟨rfl, rfl⟩ := trodVars_none hV
  have k0 := h0
  have lt0 : ∀ x ∈ p0, x.block < W.heap.size := by obtain ⟨m, hm⟩ := k0; exact DataW.trod_lt m _ _ _ hm
  obtain ⟨a0, len0, cap0, rfl⟩ := okWide_slice Try.underlying22 (hval 0 22 v0 rfl rfl)
  obtain ⟨z0, w0⟩ : ∃ zs, IsStars W a0 len0 cap0 zs := by
    obtain ⟨fuel, hf⟩ := h0
    exact stars_of Try.underlying22 Try.underlying38 (by kernel_rfl) (show Try.prog.cellsOf 38 = 5 by kernel_rfl) Try.underlying9 Try.underlying2 Try.underlying2 Try.underlying2 Try.underlying2 (by simpa [Value.cells] using hf)
  clear hA0 hval0
  refine (walk a0 len0 cap0 z0 W w0).mono fun e W' ⟨he, bel⟩ => ?_
  subst he
  exact ⟨_, rfl, _, _, _, [], _, [], hW', trodAll_mk1 (shut_bool Try.underlying4 _), (trodAll_cons_mk (Below.trod laidOut (by kernel_rfl) (of_decide_eq_true (by kernel_rfl)) k0 bel lt0) trodAll_mk0), rfl, bel.frame _, fun h => by cases h⟩

theorem over : Rows.fnExactValidStarsRow.holds Try.pinned (OpenSpec.ofChange Rows.fnExactValidStarsSpec) :=
  OpenClaim.holds_of_wide 3 Try.f3 rfl rfl rfl rfl rfl rfl rfl ⟨rfl, rfl, rfl, rfl, rfl⟩ rfl rfl rfl rfl rfl (by kernel_rfl) Try.func3 (by kernel_rfl)
    (of_decide_eq_true (by kernel_rfl)) (by unfold Func.isWrapper; first | (rw [if_pos (by decide +kernel)]; kernel_rfl) | (rw [if_neg (by decide +kernel)]; exact ⟨rfl, rfl⟩))
    (fun os started H enc _ => lifted os started H enc)

theorem proved : Rows.FnExactValidStarsSaid := over
#print axioms proved
end Go.Proofs.Ytompkkbpaiaflaa.fnExactValidStars
