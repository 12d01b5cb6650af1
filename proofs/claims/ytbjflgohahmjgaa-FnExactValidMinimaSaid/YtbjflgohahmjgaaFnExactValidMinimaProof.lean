/- FnExactValidMinima: for every slice of minima (that holds no more than the law's bound) the program's ValidMinima (a generic function with a method expression) answers as the model's, and writes into no argument. -/
import Derived.Test.YtbjflgohahmjgaaB1
import Derived.Test.YtbjflgohahmjgaaPB
import Derived.Test.YtbjflgohahmjgaaPF
import Derived.ChangeOld
import Derived.Lib.SmallJoins
namespace Go.Proofs.Ytbjflgohahmjgaa.fnExactValidMinima
open Go.ChangeShapes Go.WideShapes Go.ChangeAt Go.RowKit
open Go.ChangeMaps (open_string shut_string)
set_option linter.unusedVariables false

theorem own : ownKnob Try.prog.godebug = none := by kernel_rfl
theorem laidOut : laidOutB Try.prog = true := by kernel_rfl
set_option maxHeartbeats 8000000 in

theorem walk (a0 : Option Addr) (len0 cap0 : Nat) (z0 : List Mi) (w : World) (w0 : IsMi w a0 len0 cap0 z0) :
    Calls Try.prog 4 #[.slice a0 len0 cap0] w fun e w' => e = .returned (.bool true) ∧ Below w.heap.size w w' := by
  have hl0 : (0 : Int) ≤ 1048576 := by omega
  have hu0 : (1048576 : Int) ≤ 1048576 := by omega
  by_cases hbig0 : (1048576 : Int) < totMi z0
  · have HZ0 := Lib.hid (szQ_no hbig0)
    go_enter Try.func4, Try.ntmps4
    go_wp2_with fail
    refine (szMiS_any _ _ _ z0 1048576 _ (w0.mono (Below.refl _ w)) hl0 hu0).mono ?_
    rintro e s0 ⟨rfl, c0⟩
    rw [HZ0.out]
    have B0 : Below w.heap.size w s0 := c0
    go_wp2
    go_ret
    exact ⟨rfl, B0⟩
  have HZ0 := Lib.hid (szQ_yes hbig0)
  have hn0 : len0 ≤ 1048576 := by have h1 := totMi_nonneg z0; have h2 := w0.1.1; omega
  have hg0 : ¬ (1048576 : Int) - totMi z0 < 0 := by omega
  clear hbig0
  have hcc : ((okM z0) != (okM z0)) = false := by simp
  go_enter Try.func4, Try.ntmps4
  go_wp2_with fail
  refine (szMiS_any _ _ _ z0 1048576 _ (w0.mono (Below.refl _ w)) hl0 hu0).mono ?_
  rintro e s0 ⟨rfl, c0⟩
  rw [HZ0.out]
  have B0 : Below w.heap.size w s0 := c0
  clear hl0 hu0
  have zzB := B0.size
  go_wp2_with fail
  refine (toMiS_any _ _ _ z0 s0 (w0.1.mono B0) hn0).mono ?_
  rintro e u1 ⟨g1, rfl, y1, hr1, b1⟩
  have yl1 := hr1.lt
  have hx1 := MiL.of_row w0.1.1 hr1
  have zz1 := b1.size
  have B1 := belowCall B0 b1
  go_wp2_with fail
  refine (sValidMi_any _ _ _ z0 u1 hx1 hn0).mono ?_
  rintro e u2 ⟨rfl, b2⟩
  clear hx1
  have zz2 := b2.size
  have B2 := belowCall B1 b2
  go_wp2_with fail
  refine (toMiS_any _ _ _ z0 u2 (w0.1.mono B2) hn0).mono ?_
  rintro e u3 ⟨g3, rfl, y3, hr3, b3⟩
  have yl3 := hr3.lt
  have hx3 := MiL.of_row w0.1.1 hr3
  have zz3 := b3.size
  have B3 := belowCall B2 b3
  go_wp2_with fail
  refine (iValidMi_any _ _ _ z0 u3 hx3 hn0).mono ?_
  rintro e u4 ⟨rfl, b4⟩
  have zz4 := b4.size
  have B4 := belowCall B3 b4
  replace hr3 := rowB hr3 b4
  replace hx3 := hx3.mono b4
  go_wp2_with fail
  refine (toMiS_any _ _ _ z0 u4 (w0.1.mono B4) hn0).mono ?_
  rintro e u5 ⟨g5, rfl, y5, hr5, b5⟩
  have yl5 := hr5.lt
  have hx5 := MiL.of_row w0.1.1 hr5
  have zz5 := b5.size
  have B5 := belowCall B4 b5
  replace hr3 := rowB hr3 b5
  replace hx3 := hx3.mono b5
  go_wp2_with fail
  refine (eqMiS_self _ _ _ _ _ z0 u5 hx3 hx5 hn0).mono ?_
  rintro e u6 ⟨rfl, b6⟩
  clear hx5
  have zz6 := b6.size
  have B6 := belowCall B5 b6
  replace hr3 := rowB hr3 b6
  replace hx3 := hx3.mono b6
  go_wp2_with fail
  go_ret
  exact ⟨rfl, B6⟩

set_option maxRecDepth 100000 in
theorem lifted (os : Os) (started : os.Started) (H : Type) (enc : TypeId × Value → H) :
    ReturnsInHanded {} Try.checked os 4 .any (Rows.fnExactValidMinimaSpec.pre6 enc Try.prog Try.f4 Rows.fnExactValidMinimaRow.domain false) (Rows.fnExactValidMinimaSpec.post enc Try.prog Try.f4 false true false false) := by
  refine returnsInHanded_of_change (C := Try.checked) own started (by kernel_rfl) Try.func4
    (ChangeSpec.witness6 (enc := enc) (C := Try.checked) false ⟨#[], #[.slice none 0 0], []⟩ 8 (by kernel_rfl) (by kernel_rfl) (by kernel_rfl) (by kernel_rfl)) ?_
  intro W base args ds gs before hval0 hW hcnd _
  have hval : ∀ (j : Nat) t v, Try.f4.params[j]? = some t → args[j]? = some v → Value.okWide Try.prog W .any base t v := hval0
  have hW' := hW
  obtain ⟨p, q, hA0, hV, rfl, hfz, hnd⟩ := hW
  have hA : DataW.TrodAll enc Try.prog W 0 (fun _ => true) true Try.f4.params.toList args.toList ds p := hA0
  rw [Try.params4] at hA hval
  obtain ⟨v0, vs0, d0, ds0, p0, q0, hargs, rfl, rfl, h0, r0⟩ := trodAll_cons hA
  obtain ⟨rfl, rfl, rfl⟩ := trodAll_nil r0
  obtain rfl : args = #[v0] := by cases args; simp_all
  obtain ⟨rfl, rfl⟩ := trodVars_none hV
  have k0 := h0
  have lt0 : ∀ x ∈ p0, x.block < W.heap.size := by obtain ⟨m, hm⟩ := k0; exact DataW.trod_lt m _ _ _ hm
  obtain ⟨a0, len0, cap0, rfl⟩ := okWide_slice Try.underlying35 (hval 0 35 v0 rfl rfl)
  obtain ⟨z0, w0⟩ : ∃ zs, IsMi W a0 len0 cap0 zs := by
    obtain ⟨fuel, hf⟩ := h0
    exact mis_of Try.underlying35 Try.underlying53 (by kernel_rfl) (show Try.prog.cellsOf 53 = 2 by kernel_rfl) Try.underlying2 Try.underlying2 (by simpa [Value.cells] using hf)
  clear hA0 hval0
  refine (walk a0 len0 cap0 z0 W w0).mono fun e W' ⟨he, bel⟩ => ?_
  subst he
  exact ⟨_, rfl, _, _, _, [], _, [], hW', trodAll_mk1 (shut_bool Try.underlying4 _), (trodAll_cons_mk (Below.trod laidOut (by kernel_rfl) (of_decide_eq_true (by kernel_rfl)) k0 bel lt0) trodAll_mk0), rfl, bel.frame _, fun h => by cases h⟩

theorem over : Rows.fnExactValidMinimaRow.holds Try.pinned (OpenSpec.ofChange Rows.fnExactValidMinimaSpec) :=
  OpenClaim.holds_of_wide 4 Try.f4 rfl rfl rfl rfl rfl rfl rfl ⟨rfl, rfl, rfl, rfl, rfl⟩ rfl rfl rfl rfl rfl (by kernel_rfl) Try.func4 (by kernel_rfl)
    (of_decide_eq_true (by kernel_rfl)) (by unfold Func.isWrapper; first | (rw [if_pos (by decide +kernel)]; kernel_rfl) | (rw [if_neg (by decide +kernel)]; exact ⟨rfl, rfl⟩))
    (fun os started H enc _ => lifted os started H enc)

theorem proved : Rows.FnExactValidMinimaSaid := over
#print axioms proved
end Go.Proofs.Ytbjflgohahmjgaa.fnExactValidMinima
