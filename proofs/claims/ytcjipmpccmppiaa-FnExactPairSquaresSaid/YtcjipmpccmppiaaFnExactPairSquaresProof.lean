/- FnExactPairSquares: for every list of numbers the program's PairSquares (from the number, the sum and the squares) answers as the model's (over all pairs), and writes into no argument. -/
import Derived.Test.YtcjipmpccmppiaaB1
import Derived.Test.YtcjipmpccmppiaaEA
import Derived.Test.YtcjipmpccmppiaaGI
import Derived.Test.YtcjipmpccmppiaaFK
import Derived.ChangeOld
import Derived.Lib.SmallJoins
namespace Go.Proofs.Ytcjipmpccmppiaa.fnExactPairSquares
open Go.ChangeShapes Go.WideShapes Go.ChangeAt Go.RowKit
open Go.ChangeMaps (open_string shut_string)
set_option linter.unusedVariables false

theorem own : ownKnob Try.prog.godebug = none := by kernel_rfl
theorem laidOut : laidOutB Try.prog = true := by kernel_rfl
set_option maxHeartbeats 8000000 in

theorem walk (a0 : Option Addr) (len0 cap0 : Nat) (z0 : List Int) (w : World) (w0 : IsRow .i64 w a0 len0 cap0 z0) :
    Calls Try.prog 6 #[.slice a0 len0 cap0] w fun e w' => e = .returned (.bool true) ∧ Below w.heap.size w w' := by
  have hz0 := Lst.of_row w0
  generalize z0.take len0 = zs0 at hz0
  clear w0
  have hss : ((psA zs0) != (psA zs0)) = false := by simp
  by_cases hlong0 : (1048576 : Int) < (len0 : Int)
  · go_enter Try.func6, Try.ntmps6
    go_wp2
    go_ret
    exact ⟨rfl, Below.refl _ _⟩
  have hdec0 : decide ((1048576 : Int) < (len0 : Int)) = false := by simpa using hlong0
  have hn0 : len0 ≤ 1048576 := by omega
  clear hlong0
  have hcc : ((psC zs0) != (psC zs0)) = false := by simp
  go_enter Try.func6, Try.ntmps6
  go_wp2_with fail
  refine (toIntO_any _ _ _ zs0 w (hz0.mono (Below.refl _ w)) hn0).mono ?_
  rintro e u1 ⟨g1, rfl, hi1, b1⟩
  have y1 := (hi1.lt g1 rfl).1
  have yl1 := (hi1.lt g1 rfl).2
  have hx1 : Lst u1 (some ⟨g1, 0, none⟩) len0 zs0 := Lst.of_own hi1
  have zz1 := b1.size
  have B1 := belowCall (Below.refl _ w) b1
  go_wp2_with fail
  refine (sPsq_any _ _ _ zs0 u1 hx1 hn0).mono ?_
  rintro e u2 ⟨rfl, b2⟩
  clear hx1
  have zz2 := b2.size
  have B2 := belowCall B1 b2
  go_wp2_with fail
  refine (toIntO_any _ _ _ zs0 u2 (hz0.mono B2) hn0).mono ?_
  rintro e u3 ⟨g3, rfl, hi3, b3⟩
  have y3 := (hi3.lt g3 rfl).1
  have yl3 := (hi3.lt g3 rfl).2
  have hx3 : Lst u3 (some ⟨g3, 0, none⟩) len0 zs0 := Lst.of_own hi3
  have zz3 := b3.size
  have B3 := belowCall B2 b3
  go_wp2_with fail
  refine (iPsq_any _ _ _ zs0 u3 hx3 hn0).mono ?_
  rintro e u4 ⟨rfl, b4⟩
  have zz4 := b4.size
  have B4 := belowCall B3 b4
  replace hi3 := ownKeepF hi3 b4
  replace hx3 := hx3.mono b4
  go_wp2_with fail
  refine (toIntO_any _ _ _ zs0 u4 (hz0.mono B4) hn0).mono ?_
  rintro e u5 ⟨g5, rfl, hi5, b5⟩
  have y5 := (hi5.lt g5 rfl).1
  have yl5 := (hi5.lt g5 rfl).2
  have hx5 : Lst u5 (some ⟨g5, 0, none⟩) len0 zs0 := Lst.of_own hi5
  have zz5 := b5.size
  have B5 := belowCall B4 b5
  replace hi3 := ownKeepF hi3 b5
  replace hx3 := hx3.mono b5
  go_wp2_with fail
  refine (eqI_self _ _ _ _ _ zs0 u5 hx3 hx5 hn0).mono ?_
  rintro e u6 ⟨rfl, b6⟩
  clear hx5
  have zz6 := b6.size
  have B6 := belowCall B5 b6
  replace hi3 := ownKeepF hi3 b6
  replace hx3 := hx3.mono b6
  go_wp2_with fail
  go_ret
  exact ⟨rfl, B6⟩

set_option maxRecDepth 100000 in
theorem lifted (os : Os) (started : os.Started) (H : Type) (enc : TypeId × Value → H) :
    ReturnsInHanded {} Try.checked os 6 .any (Rows.fnExactPairSquaresSpec.pre6 enc Try.prog Try.f6 Rows.fnExactPairSquaresRow.domain false) (Rows.fnExactPairSquaresSpec.post enc Try.prog Try.f6 false true false false) := by
  refine returnsInHanded_of_change (C := Try.checked) own started (by kernel_rfl) Try.func6
    (ChangeSpec.witness6 (enc := enc) (C := Try.checked) false ⟨#[], #[.slice none 0 0], []⟩ 8 (by kernel_rfl) (by kernel_rfl) (by kernel_rfl) (by kernel_rfl)) ?_
  intro W base args ds gs before hval0 hW hcnd _
  have hval : ∀ (j : Nat) t v, Try.f6.params[j]? = some t → args[j]? = some v → Value.okWide Try.prog W .any base t v := hval0
  have hW' := hW
  obtain ⟨p, q, hA0, hV, rfl, hfz, hnd⟩ := hW
  have hA : DataW.TrodAll enc Try.prog W 0 (fun _ => true) true Try.f6.params.toList args.toList ds p := hA0
  rw [Try.params6] at hA hval
  obtain ⟨v0, vs0, d0, ds0, p0, q0, hargs, rfl, rfl, h0, r0⟩ := trodAll_cons hA
  obtain ⟨rfl, rfl, rfl⟩ := trodAll_nil r0
  obtain rfl : args = #[v0] := by cases args; simp_all
  obtain ⟨rfl, rfl⟩ := trodVars_none hV
  have k0 := h0
  have lt0 : ∀ x ∈ p0, x.block < W.heap.size := by obtain ⟨m, hm⟩ := k0; exact DataW.trod_lt m _ _ _ hm
  obtain ⟨a0, len0, cap0, rfl⟩ := okWide_slice Try.underlying24 (hval 0 24 v0 rfl rfl)
  obtain ⟨z0, w0⟩ : ∃ zs, IsRow .i64 W a0 len0 cap0 zs := by
    obtain ⟨fuel, hf⟩ := h0
    rcases open_ints Try.underlying24 Try.underlying2 (by kernel_rfl) hf with ⟨hcs, _⟩ | ⟨x, l, c, zs, hcs, _, hl, hm, hz, _, hcell, hwz⟩
    · simp [Value.cells] at hcs
      obtain ⟨rfl, rfl, rfl⟩ := hcs
      exact ⟨[], .inl ⟨rfl, rfl, rfl, rfl⟩⟩
    · simp [Value.cells] at hcs
      obtain ⟨rfl, rfl, rfl⟩ := hcs
      exact ⟨zs, .inr ⟨_, rfl, hl, hm, by simpa using hz, hcell, hwz⟩⟩
  clear hA0 hval0
  refine (walk a0 len0 cap0 z0 W w0).mono fun e W' ⟨he, bel⟩ => ?_
  subst he
  exact ⟨_, rfl, _, _, _, [], _, [], hW', trodAll_mk1 (shut_bool Try.underlying4 _), (trodAll_cons_mk (Below.trod laidOut (by kernel_rfl) (of_decide_eq_true (by kernel_rfl)) k0 bel lt0) trodAll_mk0), rfl, bel.frame _, fun h => by cases h⟩

theorem over : Rows.fnExactPairSquaresRow.holds Try.pinned (OpenSpec.ofChange Rows.fnExactPairSquaresSpec) :=
  OpenClaim.holds_of_wide 6 Try.f6 rfl rfl rfl rfl rfl rfl rfl ⟨rfl, rfl, rfl, rfl, rfl⟩ rfl rfl rfl rfl rfl (by kernel_rfl) Try.func6 (by kernel_rfl)
    (of_decide_eq_true (by kernel_rfl)) (by unfold Func.isWrapper; first | (rw [if_pos (by decide +kernel)]; kernel_rfl) | (rw [if_neg (by decide +kernel)]; exact ⟨rfl, rfl⟩))
    (fun os started H enc _ => lifted os started H enc)

theorem proved : Rows.FnExactPairSquaresSaid := over
#print axioms proved
end Go.Proofs.Ytcjipmpccmppiaa.fnExactPairSquares
