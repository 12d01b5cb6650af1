/- FnExactVarianceOf: for every list of numbers the program's VarianceOf answers as the model's, and writes into no argument. -/
import Derived.Test.YtcjipmpccmppiaaB1
import Derived.Test.YtcjipmpccmppiaaEAV
import Derived.Test.YtcjipmpccmppiaaGI
import Derived.Test.YtcjipmpccmppiaaFK
import Derived.ChangeOld
import Derived.Lib.SmallJoins
namespace Go.Proofs.Ytcjipmpccmppiaa.fnExactVarianceOf
open Go.ChangeShapes Go.WideShapes Go.ChangeAt Go.RowKit
open Go.ChangeMaps (open_string shut_string)
set_option linter.unusedVariables false

theorem own : ownKnob Try.prog.godebug = none := by kernel_rfl
theorem laidOut : laidOutB Try.prog = true := by kernel_rfl
set_option maxHeartbeats 8000000 in

theorem walk (a0 : Option Addr) (len0 cap0 : Nat) (z0 : List Int) (w : World) (w0 : IsRow .i64 w a0 len0 cap0 z0) :
    Calls Try.prog 7 #[.slice a0 len0 cap0] w fun e w' => e = .returned (.bool true) ∧ Below w.heap.size w w' := by
  have hz0 := Lst.of_row w0
  generalize z0.take len0 = zs0 at hz0
  clear w0
  by_cases hlong0 : (1048576 : Int) < (len0 : Int)
  · go_enter Try.func7, Try.ntmps7
    go_wp2
    go_ret
    exact ⟨rfl, Below.refl _ _⟩
  have hdec0 : decide ((1048576 : Int) < (len0 : Int)) = false := by simpa using hlong0
  have hn0 : len0 ≤ 1048576 := by omega
  clear hlong0
  go_enter Try.func7, Try.ntmps7
  go_wp2_with fail
  refine (toIntO_any _ _ _ zs0 w (hz0.mono (Below.refl _ w)) hn0).mono ?_
  rintro e u1 ⟨g1, rfl, hi1, b1⟩
  have y1 := (hi1.lt g1 rfl).1
  have yl1 := (hi1.lt g1 rfl).2
  have hx1 : Lst u1 (some ⟨g1, 0, none⟩) len0 zs0 := Lst.of_own hi1
  have zz1 := b1.size
  have B1 := belowCall (Below.refl _ w) b1
  go_wp2_with fail
  refine (sVar_any _ _ _ zs0 u1 hx1 hn0).mono ?_
  rintro e u2 ⟨⟨x0, x1, xc, hrx, rfl⟩, b2⟩
  have hcc : (xc != xc) = false := by simp
  clear hx1
  have zz2 := b2.size
  have B2 := belowCall B1 b2
  have b3 : Below u2.heap.size u2 (u2.alloc (.cells #[.int .i64 x0, .int .i64 x1] 27)) := (Below.refl _ _).alloc (Nat.le_refl _) _
  have kw := FrC.fresh u2 27 x0 x1
  go_wp2_with fail
  generalize u2.alloc (.cells #[.int .i64 x0, .int .i64 x1] 27) = u3 at b3 kw ⊢
  have zz3 := b3.size
  have B3 := belowCall B2 b3
  refine (toIntO_any _ _ _ zs0 u3 (hz0.mono B3) hn0).mono ?_
  rintro e u4 ⟨g4, rfl, hi4, b4⟩
  have y4 := (hi4.lt g4 rfl).1
  have yl4 := (hi4.lt g4 rfl).2
  have hx4 : Lst u4 (some ⟨g4, 0, none⟩) len0 zs0 := Lst.of_own hi4
  have zz4 := b4.size
  have B4 := belowCall B3 b4
  replace kw := kw.mono b4
  go_wp2_with fail
  refine (iVar_any _ _ _ zs0 u4 hx4 hn0).mono ?_
  rintro e u5 ⟨⟨y0, y1, yc, hry, rfl⟩, b5⟩
  have hq := hrx.symm.trans hry
  cases hq
  clear hry
  have zz5 := b5.size
  have B5 := belowCall B4 b5
  replace hi4 := ownKeepF hi4 b5
  replace hx4 := hx4.mono b5
  replace kw := kw.mono b5
  have b6 : Below u5.heap.size u5 (u5.alloc (.cells #[.int .i64 x0, .int .i64 x1] 27)) := (Below.refl _ _).alloc (Nat.le_refl _) _
  have kg := FrC.fresh u5 27 x0 x1
  replace kw := kw.mono b6
  obtain ⟨-, kw0, kw1⟩ := kw.parts
  rw [Nat.zero_add] at kw1
  obtain ⟨-, kg0, kg1⟩ := kg.parts
  rw [Nat.zero_add] at kg1
  go_wp2_with fail
  generalize u5.alloc (.cells #[.int .i64 x0, .int .i64 x1] 27) = u6 at b6 kw kg kw0 kw1 kg0 kg1 ⊢
  have zz6 := b6.size
  have B6 := belowCall B5 b6
  replace hi4 := ownKeepF hi4 b6
  replace hx4 := hx4.mono b6
  refine (eqFr_self _ _ _).mono ?_
  rintro e u7 ⟨rfl, b7⟩
  clear kw0 kw1
  clear kg0 kg1
  have zz7 := b7.size
  have B7 := belowCall B6 b7
  replace hi4 := ownKeepF hi4 b7
  replace hx4 := hx4.mono b7
  replace kw := kw.mono b7
  replace kg := kg.mono b7
  go_wp2_with fail
  refine (toIntO_any _ _ _ zs0 u7 (hz0.mono B7) hn0).mono ?_
  rintro e u8 ⟨g8, rfl, hi8, b8⟩
  have y8 := (hi8.lt g8 rfl).1
  have yl8 := (hi8.lt g8 rfl).2
  have hx8 : Lst u8 (some ⟨g8, 0, none⟩) len0 zs0 := Lst.of_own hi8
  have zz8 := b8.size
  have B8 := belowCall B7 b8
  replace hi4 := ownKeepF hi4 b8
  replace hx4 := hx4.mono b8
  replace kw := kw.mono b8
  replace kg := kg.mono b8
  go_wp2_with fail
  refine (eqI_self _ _ _ _ _ zs0 u8 hx4 hx8 hn0).mono ?_
  rintro e u9 ⟨rfl, b9⟩
  clear hx8
  have zz9 := b9.size
  have B9 := belowCall B8 b9
  replace hi4 := ownKeepF hi4 b9
  replace hx4 := hx4.mono b9
  replace kw := kw.mono b9
  replace kg := kg.mono b9
  go_wp2_with fail
  go_ret
  exact ⟨rfl, B9⟩

set_option maxRecDepth 100000 in
theorem lifted (os : Os) (started : os.Started) (H : Type) (enc : TypeId × Value → H) :
    ReturnsInHanded {} Try.checked os 7 .any (Rows.fnExactVarianceOfSpec.pre6 enc Try.prog Try.f7 Rows.fnExactVarianceOfRow.domain false) (Rows.fnExactVarianceOfSpec.post enc Try.prog Try.f7 false true false false) := by
  refine returnsInHanded_of_change (C := Try.checked) own started (by kernel_rfl) Try.func7
    (ChangeSpec.witness6 (enc := enc) (C := Try.checked) false ⟨#[], #[.slice none 0 0], []⟩ 8 (by kernel_rfl) (by kernel_rfl) (by kernel_rfl) (by kernel_rfl)) ?_
  intro W base args ds gs before hval0 hW hcnd _
  have hval : ∀ (j : Nat) t v, Try.f7.params[j]? = some t → args[j]? = some v → Value.okWide Try.prog W .any base t v := hval0
  have hW' := hW
  obtain ⟨p, q, hA0, hV, rfl, hfz, hnd⟩ := hW
  have hA : DataW.TrodAll enc Try.prog W 0 (fun _ => true) true Try.f7.params.toList args.toList ds p := hA0
  rw [Try.params7] at hA hval
  obtain ⟨v0, vs0, d0, ds0, p0, q0, hargs, rfl, rfl, h0, r0⟩ := trodAll_cons hA
  obtain ⟨rfl, rfl, rfl⟩ := trodAll_nil r0
  obtain rfl : args = #[v0] := by cases args; simp_all
  obtain ⟨rfl, rfl⟩ := trodVars_none hV
  have k0 := h0
  have lt0 : ∀ x ∈ p0, x.block < W.heap.size := by obtain ⟨m, hm⟩ := k0; exact DataW.trod_lt m _ _ _ hm
  obtain ⟨a0, len0, cap0, rfl⟩ := okWide_slice Try.underlying24 (hval 0 24 v0 rfl rfl)
  obtain ⟨z0, w0⟩ : ∃ zs, IsRow .i64 W a0 len0 cap0 zs := by
    obtain ⟨fuel, hf⟩ := h0
    rcases open_ints Try.underlying24 Try.underlying2 (by kernel_rfl) hf with ⟨hcs, _⟩ | ⟨x, l, c, zs, hcs, _, hl, hm, hz, _, hcell, hwz⟩
    · simp [Value.cells] at hcs
      obtain ⟨rfl, rfl, rfl⟩ := hcs
      exact ⟨[], .inl ⟨rfl, rfl, rfl, rfl⟩⟩
    · simp [Value.cells] at hcs
      obtain ⟨rfl, rfl, rfl⟩ := hcs
      exact ⟨zs, .inr ⟨_, rfl, hl, hm, by simpa using hz, hcell, hwz⟩⟩
  clear hA0 hval0
  refine (walk a0 len0 cap0 z0 W w0).mono fun e W' ⟨he, bel⟩ => ?_
  subst he
  exact ⟨_, rfl, _, _, _, [], _, [], hW', trodAll_mk1 (shut_bool Try.underlying4 _), (trodAll_cons_mk (Below.trod laidOut (by kernel_rfl) (of_decide_eq_true (by kernel_rfl)) k0 bel lt0) trodAll_mk0), rfl, bel.frame _, fun h => by cases h⟩

theorem over : Rows.fnExactVarianceOfRow.holds Try.pinned (OpenSpec.ofChange Rows.fnExactVarianceOfSpec) :=
  OpenClaim.holds_of_wide 7 Try.f7 rfl rfl rfl rfl rfl rfl rfl ⟨rfl, rfl, rfl, rfl, rfl⟩ rfl rfl rfl rfl rfl (by kernel_rfl) Try.func7 (by kernel_rfl)
    (of_decide_eq_true (by kernel_rfl)) (by unfold Func.isWrapper; first | (rw [if_pos (by decide +kernel)]; kernel_rfl) | (rw [if_neg (by decide +kernel)]; exact ⟨rfl, rfl⟩))
    (fun os started H enc _ => lifted os started H enc)

theorem proved : Rows.FnExactVarianceOfSaid := over
#print axioms proved
end Go.Proofs.Ytcjipmpccmppiaa.fnExactVarianceOf
