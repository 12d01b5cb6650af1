/- FnExactRefineExtremum: for every slice of points (that holds no more than the law's bound) and every index the program's RefineExtremum answers as the model's, and writes into no argument. -/
import Derived.Test.YtcjipmpccmppiabB1
import Derived.Test.YtcjipmpccmppiabERE
import Derived.ChangeOld
import Derived.Lib.SmallJoins
namespace Go.Proofs.Ytcjipmpccmppiab.fnExactRefineExtremum
open Go.ChangeShapes Go.WideShapes Go.ChangeAt Go.RowKit
open Go.ChangeMaps (open_string shut_string)
set_option linter.unusedVariables false

theorem own : ownKnob Try.prog.godebug = none := by kernel_rfl
theorem laidOut : laidOutB Try.prog = true := by kernel_rfl
set_option maxHeartbeats 8000000 in

theorem walk (a0 : Option Addr) (len0 cap0 : Nat) (z0 : List Pt) (a1 : Int) (w : World) (w0 : IsPt w a0 len0 cap0 z0) (w1 : (Lit.int .i64 a1).wf = true) :
    Calls Try.prog 12 #[.slice a0 len0 cap0, .int .i64 a1] w fun e w' => e = .returned (.bool true) ∧ Below w.heap.size w w' := by
  have hl0 : (0 : Int) ≤ 1048576 := by omega
  have hu0 : (1048576 : Int) ≤ 1048576 := by omega
  by_cases hbig0 : (1048576 : Int) < totPt z0
  · have HZ0 := Lib.hid (szQ_no hbig0)
    go_enter Try.func12, Try.ntmps12
    go_wp2_with fail
    refine (szPtS_any _ _ _ z0 1048576 _ (w0.mono (Below.refl _ w)) hl0 hu0).mono ?_
    rintro e s0 ⟨rfl, c0⟩
    rw [HZ0.out]
    have B0 : Below w.heap.size w s0 := c0
    go_wp2
    go_ret
    exact ⟨rfl, B0⟩
  have HZ0 := Lib.hid (szQ_yes hbig0)
  have hn0 : len0 ≤ 1048576 := by have h1 := totPt_nonneg z0; have h2 := w0.1.1; omega
  have hg0 : ¬ (1048576 : Int) - totPt z0 < 0 := by omega
  clear hbig0
  go_enter Try.func12, Try.ntmps12
  go_wp2_with fail
  refine (szPtS_any _ _ _ z0 1048576 _ (w0.mono (Below.refl _ w)) hl0 hu0).mono ?_
  rintro e s0 ⟨rfl, c0⟩
  rw [HZ0.out]
  have B0 : Below w.heap.size w s0 := c0
  clear hl0 hu0
  have zzB := B0.size
  go_wp2_with fail
  refine (toPtS_any _ _ _ z0 s0 (w0.1.mono B0) hn0).mono ?_
  rintro e u1 ⟨g1, rfl, y1, hr1, b1⟩
  have yl1 := hr1.lt
  have hx1 := PtL.of_row w0.1.1 hr1
  have zz1 := b1.size
  have B1 := belowCall B0 b1
  go_wp2_with fail
  refine (sRfe_any _ _ _ z0 a1 u1 hx1 hn0).mono ?_
  rintro e u2 ⟨⟨x0, x1, xc, hrx, rfl⟩, b2⟩
  have hcc : (xc != xc) = false := by simp
  clear hx1
  have zz2 := b2.size
  have B2 := belowCall B1 b2
  have b3 : Below u2.heap.size u2 (u2.alloc (.cells #[.int .i64 x0, .int .i64 x1] 37)) := (Below.refl _ _).alloc (Nat.le_refl _) _
  have kw := FrC.fresh u2 37 x0 x1
  go_wp2_with fail
  generalize u2.alloc (.cells #[.int .i64 x0, .int .i64 x1] 37) = u3 at b3 kw ⊢
  have zz3 := b3.size
  have B3 := belowCall B2 b3
  refine (toPtS_any _ _ _ z0 u3 (w0.1.mono B3) hn0).mono ?_
  rintro e u4 ⟨g4, rfl, y4, hr4, b4⟩
  have yl4 := hr4.lt
  have hx4 := PtL.of_row w0.1.1 hr4
  have zz4 := b4.size
  have B4 := belowCall B3 b4
  replace kw := kw.mono b4
  go_wp2_with fail
  refine (iRfe_any _ _ _ z0 a1 u4 hx4 hn0).mono ?_
  rintro e u5 ⟨⟨y0, y1, yc, hry, rfl⟩, b5⟩
  have hq := hrx.symm.trans hry
  cases hq
  clear hry
  have zz5 := b5.size
  have B5 := belowCall B4 b5
  replace hr4 := rowB hr4 b5
  replace hx4 := hx4.mono b5
  replace kw := kw.mono b5
  have b6 : Below u5.heap.size u5 (u5.alloc (.cells #[.int .i64 x0, .int .i64 x1] 37)) := (Below.refl _ _).alloc (Nat.le_refl _) _
  have kg := FrC.fresh u5 37 x0 x1
  replace kw := kw.mono b6
  obtain ⟨-, kw0, kw1⟩ := kw.parts
  rw [Nat.zero_add] at kw1
  obtain ⟨-, kg0, kg1⟩ := kg.parts
  rw [Nat.zero_add] at kg1
  go_wp2_with fail
  generalize u5.alloc (.cells #[.int .i64 x0, .int .i64 x1] 37) = u6 at b6 kw kg kw0 kw1 kg0 kg1 ⊢
  have zz6 := b6.size
  have B6 := belowCall B5 b6
  replace hr4 := rowB hr4 b6
  replace hx4 := hx4.mono b6
  refine (eqFr_self _ _ _).mono ?_
  rintro e u7 ⟨rfl, b7⟩
  clear kw0 kw1
  clear kg0 kg1
  have zz7 := b7.size
  have B7 := belowCall B6 b7
  replace hr4 := rowB hr4 b7
  replace hx4 := hx4.mono b7
  replace kw := kw.mono b7
  replace kg := kg.mono b7
  go_wp2_with fail
  refine (toPtS_any _ _ _ z0 u7 (w0.1.mono B7) hn0).mono ?_
  rintro e u8 ⟨g8, rfl, y8, hr8, b8⟩
  have yl8 := hr8.lt
  have hx8 := PtL.of_row w0.1.1 hr8
  have zz8 := b8.size
  have B8 := belowCall B7 b8
  replace hr4 := rowB hr4 b8
  replace hx4 := hx4.mono b8
  replace kw := kw.mono b8
  replace kg := kg.mono b8
  go_wp2_with fail
  refine (eqPtS_self _ _ _ _ _ z0 u8 hx4 hx8 hn0).mono ?_
  rintro e u9 ⟨rfl, b9⟩
  clear hx8
  have zz9 := b9.size
  have B9 := belowCall B8 b9
  replace hr4 := rowB hr4 b9
  replace hx4 := hx4.mono b9
  replace kw := kw.mono b9
  replace kg := kg.mono b9
  go_wp2_with fail
  go_ret
  exact ⟨rfl, B9⟩

set_option maxRecDepth 100000 in
theorem lifted (os : Os) (started : os.Started) (H : Type) (enc : TypeId × Value → H) :
    ReturnsInHanded {} Try.checked os 12 .any (Rows.fnExactRefineExtremumSpec.pre6 enc Try.prog Try.f12 Rows.fnExactRefineExtremumRow.domain false) (Rows.fnExactRefineExtremumSpec.post enc Try.prog Try.f12 false true false false) := by
  refine returnsInHanded_of_change (C := Try.checked) own started (by kernel_rfl) Try.func12
    (ChangeSpec.witness6 (enc := enc) (C := Try.checked) false ⟨#[], #[.slice none 0 0, .int .i64 0], []⟩ 8 (by kernel_rfl) (by kernel_rfl) (by kernel_rfl) (by kernel_rfl)) ?_
  intro W base args ds gs before hval0 hW hcnd _
  have hval : ∀ (j : Nat) t v, Try.f12.params[j]? = some t → args[j]? = some v → Value.okWide Try.prog W .any base t v := hval0
  have hW' := hW
  obtain ⟨p, q, hA0, hV, rfl, hfz, hnd⟩ := hW
  have hA : DataW.TrodAll enc Try.prog W 0 (fun _ => true) true Try.f12.params.toList args.toList ds p := hA0
  rw [Try.params12] at hA hval
  obtain ⟨v0, vs0, d0, ds0, p0, q0, hargs, rfl, rfl, h0, r0⟩ := trodAll_cons hA
  obtain ⟨v1, vs1, d1, ds1, p1, q1, rfl, rfl, rfl, h1, r1⟩ := trodAll_cons r0
  obtain ⟨rfl, rfl, rfl⟩ := trodAll_nil r1
  obtain rfl : args = #[v0, v1] := by cases args; simp_all
  obtain ⟨rfl, rfl⟩ := trodVars_none hV
  have k0 := h0
  have lt0 : ∀ x ∈ p0, x.block < W.heap.size := by obtain ⟨m, hm⟩ := k0; exact DataW.trod_lt m _ _ _ hm
  obtain ⟨a0, len0, cap0, rfl⟩ := okWide_slice Try.underlying22 (hval 0 22 v0 rfl rfl)
  obtain ⟨z0, w0⟩ : ∃ zs, IsPt W a0 len0 cap0 zs := by
    obtain ⟨fuel, hf⟩ := h0
    exact pts_of Try.underlying22 Try.underlying35 (by kernel_rfl) (show Try.prog.cellsOf 35 = 2 by kernel_rfl) Try.underlying2 Try.underlying2 (by simpa [Value.cells] using hf)
  obtain ⟨a1, rfl, rfl, rfl, w1⟩ := open_int Try.underlying2 (hval 1 2 v1 rfl rfl) h1
  clear hA0 hval0
  refine (walk a0 len0 cap0 z0 a1 W w0 w1).mono fun e W' ⟨he, bel⟩ => ?_
  subst he
  exact ⟨_, rfl, _, _, _, [], _, [], hW', trodAll_mk1 (shut_bool Try.underlying4 _), (trodAll_cons_mk (Below.trod laidOut (by kernel_rfl) (of_decide_eq_true (by kernel_rfl)) k0 bel lt0) (trodAll_cons_mk (shut_int Try.underlying2 w1) trodAll_mk0)), rfl, bel.frame _, fun h => by cases h⟩

theorem over : Rows.fnExactRefineExtremumRow.holds Try.pinned (OpenSpec.ofChange Rows.fnExactRefineExtremumSpec) :=
  OpenClaim.holds_of_wide 12 Try.f12 rfl rfl rfl rfl rfl rfl rfl ⟨rfl, rfl, rfl, rfl, rfl⟩ rfl rfl rfl rfl rfl (by kernel_rfl) Try.func12 (by kernel_rfl)
    (of_decide_eq_true (by kernel_rfl)) (by unfold Func.isWrapper; first | (rw [if_pos (by decide +kernel)]; kernel_rfl) | (rw [if_neg (by decide +kernel)]; exact ⟨rfl, rfl⟩))
    (fun os started H enc _ => lifted os started H enc)

theorem proved : Rows.FnExactRefineExtremumSaid := over
#print axioms proved
end Go.Proofs.Ytcjipmpccmppiab.fnExactRefineExtremum
