/- FnExactPhaseMeans: for every ephemeris, every slice of points (that hold no more than the law's bound) and every number of bins the program's PhaseMeans (an embedded struct's promoted methods, an array of slices by value) answers as the model's, writes into no argument, and its answer owns its memory: it holds the law's marks through another call. -/
import Derived.Test.YtidiiladlmaigaaB1
import Derived.Test.YtidiiladlmaigaaFA
import Derived.Test.YtidiiladlmaigaaFN
import Derived.Test.YtidiiladlmaigaaGR
import Derived.ChangeOld
import Derived.Lib.SmallJoins
namespace Go.Proofs.Ytidiiladlmaigaa.fnExactPhaseMeans
open Go.ChangeShapes Go.WideShapes Go.ChangeAt Go.RowKit
open Go.ChangeMaps (open_string shut_string)
set_option linter.unusedVariables false

theorem own : ownKnob Try.prog.godebug = none := by kernel_rfl
theorem laidOut : laidOutB Try.prog = true := by kernel_rfl
set_option maxHeartbeats 8000000 in

theorem walk (a0_0 : Int) (a0_1 : Int) (a1 : Option Addr) (len1 cap1 : Nat) (z1 : List Pt) (a2 : Int) (w : World) (w0_0 : (Lit.int .i64 a0_0).wf = true) (w0_1 : (Lit.int .i64 a0_1).wf = true) (w1 : IsPt w a1 len1 cap1 z1) (w2 : (Lit.int .i64 a2).wf = true) :
    Calls Try.prog 5 #[.agg #[.int .i64 a0_0, .int .i64 a0_1], .slice a1 len1 cap1, .int .i64 a2] w fun e w' => e = .returned (.bool true) ∧ Below w.heap.size w w' := by
  have hbxE := PtC.fresh w 42 a0_0 a0_1
  have BW : Below w.heap.size w (w.alloc (.cells #[.int .i64 a0_0, .int .i64 a0_1] 42)) := (Below.refl _ w).alloc (Nat.le_refl _) _
  replace w1 := w1.mono BW
  have hl0 : (0 : Int) ≤ 1048576 := by omega
  have hu0 : (1048576 : Int) ≤ 1048576 := by omega
  by_cases hbig0 : (1048576 : Int) < totPt z1
  · have HZ0 := Lib.hid (szQ_no hbig0)
    go_enter Try.func5, Try.ntmps5
    go_wp2_with fail
    generalize w.alloc (.cells #[.int .i64 a0_0, .int .i64 a0_1] 42) = v at hbxE BW w1 ⊢
    refine (szPtS_any _ _ _ z1 1048576 _ (w1.mono (Below.refl _ v)) hl0 hu0).mono ?_
    rintro e s0 ⟨rfl, c0⟩
    rw [HZ0.out]
    have B0 : Below v.heap.size v s0 := c0
    go_wp2
    go_ret
    exact ⟨rfl, belowCall BW (B0)⟩
  have HZ0 := Lib.hid (szQ_yes hbig0)
  have hn1 : len1 ≤ 1048576 := by have h1 := totPt_nonneg z1; have h2 := w1.1.1; omega
  have hg0 : ¬ (1048576 : Int) - totPt z1 < 0 := by omega
  clear hbig0
  have hcc : ((pcC a0_0 a0_1 z1 a2) != (pcC a0_0 a0_1 z1 a2)) = false := by simp
  go_enter Try.func5, Try.ntmps5
  go_wp2_with fail
  generalize w.alloc (.cells #[.int .i64 a0_0, .int .i64 a0_1] 42) = v at hbxE BW w1 ⊢
  refine (szPtS_any _ _ _ z1 1048576 _ (w1.mono (Below.refl _ v)) hl0 hu0).mono ?_
  rintro e s0 ⟨rfl, c0⟩
  rw [HZ0.out]
  have B0 : Below v.heap.size v s0 := c0
  clear hl0 hu0
  have zzB := B0.size
  obtain ⟨-, kE0, kE1⟩ := (hbxE.mono B0).parts
  rw [Nat.zero_add] at kE1
  go_wp2_with fail
  refine (toEp_any _ _ _).mono ?_
  rintro x u1 ⟨rfl, b1⟩
  clear kE0 kE1
  have zz1 := b1.size
  have B1 := belowCall B0 b1
  go_wp2_with fail
  refine (toPtS_any _ _ _ z1 u1 (w1.1.mono B1) hn1).mono ?_
  rintro e u2 ⟨g2, rfl, y2, hr2, b2⟩
  have yl2 := hr2.lt
  have hx2 := PtL.of_row w1.1.1 hr2
  have zz2 := b2.size
  have B2 := belowCall B1 b2
  go_wp2_with fail
  refine (sMeans_any a0_0 a0_1 _ _ _ z1 a2 u2 hx2 hn1).mono ?_
  rintro e u3 ⟨⟨aw, caw, rfl, hLw0⟩, b3⟩
  clear hx2
  have zz3 := b3.size
  have B3 := belowCall B2 b3
  have baw := b3.size
  have hLw := (hLw0 1).toL.toB
  clear hLw0
  go_wp2_with fail
  refine (toPtS_any _ _ _ z1 u3 (w1.1.mono B3) hn1).mono ?_
  rintro e u4 ⟨g4, rfl, y4, hr4, b4⟩
  have yl4 := hr4.lt
  have hx4 := PtL.of_row w1.1.1 hr4
  have zz4 := b4.size
  have B4 := belowCall B3 b4
  replace hLw := hLw.below b4 (by omega)
  obtain ⟨-, kE0, kE1⟩ := (hbxE.mono B4).parts
  rw [Nat.zero_add] at kE1
  go_wp2_with fail
  refine (toEp_any _ _ _).mono ?_
  rintro x u5 ⟨rfl, b5⟩
  clear kE0 kE1
  have zz5 := b5.size
  have B5 := belowCall B4 b5
  replace hr4 := rowB hr4 b5
  replace hx4 := hx4.mono b5
  replace hLw := hLw.below b5 (by omega)
  go_wp2_with fail
  refine (iMeans_any a0_0 a0_1 _ _ _ z1 a2 u5 hx4 hn1 (Nat.le_refl _)).mono ?_
  rintro e u6 ⟨⟨ag, cag, rfl, hMg0⟩, b6⟩
  have zz6 := b6.size
  have B6 := belowCall B5 b6
  replace hr4 := rowB hr4 b6
  replace hx4 := hx4.mono b6
  replace hLw := hLw.below b6 (by omega)
  have bag := b6.size
  have hMg := hMg0 1
  clear hMg0
  go_wp2_with fail
  refine (eqPtS_self _ _ _ _ _ (pmL a0_0 a0_1 z1 a2) u6 hMg.toL hLw.toL (pmL_len (n := 1048576) (by omega) _ _ _ _)).mono ?_
  rintro e u7 ⟨rfl, b7⟩
  have zz7 := b7.size
  have B7 := belowCall B6 b7
  replace hr4 := rowB hr4 b7
  replace hx4 := hx4.mono b7
  replace hLw := hLw.below b7 (by omega)
  replace hMg := hMg.below b7
  go_wp2_with fail
  refine (toPtS_any _ _ _ z1 u7 (w1.1.mono B7) hn1).mono ?_
  rintro e u8 ⟨g8, rfl, y8, hr8, b8⟩
  have yl8 := hr8.lt
  have hx8 := PtL.of_row w1.1.1 hr8
  have zz8 := b8.size
  have B8 := belowCall B7 b8
  replace hr4 := rowB hr4 b8
  replace hx4 := hx4.mono b8
  replace hLw := hLw.below b8 (by omega)
  replace hMg := hMg.below b8
  go_wp2_with fail
  refine (eqPtS_self _ _ _ _ _ z1 u8 hx4 hx8 hn1).mono ?_
  rintro e u9 ⟨rfl, b9⟩
  clear hx8
  have zz9 := b9.size
  have B9 := belowCall B8 b9
  replace hr4 := rowB hr4 b9
  replace hx4 := hx4.mono b9
  replace hLw := hLw.below b9 (by omega)
  replace hMg := hMg.below b9
  clear hx4
  have hm4 : ∀ m, SMG u9 g4 (len1 * 2) (mfPt m 0) := fun m => SMG.of_row hr4 (by intro j; simp [mfPt])
  clear hr4
  go_wp2_with fail
  refine (markPtS_f g4 _ (1) _ u9 (hm4 _) hn1 (by omega) (by omega)).mono ?_
  rintro e u10 ⟨rfl, -, b10⟩
  clear hm4
  have zz10 := b10.size
  have B10 : Below v.heap.size v u10 := B9.grown b10 B9.size (fun k e => by cases e; omega)
  replace hLw := hLw.grown b10 (by omega)
  replace hMg := hMg.far b10 (by omega)
  have hk0 : ¬ ((1 + 2 * len1 : Nat) : Int) < 0 := by omega
  go_wp2_with fail
  refine (eqPtS_self _ _ _ _ _ (pmL a0_0 a0_1 z1 a2) u10 hMg.toL hLw.toL (pmL_len (n := 1048576) (by omega) _ _ _ _)).mono ?_
  rintro e u11 ⟨rfl, b11⟩
  have zz11 := b11.size
  have B11 := belowCall B10 b11
  replace hLw := hLw.below b11 (by omega)
  replace hMg := hMg.below b11
  go_wp2_with fail
  refine (markPtS_o ag _ 1 _ _ _ u11 u11 (Below.refl _ _) (by omega) hMg (pmL_len (n := 1048576) (by omega) _ _ _ _) (by omega) (by omega)).mono ?_
  rintro e u12 ⟨rfl, hMm, b12⟩
  have zz12 := b12.size
  have B12 : Below v.heap.size v u12 := B11.trans (b12.mono (by omega))
  replace hLw := hLw.below b12 (by omega)
  clear hMg
  have hMg := hMm
  clear hMm
  have hq0 : ¬ ((1 + 2 * (pmL a0_0 a0_1 z1 a2).length : Nat) : Int) < 0 := by omega
  go_wp2_with fail
  refine (heldPtS_o ag _ 1 _ _ _ u12 hMg (pmL_len (n := 1048576) (by omega) _ _ _ _) (by omega) (by omega)).mono ?_
  rintro e u13 ⟨rfl, b13⟩
  have zz13 := b13.size
  have B13 := belowCall B12 b13
  replace hLw := hLw.below b13 (by omega)
  replace hMg := hMg.below b13
  obtain ⟨-, kE0, kE1⟩ := (hbxE.mono B13).parts
  rw [Nat.zero_add] at kE1
  go_wp2_with fail
  refine (toEp_any _ _ _).mono ?_
  rintro x u14 ⟨rfl, b14⟩
  clear kE0 kE1
  have zz14 := b14.size
  have B14 := belowCall B13 b14
  replace hLw := hLw.below b14 (by omega)
  replace hMg := hMg.below b14
  go_wp2_with fail
  refine (toPtS_any _ _ _ z1 u14 (w1.1.mono B14) hn1).mono ?_
  rintro e u15 ⟨g15, rfl, y15, hr15, b15⟩
  have yl15 := hr15.lt
  have hx15 := PtL.of_row w1.1.1 hr15
  have zz15 := b15.size
  have B15 := belowCall B14 b15
  replace hLw := hLw.below b15 (by omega)
  replace hMg := hMg.below b15
  go_wp2_with fail
  refine (iMeans_any a0_0 a0_1 _ _ _ z1 a2 u15 hx15 hn1 (Nat.le_refl _)).mono ?_
  rintro e u16 ⟨⟨ah, cah, rfl, hMh0⟩, b16⟩
  clear hx15
  have zz16 := b16.size
  have B16 := belowCall B15 b16
  replace hLw := hLw.below b16 (by omega)
  replace hMg := hMg.below b16
  have bah := b16.size
  have hMh := hMh0 1
  clear hMh0
  go_wp2_with fail
  refine (eqPtS_self _ _ _ _ _ (pmL a0_0 a0_1 z1 a2) u16 hMh.toL hLw.toL (pmL_len (n := 1048576) (by omega) _ _ _ _)).mono ?_
  rintro e u17 ⟨rfl, b17⟩
  have zz17 := b17.size
  have B17 := belowCall B16 b17
  replace hLw := hLw.below b17 (by omega)
  replace hMg := hMg.below b17
  replace hMh := hMh.below b17
  go_wp2_with fail
  refine (heldPtS_o ag _ 1 _ _ _ u17 hMg (pmL_len (n := 1048576) (by omega) _ _ _ _) (by omega) (by omega)).mono ?_
  rintro e u18 ⟨rfl, b18⟩
  have zz18 := b18.size
  have B18 := belowCall B17 b18
  replace hLw := hLw.below b18 (by omega)
  replace hMg := hMg.below b18
  replace hMh := hMh.below b18
  go_wp2_with fail
  go_ret
  exact ⟨rfl, belowCall BW (B18)⟩

set_option maxRecDepth 100000 in
theorem lifted (os : Os) (started : os.Started) (H : Type) (enc : TypeId × Value → H) :
    ReturnsInHanded {} Try.checked os 5 .any (Rows.fnExactPhaseMeansSpec.pre6 enc Try.prog Try.f5 Rows.fnExactPhaseMeansRow.domain false) (Rows.fnExactPhaseMeansSpec.post enc Try.prog Try.f5 false true false false) := by
  refine returnsInHanded_of_change (C := Try.checked) own started (by kernel_rfl) Try.func5
    (ChangeSpec.witness6 (enc := enc) (C := Try.checked) false ⟨#[], #[.agg #[.int .i64 0, .int .i64 0], .slice none 0 0, .int .i64 0], []⟩ 8 (by kernel_rfl) (by kernel_rfl) (by kernel_rfl) (by kernel_rfl)) ?_
  intro W base args ds gs before hval0 hW hcnd _
  have hval : ∀ (j : Nat) t v, Try.f5.params[j]? = some t → args[j]? = some v → Value.okWide Try.prog W .any base t v := hval0
  have hW' := hW
  obtain ⟨p, q, hA0, hV, rfl, hfz, hnd⟩ := hW
  have hA : DataW.TrodAll enc Try.prog W 0 (fun _ => true) true Try.f5.params.toList args.toList ds p := hA0
  rw [Try.params5] at hA hval
  obtain ⟨v0, vs0, d0, ds0, p0, q0, hargs, rfl, rfl, h0, r0⟩ := trodAll_cons hA
  obtain ⟨v1, vs1, d1, ds1, p1, q1, rfl, rfl, rfl, h1, r1⟩ := trodAll_cons r0
  obtain ⟨v2, vs2, d2, ds2, p2, q2, rfl, rfl, rfl, h2, r2⟩ := trodAll_cons r1
  obtain ⟨rfl, rfl, rfl⟩ := trodAll_nil r2
  obtain rfl : args = #[v0, v1, v2] := by cases args; simp_all
  obtain ⟨rfl, rfl⟩ := trodVars_none hV
  have k0 := h0
  have lt0 : ∀ x ∈ p0, x.block < W.heap.size := by obtain ⟨m, hm⟩ := k0; exact DataW.trod_lt m _ _ _ hm
  obtain ⟨c0_0, c0_1, y0_0, y0_1, mf0, rfl, hd0, hp0, g0_0, g0_1⟩ := Go.Joins.open_agg2 Try.underlying42 (by kernel_rfl) (show Try.prog.cellsOf 42 = 2 by kernel_rfl) (hval 0 42 v0 rfl rfl) h0
  obtain ⟨a0_0, e0_0, _, w0_0⟩ := DataW.trod_int Try.underlying2 g0_0
  simp only [List.cons.injEq, and_true] at e0_0
  subst e0_0
  obtain ⟨a0_1, e0_1, _, w0_1⟩ := DataW.trod_int Try.underlying2 g0_1
  simp only [List.cons.injEq, and_true] at e0_1
  subst e0_1
  have k1 := h1
  have lt1 : ∀ x ∈ p1, x.block < W.heap.size := by obtain ⟨m, hm⟩ := k1; exact DataW.trod_lt m _ _ _ hm
  obtain ⟨a1, len1, cap1, rfl⟩ := okWide_slice Try.underlying32 (hval 1 32 v1 rfl rfl)
  obtain ⟨z1, w1⟩ : ∃ zs, IsPt W a1 len1 cap1 zs := by
    obtain ⟨fuel, hf⟩ := h1
    exact pts_of Try.underlying32 Try.underlying23 (by kernel_rfl) (show Try.prog.cellsOf 23 = 2 by kernel_rfl) Try.underlying2 Try.underlying2 (by simpa [Value.cells] using hf)
  obtain ⟨a2, rfl, rfl, rfl, w2⟩ := open_int Try.underlying2 (hval 2 2 v2 rfl rfl) h2
  clear hA0 hval0
  refine (walk a0_0 a0_1 a1 len1 cap1 z1 a2 W w0_0 w0_1 w1 w2).mono fun e W' ⟨he, bel⟩ => ?_
  subst he
  exact ⟨_, rfl, _, _, _, [], _, [], hW', trodAll_mk1 (shut_bool Try.underlying4 _), (trodAll_cons_mk (Below.trod laidOut (by kernel_rfl) (of_decide_eq_true (by kernel_rfl)) k0 bel lt0) (trodAll_cons_mk (Below.trod laidOut (by kernel_rfl) (of_decide_eq_true (by kernel_rfl)) k1 bel lt1) (trodAll_cons_mk (shut_int Try.underlying2 w2) trodAll_mk0))), rfl, bel.frame _, fun h => by cases h⟩

theorem over : Rows.fnExactPhaseMeansRow.holds Try.pinned (OpenSpec.ofChange Rows.fnExactPhaseMeansSpec) :=
  OpenClaim.holds_of_wide 5 Try.f5 rfl rfl rfl rfl rfl rfl rfl ⟨rfl, rfl, rfl, rfl, rfl⟩ rfl rfl rfl rfl rfl (by kernel_rfl) Try.func5 (by kernel_rfl)
    (of_decide_eq_true (by kernel_rfl)) (by unfold Func.isWrapper; first | (rw [if_pos (by decide +kernel)]; kernel_rfl) | (rw [if_neg (by decide +kernel)]; exact ⟨rfl, rfl⟩))
    (fun os started H enc _ => lifted os started H enc)

theorem proved : Rows.FnExactPhaseMeansSaid := over
#print axioms proved
end Go.Proofs.Ytidiiladlmaigaa.fnExactPhaseMeans
