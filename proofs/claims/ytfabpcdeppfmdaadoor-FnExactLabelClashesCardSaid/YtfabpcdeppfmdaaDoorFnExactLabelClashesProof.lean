/- FnExactLabelClashes: for every slice of marks and every slice of int64s (that hold no more than the law's bounds) the program's LabelClashes (a row of boxes, a generic function over pairs with a method expression) answers as the model's, writes into no argument, and its answer owns its memory, the slice and each of its rows: they hold the law's marks through another call. The card: the tables that its road names stand as their initialisers lay them. -/
import Derived.Test.YtfabpcdeppfmdaaDoorB1
import Derived.Test.YtfabpcdeppfmdaaDoorHD
import Derived.Test.YtfabpcdeppfmdaaDoorGR
import Derived.Test.YtfabpcdeppfmdaaDoorCards
import Derived.Test.YtfabpcdeppfmdaaDoorTie
import Derived.Deep.DeepHandedRow
import Derived.Lib.LaidTab
import Derived.OpenVars
import Derived.ChangeVars
import Derived.ChangeOld
import Derived.Lib.SmallJoins
import Derived.LaidSub
namespace Go.Proofs.YtfabpcdeppfmdaaDoor.fnExactLabelClashes
open Go.ChangeShapes Go.WideShapes Go.ChangeAt Go.RowKit
open Go.ChangeMaps (open_string shut_string)
set_option linter.unusedVariables false

theorem own : ownKnob Tryd.prog.godebug = none := by kernel_rfl
theorem laidOut : laidOutB Tryd.prog = true := by kernel_rfl
set_option maxHeartbeats 8000000 in

theorem walk (a0 : Option Addr) (len0 cap0 : Nat) (z0 : List Mk) (a1 : Option Addr) (len1 cap1 : Nat) (z1 : List Int) (w : World) (w0 : IsMk w a0 len0 cap0 z0) (w1 : IsRow .i64 w a1 len1 cap1 z1) (hL : laidMetH Tryd.prog Rows.fnExactLabelClashesRow.laid w) (hSh : w.ShapedOpen Tryd.prog) :
    Calls Tryd.prog 6 #[.slice a0 len0 cap0, .slice a1 len1 cap1] w fun e w' => e = .returned (.bool true) ∧ Below w.heap.size w w' := by
  have hp := pow_laid (laidMetH.filter (fun x => x.1 == "internal/strconv.uint64pow10") hL)
  have hw := ways_laid (laidMetH.filter (fun x => x.1 == "loop.example/g01026/impl.sideWays") hL)
  clear hL
  have hz1 := Lst.of_row w1
  generalize z1.take len1 = zs1 at hz1
  clear w1
  by_cases hlong1 : (1048576 : Int) < (len1 : Int)
  · go_enter Tryd.func6, Tryd.ntmps6
    go_wp2
    go_ret
    exact ⟨rfl, Below.refl _ _⟩
  have hdec1 : decide ((1048576 : Int) < (len1 : Int)) = false := by simpa using hlong1
  have hn1 : len1 ≤ 1048576 := by omega
  clear hlong1
  have hl0 : (0 : Int) ≤ 1048576 := by omega
  have hu0 : (1048576 : Int) ≤ 1048576 := by omega
  by_cases hbig0 : (1048576 : Int) < totMk z0
  · have HZ0 := Lib.hid (szQ_no hbig0)
    go_enter Tryd.func6, Tryd.ntmps6
    go_wp2_with fail
    refine (szMkS_any _ _ _ z0 1048576 _ (w0.mono (Below.refl _ w)) hl0 hu0).mono ?_
    rintro e s0 ⟨rfl, c0⟩
    rw [HZ0.out]
    have B0 : Below w.heap.size w s0 := c0
    go_wp2
    go_ret
    exact ⟨rfl, B0⟩
  have HZ0 := Lib.hid (szQ_yes hbig0)
  have hn0 : len0 ≤ 1048576 := by have h1 := totMk_nonneg z0; have h2 := w0.1.1; omega
  have hg0 : ¬ (1048576 : Int) - totMk z0 < 0 := by omega
  clear hbig0
  have hcc : ((clC z0 zs1) != (clC z0 zs1)) = false := by simp
  go_enter Tryd.func6, Tryd.ntmps6
  go_wp2_with fail
  refine (szMkS_any _ _ _ z0 1048576 _ (w0.mono (Below.refl _ w)) hl0 hu0).mono ?_
  rintro e s0 ⟨rfl, c0⟩
  rw [HZ0.out]
  have B0 : Below w.heap.size w s0 := c0
  clear hl0 hu0
  have zzB := B0.size
  go_wp2_with fail
  refine (toMkS_any _ _ _ z0 s0 (w0.1.mono B0) hn0).mono ?_
  rintro e u1 ⟨g1, rfl, y1, hr1, b1⟩
  have yl1 := hr1.lt
  have hx1 := MkL.of_row w0.1.1 hr1
  have zz1 := b1.size
  have B1 := belowCall B0 b1
  go_wp2_with fail
  refine (toIntO_any _ _ _ zs1 u1 (hz1.mono B1) hn1).mono ?_
  rintro e u2 ⟨g2, rfl, hi2, b2⟩
  have y2 := (hi2.lt g2 rfl).1
  have yl2 := (hi2.lt g2 rfl).2
  have hx2 : Lst u2 (some ⟨g2, 0, none⟩) len1 zs1 := Lst.of_own hi2
  have zz2 := b2.size
  have B2 := belowCall B1 b2
  replace hx1 := hx1.mono b2
  go_wp2_with fail
  refine (sClash_any _ _ _ _ _ _ z0 zs1 u2 hx1 hx2 hn0 hn1).mono ?_
  rintro e u3 ⟨⟨aw, caw, rfl, hLw0⟩, b3⟩
  clear hx1
  clear hx2
  have zz3 := b3.size
  have B3 := belowCall B2 b3
  have baw := b3.size
  have hLw := (hLw0 1).toL.toB
  clear hLw0
  go_wp2_with fail
  refine (toMkS_any _ _ _ z0 u3 (w0.1.mono B3) hn0).mono ?_
  rintro e u4 ⟨g4, rfl, y4, hr4, b4⟩
  have yl4 := hr4.lt
  have hx4 := MkL.of_row w0.1.1 hr4
  have zz4 := b4.size
  have B4 := belowCall B3 b4
  replace hLw := hLw.below b4 (by omega)
  go_wp2_with fail
  refine (toIntO_any _ _ _ zs1 u4 (hz1.mono B4) hn1).mono ?_
  rintro e u5 ⟨g5, rfl, hi5, b5⟩
  have y5 := (hi5.lt g5 rfl).1
  have yl5 := (hi5.lt g5 rfl).2
  have hx5 : Lst u5 (some ⟨g5, 0, none⟩) len1 zs1 := Lst.of_own hi5
  have zz5 := b5.size
  have B5 := belowCall B4 b5
  replace hr4 := rowB hr4 b5
  replace hx4 := hx4.mono b5
  replace hLw := hLw.below b5 (by omega)
  go_wp2_with fail
  refine (iClash_any _ _ _ _ _ _ z0 zs1 u5 hx4 hx5 hn0 hn1 (Nat.le_refl _) (hp.mono B5) (hw.mono B5)).mono ?_
  rintro e u6 ⟨⟨ag, cag, rfl, hMg0⟩, b6⟩
  have zz6 := b6.size
  have B6 := belowCall B5 b6
  replace hr4 := rowB hr4 b6
  replace hx4 := hx4.mono b6
  replace hi5 := ownKeepH hi5 b6
  replace hx5 := hx5.mono b6
  replace hLw := hLw.below b6 (by omega)
  have bag := b6.size
  have hMg := hMg0 1
  clear hMg0
  go_wp2_with fail
  refine (eqQq_self _ _ _ _ _ (clL z0 zs1) u6 hMg.toL hLw.toL (clL_len z0 zs1)).mono ?_
  rintro e u7 ⟨rfl, b7⟩
  have zz7 := b7.size
  have B7 := belowCall B6 b7
  replace hr4 := rowB hr4 b7
  replace hx4 := hx4.mono b7
  replace hi5 := ownKeepH hi5 b7
  replace hx5 := hx5.mono b7
  replace hLw := hLw.below b7 (by omega)
  replace hMg := hMg.below b7
  go_wp2_with fail
  refine (toMkS_any _ _ _ z0 u7 (w0.1.mono B7) hn0).mono ?_
  rintro e u8 ⟨g8, rfl, y8, hr8, b8⟩
  have yl8 := hr8.lt
  have hx8 := MkL.of_row w0.1.1 hr8
  have zz8 := b8.size
  have B8 := belowCall B7 b8
  replace hr4 := rowB hr4 b8
  replace hx4 := hx4.mono b8
  replace hi5 := ownKeepH hi5 b8
  replace hx5 := hx5.mono b8
  replace hLw := hLw.below b8 (by omega)
  replace hMg := hMg.below b8
  go_wp2_with fail
  refine (eqMkS_self _ _ _ _ _ z0 u8 hx4 hx8 hn0).mono ?_
  rintro e u9 ⟨rfl, b9⟩
  clear hx8
  have zz9 := b9.size
  have B9 := belowCall B8 b9
  replace hr4 := rowB hr4 b9
  replace hx4 := hx4.mono b9
  replace hi5 := ownKeepH hi5 b9
  replace hx5 := hx5.mono b9
  replace hLw := hLw.below b9 (by omega)
  replace hMg := hMg.below b9
  go_wp2_with fail
  refine (toIntO_any _ _ _ zs1 u9 (hz1.mono B9) hn1).mono ?_
  rintro e u10 ⟨g10, rfl, hi10, b10⟩
  have y10 := (hi10.lt g10 rfl).1
  have yl10 := (hi10.lt g10 rfl).2
  have hx10 : Lst u10 (some ⟨g10, 0, none⟩) len1 zs1 := Lst.of_own hi10
  have zz10 := b10.size
  have B10 := belowCall B9 b10
  replace hr4 := rowB hr4 b10
  replace hx4 := hx4.mono b10
  replace hi5 := ownKeepH hi5 b10
  replace hx5 := hx5.mono b10
  replace hLw := hLw.below b10 (by omega)
  replace hMg := hMg.below b10
  go_wp2_with fail
  refine (eqI_self _ _ _ _ _ zs1 u10 hx5 hx10 hn1).mono ?_
  rintro e u11 ⟨rfl, b11⟩
  clear hx10
  have zz11 := b11.size
  have B11 := belowCall B10 b11
  replace hr4 := rowB hr4 b11
  replace hx4 := hx4.mono b11
  replace hi5 := ownKeepH hi5 b11
  replace hx5 := hx5.mono b11
  replace hLw := hLw.below b11 (by omega)
  replace hMg := hMg.below b11
  clear hx4
  have hm4 : ∀ m, SMG u11 g4 (len0 * 3) (mfMk m 0) := fun m => SMG.of_row hr4 (by intro j; simp [mfMk])
  clear hr4
  clear hx5
  have hm5 : ∀ m, SMG u11 g5 len1 (mfI m 0) := fun m => SMG.of_ints (m := m) hi5
  clear hi5
  go_wp2_with fail
  refine (markMkS_f g4 _ (1) _ u11 (hm4 _) hn0 (by omega) (by omega)).mono ?_
  rintro e u12 ⟨rfl, -, b12⟩
  clear hm4
  replace hm5 : ∀ m, SMG u12 g5 len1 (mfI m 0) := fun m => (hm5 m).far b12 (by omega)
  have zz12 := b12.size
  have B12 : Below w.heap.size w u12 := B11.grown b12 B11.size (fun k e => by cases e; omega)
  replace hLw := hLw.grown b12 (by omega)
  replace hMg := hMg.far b12 (by omega)
  go_wp2_with fail
  refine (markI_f g5 _ (1 + 3 * len0) _ u12 (hm5 _) hn1 (by omega) (by omega)).mono ?_
  rintro e u13 ⟨rfl, -, b13⟩
  clear hm5
  have zz13 := b13.size
  have B13 : Below w.heap.size w u13 := B12.grown b13 B12.size (fun k e => by cases e; omega)
  replace hLw := hLw.grown b13 (by omega)
  replace hMg := hMg.far b13 (by omega)
  have hk0 : ¬ ((1 + 3 * len0 + len1 : Nat) : Int) < 0 := by omega
  go_wp2_with fail
  refine (eqQq_self _ _ _ _ _ (clL z0 zs1) u13 hMg.toL hLw.toL (clL_len z0 zs1)).mono ?_
  rintro e u14 ⟨rfl, b14⟩
  have zz14 := b14.size
  have B14 := belowCall B13 b14
  replace hLw := hLw.below b14 (by omega)
  replace hMg := hMg.below b14
  go_wp2_with fail
  refine (markQq_o ag _ 1 _ _ _ u14 u14 (Below.refl _ _) (by omega) hMg (clL_len z0 zs1) (by omega) (by omega)).mono ?_
  rintro e u15 ⟨rfl, hMm, b15⟩
  have zz15 := b15.size
  have B15 : Below w.heap.size w u15 := B14.trans (b15.mono (by omega))
  replace hLw := hLw.below b15 (by omega)
  clear hMg
  have hMg := hMm
  clear hMm
  have hq0 : ¬ ((1 + 2 * (clL z0 zs1).length : Nat) : Int) < 0 := by omega
  go_wp2_with fail
  refine (heldQq_o ag _ 1 _ _ _ u15 hMg (clL_len z0 zs1) (by omega) (by omega)).mono ?_
  rintro e u16 ⟨rfl, b16⟩
  have zz16 := b16.size
  have B16 := belowCall B15 b16
  replace hLw := hLw.below b16 (by omega)
  replace hMg := hMg.below b16
  go_wp2_with fail
  refine (toMkS_any _ _ _ z0 u16 (w0.1.mono B16) hn0).mono ?_
  rintro e u17 ⟨g17, rfl, y17, hr17, b17⟩
  have yl17 := hr17.lt
  have hx17 := MkL.of_row w0.1.1 hr17
  have zz17 := b17.size
  have B17 := belowCall B16 b17
  replace hLw := hLw.below b17 (by omega)
  replace hMg := hMg.below b17
  go_wp2_with fail
  refine (toIntO_any _ _ _ zs1 u17 (hz1.mono B17) hn1).mono ?_
  rintro e u18 ⟨g18, rfl, hi18, b18⟩
  have y18 := (hi18.lt g18 rfl).1
  have yl18 := (hi18.lt g18 rfl).2
  have hx18 : Lst u18 (some ⟨g18, 0, none⟩) len1 zs1 := Lst.of_own hi18
  have zz18 := b18.size
  have B18 := belowCall B17 b18
  replace hx17 := hx17.mono b18
  replace hLw := hLw.below b18 (by omega)
  replace hMg := hMg.below b18
  go_wp2_with fail
  refine (iClash_any _ _ _ _ _ _ z0 zs1 u18 hx17 hx18 hn0 hn1 (Nat.le_refl _) (hp.mono B18) (hw.mono B18)).mono ?_
  rintro e u19 ⟨⟨ah, cah, rfl, hMh0⟩, b19⟩
  clear hx17
  clear hx18
  have zz19 := b19.size
  have B19 := belowCall B18 b19
  replace hLw := hLw.below b19 (by omega)
  replace hMg := hMg.below b19
  have bah := b19.size
  have hMh := hMh0 1
  clear hMh0
  go_wp2_with fail
  refine (eqQq_self _ _ _ _ _ (clL z0 zs1) u19 hMh.toL hLw.toL (clL_len z0 zs1)).mono ?_
  rintro e u20 ⟨rfl, b20⟩
  have zz20 := b20.size
  have B20 := belowCall B19 b20
  replace hLw := hLw.below b20 (by omega)
  replace hMg := hMg.below b20
  replace hMh := hMh.below b20
  go_wp2_with fail
  refine (heldQq_o ag _ 1 _ _ _ u20 hMg (clL_len z0 zs1) (by omega) (by omega)).mono ?_
  rintro e u21 ⟨rfl, b21⟩
  have zz21 := b21.size
  have B21 := belowCall B20 b21
  replace hLw := hLw.below b21 (by omega)
  replace hMg := hMg.below b21
  replace hMh := hMh.below b21
  go_wp2_with fail
  go_ret
  exact ⟨rfl, B21⟩

set_option maxRecDepth 100000 in
theorem contract (H : Type) (enc : TypeId × Value → H) (W : World) (base : Nat) (args : Array Value) (ds gs : List (DataW H)) (before : List MemPlace)
    (hval : ∀ (j : Nat) t v, Tryd.f6.params[j]? = some t → args[j]? = some v → Value.okWide Tryd.prog W .any base t v)
    (hW : DataW.Whole enc Tryd.prog Tryd.f6.params.toList Rows.fnExactLabelClashesSpec.vars false W args.toList ds gs before) (hL : laidMetH Tryd.prog Rows.fnExactLabelClashesRow.laid W) (hSh : W.ShapedOpen Tryd.prog) :
    Calls Tryd.prog 6 args W fun e W' => ∃ v, e = .returned v ∧ Rows.fnExactLabelClashesSpec.post enc Tryd.prog Tryd.f6 false true false false W args v W' := by
  have hW' := hW
  obtain ⟨p, q, hA0, hV, rfl, hfz, hnd⟩ := hW
  have hA : DataW.TrodAll enc Tryd.prog W 0 (fun _ => true) true Tryd.f6.params.toList args.toList ds p := hA0
  rw [Tryd.params6] at hA hval
  obtain ⟨v0, vs0, d0, ds0, p0, q0, hargs, rfl, rfl, h0, r0⟩ := trodAll_cons hA
  obtain ⟨v1, vs1, d1, ds1, p1, q1, rfl, rfl, rfl, h1, r1⟩ := trodAll_cons r0
  obtain ⟨rfl, rfl, rfl⟩ := trodAll_nil r1
  obtain rfl : args = #[v0, v1] := by cases args; simp_all
  have hV2 := hV
  obtain ⟨gN, tN, csN, fuN, dN, pN, rfl, _, _, _, _, _⟩ := trodVars_one hV
  have k0 := h0
  have lt0 : ∀ x ∈ p0, x.block < W.heap.size := by obtain ⟨m, hm⟩ := k0; exact DataW.trod_lt m _ _ _ hm
  obtain ⟨a0, len0, cap0, rfl⟩ := okWide_slice Tryd.underlying48 (hval 0 48 v0 rfl rfl)
  obtain ⟨z0, w0⟩ : ∃ zs, IsMk W a0 len0 cap0 zs := by
    obtain ⟨fuel, hf⟩ := h0
    exact mks_of Tryd.underlying48 Tryd.underlying44 (by kernel_rfl) (show Tryd.prog.cellsOf 44 = 3 by kernel_rfl) Tryd.underlying2 Tryd.underlying2 Tryd.underlying2 (by simpa [Value.cells] using hf)
  have k1 := h1
  have lt1 : ∀ x ∈ p1, x.block < W.heap.size := by obtain ⟨m, hm⟩ := k1; exact DataW.trod_lt m _ _ _ hm
  obtain ⟨a1, len1, cap1, rfl⟩ := okWide_slice Tryd.underlying26 (hval 1 26 v1 rfl rfl)
  obtain ⟨z1, w1⟩ : ∃ zs, IsRow .i64 W a1 len1 cap1 zs := by
    obtain ⟨fuel, hf⟩ := h1
    rcases open_ints Tryd.underlying26 Tryd.underlying2 (by kernel_rfl) hf with ⟨hcs, _⟩ | ⟨x, l, c, zs, hcs, _, hl, hm, hz, _, hcell, hwz⟩
    · simp [Value.cells] at hcs
      obtain ⟨rfl, rfl, rfl⟩ := hcs
      exact ⟨[], .inl ⟨rfl, rfl, rfl, rfl⟩⟩
    · simp [Value.cells] at hcs
      obtain ⟨rfl, rfl, rfl⟩ := hcs
      exact ⟨zs, .inr ⟨_, rfl, hl, hm, by simpa using hz, hcell, hwz⟩⟩
  clear hA0
  refine (walk a0 len0 cap0 z0 a1 len1 cap1 z1 W w0 w1 hL hSh).mono fun e W' ⟨he, bel⟩ => ?_
  subst he
  exact ⟨_, rfl, _, _, _, [], _, _, hW', trodAll_mk1 (shut_bool Tryd.underlying4 _), (trodAll_cons_mk (Below.trod laidOut (by kernel_rfl) (of_decide_eq_true (by kernel_rfl)) k0 bel lt0) (trodAll_cons_mk (Below.trod laidOut (by kernel_rfl) (of_decide_eq_true (by kernel_rfl)) k1 bel lt1) trodAll_mk0)), Below.trodVars laidOut bel (by kernel_rfl) hV2, bel.frame _, fun h => by cases h⟩
noncomputable def low : Nat := (World.holding Tryd.prog default ⟨#[], #[], []⟩).heap.size
/-- a world for the witness: the settled one, the listed variables holding what their initialisers lay -/
noncomputable def laidCells : Nat → Obj → Obj
  | 2, .cells _ t frozen => .cells #[.int .u8 0, .int .u8 1, .int .u8 28, .int .u8 2, .int .u8 29, .int .u8 14, .int .u8 24, .int .u8 3, .int .u8 30, .int .u8 22, .int .u8 20, .int .u8 15, .int .u8 25, .int .u8 17, .int .u8 4, .int .u8 8, .int .u8 31, .int .u8 27, .int .u8 13, .int .u8 23, .int .u8 21, .int .u8 19, .int .u8 16, .int .u8 7, .int .u8 26, .int .u8 12, .int .u8 18, .int .u8 6, .int .u8 11, .int .u8 5, .int .u8 10, .int .u8 9] t frozen
  | 3, .cells _ t frozen => .cells #[.int .u8 0, .int .u8 1, .int .u8 56, .int .u8 2, .int .u8 57, .int .u8 49, .int .u8 28, .int .u8 3, .int .u8 61, .int .u8 58, .int .u8 42, .int .u8 50, .int .u8 38, .int .u8 29, .int .u8 17, .int .u8 4, .int .u8 62, .int .u8 47, .int .u8 59, .int .u8 36, .int .u8 45, .int .u8 43, .int .u8 51, .int .u8 22, .int .u8 53, .int .u8 39, .int .u8 33, .int .u8 30, .int .u8 24, .int .u8 18, .int .u8 12, .int .u8 5, .int .u8 63, .int .u8 55, .int .u8 48, .int .u8 27, .int .u8 60, .int .u8 41, .int .u8 37, .int .u8 16, .int .u8 46, .int .u8 35, .int .u8 44, .int .u8 21, .int .u8 52, .int .u8 32, .int .u8 23, .int .u8 11, .int .u8 54, .int .u8 26, .int .u8 40, .int .u8 15, .int .u8 34, .int .u8 20, .int .u8 31, .int .u8 10, .int .u8 25, .int .u8 14, .int .u8 19, .int .u8 9, .int .u8 13, .int .u8 8, .int .u8 7, .int .u8 6] t frozen
  | 1, .cells _ t frozen => .cells #[.int .u64 1, .int .u64 10, .int .u64 100, .int .u64 1000, .int .u64 10000, .int .u64 100000, .int .u64 1000000, .int .u64 10000000, .int .u64 100000000, .int .u64 1000000000, .int .u64 10000000000, .int .u64 100000000000, .int .u64 1000000000000, .int .u64 10000000000000, .int .u64 100000000000000, .int .u64 1000000000000000, .int .u64 10000000000000000, .int .u64 100000000000000000, .int .u64 1000000000000000000, .int .u64 10000000000000000000] t frozen
  | 0, .cells _ t frozen => .cells #[.int .i64 1, .int .i64 0, .int .i64 (-1), .int .i64 0, .int .i64 0, .int .i64 1, .int .i64 0, .int .i64 (-1)] t frozen
  | _, o => o
noncomputable def laidWorld (os : Os) : World :=
  { World.holding Tryd.prog os ⟨#[], #[], []⟩ with heap := (World.holding Tryd.prog os ⟨#[], #[], []⟩).heap.mapIdx laidCells }
set_option maxRecDepth 100000 in
theorem laid_met (os : Os) : laidMet Tryd.prog Rows.fnExactLabelClashesRow.laid ((laidWorld os).forCall (fun _ _ => 0) ⟨#[], #[.slice none 0 0, .slice none 0 0], []⟩).memory :=
  laidMet_of_run' 8 (by kernel_rfl) (by kernel_rfl)
set_option maxRecDepth 100000 in
theorem reads (os : Os) {H : Type} (enc : TypeId × Value → H) : ∃ places, DataW.whole enc Tryd.prog ((laidWorld os).forCall (fun _ _ => 0) ⟨#[], #[.slice none 0 0, .slice none 0 0], []⟩).memory Tryd.f6.params.toList Rows.fnExactLabelClashesSpec.vars false (#[.slice none 0 0, .slice none 0 0] : Array Value).toList 8 = some ([.nil, .nil], [Rows.laid_loop_example_g01026_impl_sideWays], places) :=
  ⟨((DataW.whole enc Tryd.prog ((laidWorld os).forCall (fun _ _ => 0) ⟨#[], #[.slice none 0 0, .slice none 0 0], []⟩).memory Tryd.f6.params.toList Rows.fnExactLabelClashesSpec.vars false (#[.slice none 0 0, .slice none 0 0] : Array Value).toList 8).getD ([], [], [])).2.2, by kernel_rfl⟩
set_option maxRecDepth 100000 in
theorem lifted (os : Os) (started : os.Started) (H : Type) (enc : TypeId × Value → H) (F : Stop.Interp) :
    ReturnsInHanded {} Tryd.checked os 6 .any ((OpenSpec.ofChange Rows.fnExactLabelClashesSpec).preRow enc Tryd.prog Tryd.f6 Rows.fnExactLabelClashesRow.domain false Rows.fnExactLabelClashesRow.laid) (((OpenSpec.ofChange Rows.fnExactLabelClashesSpec).at F).post enc Tryd.prog Tryd.f6 false true false false) := by
  obtain ⟨places, hx⟩ := reads os enc
  refine returnsInHanded_of_row (C := Tryd.checked) (s := OpenSpec.ofChange Rows.fnExactLabelClashesSpec) own started (by kernel_rfl) Tryd.func6
    (witness_row_at (enc := enc) (C := Tryd.checked) false (laidWorld os) #[.slice none 0 0, .slice none 0 0] rfl (by kernel_rfl) (by kernel_rfl) (by kernel_rfl)
      (OpenSpec.preRow_of_cond 8 hx (by kernel_rfl) (fun k hk => by cases hk) (by kernel_rfl) (laid_met os))) ?_
  intro W base args ds gs before hval hW _ _ _ hL hSh _
  exact contract H enc W base args ds gs before hval hW hL hSh
theorem said : Rows.FnExactLabelClashesSaid :=
  OpenClaim.holds_of_cond 6 Tryd.f6 rfl rfl rfl rfl rfl rfl rfl ⟨rfl, rfl, rfl, rfl, rfl⟩ rfl rfl rfl rfl rfl (by kernel_rfl) Tryd.func6 (by kernel_rfl)
    (of_decide_eq_true (by kernel_rfl)) (by unfold Func.isWrapper; first | (rw [if_pos (by decide +kernel)]; kernel_rfl) | (rw [if_neg (by decide +kernel)]; exact ⟨rfl, rfl⟩))
    (fun os started H enc _ F => by rw [OpenClaim.pre_eq_preRow]; exact lifted os started H enc F)
theorem plain (f : FuncId) (fn : Func) (hf : Tryd.pinned.checked.prog.funcNamed "loop.example/g01026/laws.FnExactLabelClashes" = some f) (hfn : Tryd.pinned.checked.prog.funcs[f]? = some fn) :
    false = Tryd.pinned.checked.prog.looks [] ∧ ∀ (j : Nat) t, fn.params[j]? = some t → Tryd.pinned.checked.prog.wantsStandIn t = false := by
  obtain rfl : f = 6 := Option.some.inj ((show Tryd.prog.funcNamed "loop.example/g01026/laws.FnExactLabelClashes" = some 6 by kernel_rfl).symm.trans hf) |>.symm
  obtain rfl : fn = Tryd.f6 := (Option.some.inj (Tryd.func6.symm.trans hfn)).symm
  refine ⟨by kernel_rfl, fun j t ht => ?_⟩
  rw [Tryd.params6] at ht
  have hm := Array.mem_of_getElem? ht
  simp at hm
  rcases hm with rfl | rfl
  · exact (show Tryd.prog.wantsStandIn 48 = false by kernel_rfl)
  · exact (show Tryd.prog.wantsStandIn 26 = false by kernel_rfl)
theorem proved : Rows.FnExactLabelClashesCardSaid :=
  Claim7.holds_tied_plain_at .later [] _ _ _ _ said (fun _ h => by cases h) (by kernel_rfl) (fun _ h => by cases h) fnExactLabelClashes_row_tie rfl ⟨rfl, rfl⟩ (by kernel_rfl) rfl plain (by kernel_rfl)
#print axioms proved
end Go.Proofs.YtfabpcdeppfmdaaDoor.fnExactLabelClashes
