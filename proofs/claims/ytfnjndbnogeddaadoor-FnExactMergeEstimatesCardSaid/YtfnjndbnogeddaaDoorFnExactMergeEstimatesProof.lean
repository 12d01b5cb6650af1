/- FnExactMergeEstimates: for every two slices of estimates (that hold no more than the law's bound) the program's MergeEstimates (a generic merge of two ordered lists with a sentinel error, errors.Is) answers as the model's, writes into no argument, and its answer owns its memory: it holds the law's marks through another call. The card: the program's sentinel errTwins stands as its initialiser lays it. -/
import Derived.Test.YtfnjndbnogeddaaDoorB1
import Derived.Test.YtfnjndbnogeddaaDoorQP
import Derived.Test.YtfnjndbnogeddaaDoorGR
import Derived.Test.YtfnjndbnogeddaaDoorCards
import Derived.Test.YtfnjndbnogeddaaDoorTie
import Derived.Deep.DeepHandedRow
import Derived.Lib.LaidTab
import Derived.OpenVars
import Derived.ChangeVars
import Derived.ChangeOld
import Derived.Lib.SmallJoins
import Derived.LaidSub
import Derived.Stop.LaidErr
namespace Go.Proofs.YtfnjndbnogeddaaDoor.fnExactMergeEstimates
open Go.ChangeShapes Go.WideShapes Go.ChangeAt Go.RowKit
open Go.ChangeMaps (open_string shut_string)
set_option linter.unusedVariables false

theorem own : ownKnob Tryd.prog.godebug = none := by kernel_rfl
theorem laidOut : laidOutB Tryd.prog = true := by kernel_rfl
theorem star : "*" ++ "errors.errorString" = "*errors.errorString" := by decide
theorem rowStar (u : TypeId) (h : Tryd.prog.typeName? 3 u = some "*errors.errorString") : u = 113 :=
  typeName_ptr_named (nm := "errors.errorString") (by rw [star]; kernel_rfl) (by kernel_rfl) (by decide) u (by rw [star]; exact h)
theorem ntw_global : Tryd.prog.globalNamed "loop.example/g01026/impl.errTwins" = some 0 := by kernel_rfl
theorem errt_of {W : World} (h : laidMetH Tryd.prog [("loop.example/g01026/impl.errTwins", Rows.laid_loop_example_g01026_impl_errTwins)] W) : ∃ a, Errt W a := by
  obtain ⟨a0, s0, hv0, -, -, -⟩ := laid_sentinel (r := []) h ntw_global (show (Tryd.prog.globals[0]?).map (·.type) = some 44 by kernel_rfl) Tryd.underlying44 rowStar Tryd.underlying113 Tryd.underlying137 rfl rfl Tryd.underlying9 (by kernel_rfl) (by kernel_rfl)
  have hc := World.var?_cell ntw_global hv0 0
  exact ⟨a0, World.block_lt_of_cell? W _ (show W.cell? ⟨0, 0, none⟩ = some _ from by simpa using hc), by simpa using hc⟩
set_option maxHeartbeats 8000000 in

theorem walk (a0 : Option Addr) (len0 cap0 : Nat) (z0 : List Es) (a1 : Option Addr) (len1 cap1 : Nat) (z1 : List Es) (w : World) (w0 : IsEs w a0 len0 cap0 z0) (w1 : IsEs w a1 len1 cap1 z1) (hL : laidMetH Tryd.prog Rows.fnExactMergeEstimatesRow.laid w) (hSh : w.ShapedOpen Tryd.prog) :
    Calls Tryd.prog 4 #[.slice a0 len0 cap0, .slice a1 len1 cap1] w fun e w' => e = .returned (.bool true) ∧ Below w.heap.size w w' := by
  obtain ⟨ea, hE⟩ := errt_of (laidMetH.filter (fun x => x.1 == "loop.example/g01026/impl.errTwins") hL)
  clear hL
  have hl0 : (0 : Int) ≤ 1048576 := by omega
  have hu0 : (1048576 : Int) ≤ 1048576 := by omega
  by_cases hbig0 : (1048576 : Int) < totEs z0
  · have HZ0 := Lib.hid (szQ_no hbig0)
    go_enter Tryd.func4, Tryd.ntmps4
    go_wp2_with fail
    refine (szEsS_any _ _ _ z0 1048576 _ (w0.mono (Below.refl _ w)) hl0 hu0).mono ?_
    rintro e s0 ⟨rfl, c0⟩
    rw [HZ0.out]
    have B0 : Below w.heap.size w s0 := c0
    go_wp2
    go_ret
    exact ⟨rfl, B0⟩
  have HZ0 := Lib.hid (szQ_yes hbig0)
  have hn0 : len0 ≤ 1048576 := by have h1 := totEs_nonneg z0; have h2 := w0.1.1; omega
  have hp0 := totEs_nonneg z0
  obtain ⟨l1, hL1⟩ : ∃ l, (1048576 : Int) - totEs z0 = l := ⟨_, rfl⟩
  have hg0 : ¬ l1 < 0 := by omega
  have HL1 := Lib.hid hL1
  have hlu0 : 0 ≤ l1 ∧ l1 ≤ 1048576 := by omega
  clear hL1 hp0
  clear hbig0
  have hl1 : 0 ≤ l1 := by omega
  have hu1 : l1 ≤ 1048576 := by omega
  by_cases hbig1 : (l1 : Int) < totEs z1
  · have HZ1 := Lib.hid (szQ_no hbig1)
    go_enter Tryd.func4, Tryd.ntmps4
    go_wp2_with fail
    refine (szEsS_any _ _ _ z0 1048576 _ (w0.mono (Below.refl _ w)) hl0 hu0).mono ?_
    rintro e s0 ⟨rfl, c0⟩
    rw [HZ0.out]
    rw [HL1.out]
    have B0 : Below w.heap.size w s0 := c0
    go_wp2_with fail
    refine (szEsS_any _ _ _ z1 l1 _ (w1.mono B0) hl1 hu1).mono ?_
    rintro e s1 ⟨rfl, c1⟩
    rw [HZ1.out]
    have B1 := belowCall B0 c1
    go_wp2
    go_ret
    exact ⟨rfl, B1⟩
  have HZ1 := Lib.hid (szQ_yes hbig1)
  have hn1 : len1 ≤ 1048576 := by have h1 := totEs_nonneg z1; have h2 := w1.1.1; omega
  have hg1 : ¬ (l1 : Int) - totEs z1 < 0 := by omega
  clear hbig1
  have hcc : ((mgC z0 z1) != (mgC z0 z1)) = false := by simp
  go_enter Tryd.func4, Tryd.ntmps4
  go_wp2_with fail
  refine (szEsS_any _ _ _ z0 1048576 _ (w0.mono (Below.refl _ w)) hl0 hu0).mono ?_
  rintro e s0 ⟨rfl, c0⟩
  rw [HZ0.out]
  rw [HL1.out]
  have B0 : Below w.heap.size w s0 := c0
  go_wp2_with fail
  refine (szEsS_any _ _ _ z1 l1 _ (w1.mono B0) hl1 hu1).mono ?_
  rintro e s1 ⟨rfl, c1⟩
  rw [HZ1.out]
  replace B0 := belowCall B0 c1
  clear hl0 hu0 hl1 hu1
  have zzB := B0.size
  go_wp2_with fail
  refine (toEsS_any _ _ _ z0 s1 (w0.1.mono B0) hn0).mono ?_
  rintro e u1 ⟨g1, rfl, y1, hr1, b1⟩
  have yl1 := hr1.lt
  have hx1 := EsL.of_row w0.1.1 hr1
  have zz1 := b1.size
  have B1 := belowCall B0 b1
  go_wp2_with fail
  refine (toEsS_any _ _ _ z1 u1 (w1.1.mono B1) hn1).mono ?_
  rintro e u2 ⟨g2, rfl, y2, hr2, b2⟩
  have yl2 := hr2.lt
  have hx2 := EsL.of_row w1.1.1 hr2
  have zz2 := b2.size
  have B2 := belowCall B1 b2
  replace hx1 := hx1.mono b2
  go_wp2_with fail
  refine (sMg_any _ _ _ _ _ _ _ _ z0 z1 u2 hx1 hx2 hn0 hn1).mono ?_
  rintro e u3 ⟨⟨aw, caw, rfl, hLw0⟩, b3⟩
  clear hx1
  clear hx2
  have zz3 := b3.size
  have B3 := belowCall B2 b3
  have baw := b3.size
  have hLw := (hLw0 1).toL.toB
  clear hLw0
  go_wp2_with fail
  refine (toEsS_any _ _ _ z0 u3 (w0.1.mono B3) hn0).mono ?_
  rintro e u4 ⟨g4, rfl, y4, hr4, b4⟩
  have yl4 := hr4.lt
  have hx4 := EsL.of_row w0.1.1 hr4
  have zz4 := b4.size
  have B4 := belowCall B3 b4
  replace hLw := hLw.below b4 (by omega)
  go_wp2_with fail
  refine (toEsS_any _ _ _ z1 u4 (w1.1.mono B4) hn1).mono ?_
  rintro e u5 ⟨g5, rfl, y5, hr5, b5⟩
  have yl5 := hr5.lt
  have hx5 := EsL.of_row w1.1.1 hr5
  have zz5 := b5.size
  have B5 := belowCall B4 b5
  replace hr4 := rowB hr4 b5
  replace hx4 := hx4.mono b5
  replace hLw := hLw.below b5 (by omega)
  go_wp2_with fail
  refine (iMg_any _ _ _ _ _ _ _ _ z0 z1 ea u5 hx4 hx5 hn0 hn1 (Nat.le_refl _) (Nat.le_refl _) (hE.mono B5)).mono ?_
  rintro e u6 ⟨⟨ag, cag, rfl, hMg0⟩, b6⟩
  have zz6 := b6.size
  have B6 := belowCall B5 b6
  replace hr4 := rowB hr4 b6
  replace hx4 := hx4.mono b6
  replace hr5 := rowB hr5 b6
  replace hx5 := hx5.mono b6
  replace hLw := hLw.below b6 (by omega)
  have bag := b6.size
  have hMg := hMg0 1
  clear hMg0
  go_wp2_with fail
  refine (eqEsS_self _ _ _ _ _ (mgLs z0 z1) u6 hMg.toL hLw.toL (mg_len z0 z1)).mono ?_
  rintro e u7 ⟨rfl, b7⟩
  have zz7 := b7.size
  have B7 := belowCall B6 b7
  replace hr4 := rowB hr4 b7
  replace hx4 := hx4.mono b7
  replace hr5 := rowB hr5 b7
  replace hx5 := hx5.mono b7
  replace hLw := hLw.below b7 (by omega)
  replace hMg := hMg.below b7
  go_wp2_with fail
  refine (toEsS_any _ _ _ z0 u7 (w0.1.mono B7) hn0).mono ?_
  rintro e u8 ⟨g8, rfl, y8, hr8, b8⟩
  have yl8 := hr8.lt
  have hx8 := EsL.of_row w0.1.1 hr8
  have zz8 := b8.size
  have B8 := belowCall B7 b8
  replace hr4 := rowB hr4 b8
  replace hx4 := hx4.mono b8
  replace hr5 := rowB hr5 b8
  replace hx5 := hx5.mono b8
  replace hLw := hLw.below b8 (by omega)
  replace hMg := hMg.below b8
  go_wp2_with fail
  refine (eqEsS_self _ _ _ _ _ z0 u8 hx4 hx8 hn0).mono ?_
  rintro e u9 ⟨rfl, b9⟩
  clear hx8
  have zz9 := b9.size
  have B9 := belowCall B8 b9
  replace hr4 := rowB hr4 b9
  replace hx4 := hx4.mono b9
  replace hr5 := rowB hr5 b9
  replace hx5 := hx5.mono b9
  replace hLw := hLw.below b9 (by omega)
  replace hMg := hMg.below b9
  go_wp2_with fail
  refine (toEsS_any _ _ _ z1 u9 (w1.1.mono B9) hn1).mono ?_
  rintro e u10 ⟨g10, rfl, y10, hr10, b10⟩
  have yl10 := hr10.lt
  have hx10 := EsL.of_row w1.1.1 hr10
  have zz10 := b10.size
  have B10 := belowCall B9 b10
  replace hr4 := rowB hr4 b10
  replace hx4 := hx4.mono b10
  replace hr5 := rowB hr5 b10
  replace hx5 := hx5.mono b10
  replace hLw := hLw.below b10 (by omega)
  replace hMg := hMg.below b10
  go_wp2_with fail
  refine (eqEsS_self _ _ _ _ _ z1 u10 hx5 hx10 hn1).mono ?_
  rintro e u11 ⟨rfl, b11⟩
  clear hx10
  have zz11 := b11.size
  have B11 := belowCall B10 b11
  replace hr4 := rowB hr4 b11
  replace hx4 := hx4.mono b11
  replace hr5 := rowB hr5 b11
  replace hx5 := hx5.mono b11
  replace hLw := hLw.below b11 (by omega)
  replace hMg := hMg.below b11
  clear hx4
  have hm4 : ∀ m, SMG u11 g4 (len0 * 5) (mfEs m 0) := fun m => SMG.of_row hr4 (by intro j; simp [mfEs])
  clear hr4
  clear hx5
  have hm5 : ∀ m, SMG u11 g5 (len1 * 5) (mfEs m 0) := fun m => SMG.of_row hr5 (by intro j; simp [mfEs])
  clear hr5
  go_wp2_with fail
  refine (markEsS_f g4 _ (1) _ u11 (hm4 _) hn0 (by omega) (by omega)).mono ?_
  rintro e u12 ⟨rfl, -, b12⟩
  clear hm4
  replace hm5 : ∀ m, SMG u12 g5 (len1 * 5) (mfEs m 0) := fun m => (hm5 m).far b12 (by omega)
  have zz12 := b12.size
  have B12 : Below w.heap.size w u12 := B11.grown b12 B11.size (fun k e => by cases e; omega)
  replace hLw := hLw.grown b12 (by omega)
  replace hMg := hMg.far b12 (by omega)
  go_wp2_with fail
  refine (markEsS_f g5 _ (1 + 5 * len0) _ u12 (hm5 _) hn1 (by omega) (by omega)).mono ?_
  rintro e u13 ⟨rfl, -, b13⟩
  clear hm5
  have zz13 := b13.size
  have B13 : Below w.heap.size w u13 := B12.grown b13 B12.size (fun k e => by cases e; omega)
  replace hLw := hLw.grown b13 (by omega)
  replace hMg := hMg.far b13 (by omega)
  have hk0 : ¬ ((1 + 5 * len0 + 5 * len1 : Nat) : Int) < 0 := by omega
  go_wp2_with fail
  refine (eqEsS_self _ _ _ _ _ (mgLs z0 z1) u13 hMg.toL hLw.toL (mg_len z0 z1)).mono ?_
  rintro e u14 ⟨rfl, b14⟩
  have zz14 := b14.size
  have B14 := belowCall B13 b14
  replace hLw := hLw.below b14 (by omega)
  replace hMg := hMg.below b14
  go_wp2_with fail
  refine (markEsS_o ag _ 1 _ _ _ u14 u14 (Below.refl _ _) (by omega) hMg (mg_len z0 z1) (by omega) (by omega)).mono ?_
  rintro e u15 ⟨rfl, hMm, b15⟩
  have zz15 := b15.size
  have B15 : Below w.heap.size w u15 := B14.trans (b15.mono (by omega))
  replace hLw := hLw.below b15 (by omega)
  clear hMg
  have hMg := hMm
  clear hMm
  have hq0 : ¬ ((1 + 5 * (mgLs z0 z1).length : Nat) : Int) < 0 := by omega
  go_wp2_with fail
  refine (heldEsS_o ag _ 1 _ _ _ u15 hMg (mg_len z0 z1) (by omega) (by omega)).mono ?_
  rintro e u16 ⟨rfl, b16⟩
  have zz16 := b16.size
  have B16 := belowCall B15 b16
  replace hLw := hLw.below b16 (by omega)
  replace hMg := hMg.below b16
  go_wp2_with fail
  refine (toEsS_any _ _ _ z0 u16 (w0.1.mono B16) hn0).mono ?_
  rintro e u17 ⟨g17, rfl, y17, hr17, b17⟩
  have yl17 := hr17.lt
  have hx17 := EsL.of_row w0.1.1 hr17
  have zz17 := b17.size
  have B17 := belowCall B16 b17
  replace hLw := hLw.below b17 (by omega)
  replace hMg := hMg.below b17
  go_wp2_with fail
  refine (toEsS_any _ _ _ z1 u17 (w1.1.mono B17) hn1).mono ?_
  rintro e u18 ⟨g18, rfl, y18, hr18, b18⟩
  have yl18 := hr18.lt
  have hx18 := EsL.of_row w1.1.1 hr18
  have zz18 := b18.size
  have B18 := belowCall B17 b18
  replace hx17 := hx17.mono b18
  replace hLw := hLw.below b18 (by omega)
  replace hMg := hMg.below b18
  go_wp2_with fail
  refine (iMg_any _ _ _ _ _ _ _ _ z0 z1 ea u18 hx17 hx18 hn0 hn1 (Nat.le_refl _) (Nat.le_refl _) (hE.mono B18)).mono ?_
  rintro e u19 ⟨⟨ah, cah, rfl, hMh0⟩, b19⟩
  clear hx17
  clear hx18
  have zz19 := b19.size
  have B19 := belowCall B18 b19
  replace hLw := hLw.below b19 (by omega)
  replace hMg := hMg.below b19
  have bah := b19.size
  have hMh := hMh0 1
  clear hMh0
  go_wp2_with fail
  refine (eqEsS_self _ _ _ _ _ (mgLs z0 z1) u19 hMh.toL hLw.toL (mg_len z0 z1)).mono ?_
  rintro e u20 ⟨rfl, b20⟩
  have zz20 := b20.size
  have B20 := belowCall B19 b20
  replace hLw := hLw.below b20 (by omega)
  replace hMg := hMg.below b20
  replace hMh := hMh.below b20
  go_wp2_with fail
  refine (heldEsS_o ag _ 1 _ _ _ u20 hMg (mg_len z0 z1) (by omega) (by omega)).mono ?_
  rintro e u21 ⟨rfl, b21⟩
  have zz21 := b21.size
  have B21 := belowCall B20 b21
  replace hLw := hLw.below b21 (by omega)
  replace hMg := hMg.below b21
  replace hMh := hMh.below b21
  go_wp2_with fail
  go_ret
  exact ⟨rfl, B21⟩

set_option maxRecDepth 100000 in
theorem contract (H : Type) (enc : TypeId × Value → H) (W : World) (base : Nat) (args : Array Value) (ds gs : List (DataW H)) (before : List MemPlace)
    (hval : ∀ (j : Nat) t v, Tryd.f4.params[j]? = some t → args[j]? = some v → Value.okWide Tryd.prog W .any base t v)
    (hW : DataW.Whole enc Tryd.prog Tryd.f4.params.toList Rows.fnExactMergeEstimatesSpec.vars false W args.toList ds gs before) (hL : laidMetH Tryd.prog Rows.fnExactMergeEstimatesRow.laid W) (hSh : W.ShapedOpen Tryd.prog) :
    Calls Tryd.prog 4 args W fun e W' => ∃ v, e = .returned v ∧ Rows.fnExactMergeEstimatesSpec.post enc Tryd.prog Tryd.f4 false true false false W args v W' := by
  have hW' := hW
  obtain ⟨p, q, hA0, hV, rfl, hfz, hnd⟩ := hW
  have hA : DataW.TrodAll enc Tryd.prog W 0 (fun _ => true) true Tryd.f4.params.toList args.toList ds p := hA0
  rw [Tryd.params4] at hA hval
  obtain ⟨v0, vs0, d0, ds0, p0, q0, hargs, rfl, rfl, h0, r0⟩ := trodAll_cons hA
  obtain ⟨v1, vs1, d1, ds1, p1, q1, rfl, rfl, rfl, h1, r1⟩ := trodAll_cons r0
  obtain ⟨rfl, rfl, rfl⟩ := trodAll_nil r1
  obtain rfl : args = #[v0, v1] := by cases args; simp_all
  have hV2 := hV
  obtain ⟨gN, tN, csN, fuN, dN, pN, rfl, _, _, _, _, _⟩ := trodVars_one hV
  have k0 := h0
  have lt0 : ∀ x ∈ p0, x.block < W.heap.size := by obtain ⟨m, hm⟩ := k0; exact DataW.trod_lt m _ _ _ hm
  obtain ⟨a0, len0, cap0, rfl⟩ := okWide_slice Tryd.underlying22 (hval 0 22 v0 rfl rfl)
  obtain ⟨z0, w0⟩ : ∃ zs, IsEs W a0 len0 cap0 zs := by
    obtain ⟨fuel, hf⟩ := h0
    exact ess_of Tryd.underlying22 Tryd.underlying35 (by kernel_rfl) (show Tryd.prog.cellsOf 35 = 5 by kernel_rfl) Tryd.underlying2 Tryd.underlying9 Tryd.underlying9 Tryd.underlying2 Tryd.underlying4 (by simpa [Value.cells] using hf)
  have k1 := h1
  have lt1 : ∀ x ∈ p1, x.block < W.heap.size := by obtain ⟨m, hm⟩ := k1; exact DataW.trod_lt m _ _ _ hm
  obtain ⟨a1, len1, cap1, rfl⟩ := okWide_slice Tryd.underlying22 (hval 1 22 v1 rfl rfl)
  obtain ⟨z1, w1⟩ : ∃ zs, IsEs W a1 len1 cap1 zs := by
    obtain ⟨fuel, hf⟩ := h1
    exact ess_of Tryd.underlying22 Tryd.underlying35 (by kernel_rfl) (show Tryd.prog.cellsOf 35 = 5 by kernel_rfl) Tryd.underlying2 Tryd.underlying9 Tryd.underlying9 Tryd.underlying2 Tryd.underlying4 (by simpa [Value.cells] using hf)
  clear hA0
  refine (walk a0 len0 cap0 z0 a1 len1 cap1 z1 W w0 w1 hL hSh).mono fun e W' ⟨he, bel⟩ => ?_
  subst he
  exact ⟨_, rfl, _, _, _, [], _, _, hW', trodAll_mk1 (shut_bool Tryd.underlying4 _), (trodAll_cons_mk (Below.trod laidOut (by kernel_rfl) (of_decide_eq_true (by kernel_rfl)) k0 bel lt0) (trodAll_cons_mk (Below.trod laidOut (by kernel_rfl) (of_decide_eq_true (by kernel_rfl)) k1 bel lt1) trodAll_mk0)), Below.trodVars laidOut bel (by kernel_rfl) hV2, bel.frame _, fun h => by cases h⟩
noncomputable def low : Nat := (World.holding Tryd.prog default ⟨#[], #[], []⟩).heap.size
/-- a world for the witness: the settled one, the listed variables holding what their initialisers lay -/
noncomputable def laidCells : Nat → Obj → Obj
  | 0, .cells _ t frozen => .cells #[.iface 113 (.pointer (some ⟨low + 0, 0, none⟩))] t frozen
  | _, o => o
noncomputable def laidWorld (os : Os) : World :=
  { World.holding Tryd.prog os ⟨#[.cells #[.string ⟨#[116, 119, 111, 32, 101, 108, 101, 109, 101, 110, 116, 115, 32, 111, 102, 32, 116, 104, 101, 32, 115, 97, 109, 101, 32, 112, 108, 97, 99, 101, 32, 100, 105, 102, 102, 101, 114]⟩] 137], #[], []⟩ with heap := (World.holding Tryd.prog os ⟨#[.cells #[.string ⟨#[116, 119, 111, 32, 101, 108, 101, 109, 101, 110, 116, 115, 32, 111, 102, 32, 116, 104, 101, 32, 115, 97, 109, 101, 32, 112, 108, 97, 99, 101, 32, 100, 105, 102, 102, 101, 114]⟩] 137], #[], []⟩).heap.mapIdx laidCells }
set_option maxRecDepth 100000 in
theorem laid_met (os : Os) : laidMet Tryd.prog Rows.fnExactMergeEstimatesRow.laid ((laidWorld os).forCall (fun _ _ => 0) ⟨#[], #[.slice none 0 0, .slice none 0 0], []⟩).memory :=
  laidMet_of_run' 8 (by kernel_rfl) (by kernel_rfl)
set_option maxRecDepth 100000 in
theorem reads (os : Os) {H : Type} (enc : TypeId × Value → H) : ∃ places, DataW.whole enc Tryd.prog ((laidWorld os).forCall (fun _ _ => 0) ⟨#[], #[.slice none 0 0, .slice none 0 0], []⟩).memory Tryd.f4.params.toList Rows.fnExactMergeEstimatesSpec.vars false (#[.slice none 0 0, .slice none 0 0] : Array Value).toList 8 = some ([.nil, .nil], [.held (enc (113, .pointer (some ⟨low + 0, 0, none⟩)))], places) :=
  ⟨((DataW.whole enc Tryd.prog ((laidWorld os).forCall (fun _ _ => 0) ⟨#[], #[.slice none 0 0, .slice none 0 0], []⟩).memory Tryd.f4.params.toList Rows.fnExactMergeEstimatesSpec.vars false (#[.slice none 0 0, .slice none 0 0] : Array Value).toList 8).getD ([], [], [])).2.2, by kernel_rfl⟩
set_option maxRecDepth 100000 in
theorem lifted (os : Os) (started : os.Started) (H : Type) (enc : TypeId × Value → H) (F : Stop.Interp) :
    ReturnsInHanded {} Tryd.checked os 4 .any ((OpenSpec.ofChange Rows.fnExactMergeEstimatesSpec).preRow enc Tryd.prog Tryd.f4 Rows.fnExactMergeEstimatesRow.domain false Rows.fnExactMergeEstimatesRow.laid) (((OpenSpec.ofChange Rows.fnExactMergeEstimatesSpec).at F).post enc Tryd.prog Tryd.f4 false true false false) := by
  obtain ⟨places, hx⟩ := reads os enc
  refine returnsInHanded_of_row (C := Tryd.checked) (s := OpenSpec.ofChange Rows.fnExactMergeEstimatesSpec) own started (by kernel_rfl) Tryd.func4
    (witness_row_at (enc := enc) (C := Tryd.checked) false (laidWorld os) #[.slice none 0 0, .slice none 0 0] rfl (by kernel_rfl) (by kernel_rfl) (by kernel_rfl)
      (OpenSpec.preRow_of_cond 8 hx (by kernel_rfl) (fun k hk => by cases hk) (by kernel_rfl) (laid_met os))) ?_
  intro W base args ds gs before hval hW _ _ _ hL hSh _
  exact contract H enc W base args ds gs before hval hW hL hSh
theorem said : Rows.FnExactMergeEstimatesSaid :=
  OpenClaim.holds_of_cond 4 Tryd.f4 rfl rfl rfl rfl rfl rfl rfl ⟨rfl, rfl, rfl, rfl, rfl⟩ rfl rfl rfl rfl rfl (by kernel_rfl) Tryd.func4 (by kernel_rfl)
    (of_decide_eq_true (by kernel_rfl)) (by unfold Func.isWrapper; first | (rw [if_pos (by decide +kernel)]; kernel_rfl) | (rw [if_neg (by decide +kernel)]; exact ⟨rfl, rfl⟩))
    (fun os started H enc _ F => by rw [OpenClaim.pre_eq_preRow]; exact lifted os started H enc F)
theorem plain (f : FuncId) (fn : Func) (hf : Tryd.pinned.checked.prog.funcNamed "loop.example/g01026/laws.FnExactMergeEstimates" = some f) (hfn : Tryd.pinned.checked.prog.funcs[f]? = some fn) :
    true = Tryd.pinned.checked.prog.looks [] ∧ ∀ (j : Nat) t, fn.params[j]? = some t → Tryd.pinned.checked.prog.wantsStandIn t = false := by
  obtain rfl : f = 4 := Option.some.inj ((show Tryd.prog.funcNamed "loop.example/g01026/laws.FnExactMergeEstimates" = some 4 by kernel_rfl).symm.trans hf) |>.symm
  obtain rfl : fn = Tryd.f4 := (Option.some.inj (Tryd.func4.symm.trans hfn)).symm
  refine ⟨by kernel_rfl, fun j t ht => ?_⟩
  rw [Tryd.params4] at ht
  have hm := Array.mem_of_getElem? ht
  simp at hm
  subst hm
  exact (show Tryd.prog.wantsStandIn 22 = false by kernel_rfl)
theorem proved : Rows.FnExactMergeEstimatesCardSaid :=
  Claim7.holds_tied_plain_at .later [] _ _ _ _ said (fun _ h => by cases h) (by kernel_rfl) (fun _ h => by cases h) fnExactMergeEstimates_row_tie rfl ⟨rfl, rfl⟩ (by kernel_rfl) rfl plain (by kernel_rfl)
#print axioms proved
end Go.Proofs.YtfnjndbnogeddaaDoor.fnExactMergeEstimates
