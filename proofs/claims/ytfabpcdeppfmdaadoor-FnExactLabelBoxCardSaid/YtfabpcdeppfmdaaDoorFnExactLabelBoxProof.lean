/- FnExactLabelBox: for every mark and every int64 the program's LabelBox (a box moved along a table of directions) answers as the model's, and its answer owns its memory: it holds the law's marks through another call. The card: the tables that its road names stand as their initialisers lay them. -/
import Derived.Test.YtfabpcdeppfmdaaDoorB1
import Derived.Test.YtfabpcdeppfmdaaDoorHM
import Derived.Test.YtfabpcdeppfmdaaDoorCards
import Derived.Test.YtfabpcdeppfmdaaDoorTie
import Derived.Deep.DeepHandedRow
import Derived.Lib.LaidTab
import Derived.OpenVars
import Derived.ChangeVars
import Derived.ChangeOld
import Derived.Lib.SmallJoins
import Derived.LaidSub
namespace Go.Proofs.YtfabpcdeppfmdaaDoor.fnExactLabelBox
open Go.ChangeShapes Go.WideShapes Go.ChangeAt Go.RowKit
open Go.ChangeMaps (open_string shut_string)
set_option linter.unusedVariables false

theorem own : ownKnob Tryd.prog.godebug = none := by kernel_rfl
theorem laidOut : laidOutB Tryd.prog = true := by kernel_rfl
set_option maxHeartbeats 4000000 in

theorem walk (a0_0 : Int) (a0_1 : Int) (a0_2 : Int) (a1 : Int) (w : World) (w0_0 : (Lit.int .i64 a0_0).wf = true) (w0_1 : (Lit.int .i64 a0_1).wf = true) (w0_2 : (Lit.int .i64 a0_2).wf = true) (w1 : (Lit.int .i64 a1).wf = true) (hL : laidMetH Tryd.prog Rows.fnExactLabelBoxRow.laid w) (hSh : w.ShapedOpen Tryd.prog) :
    Calls Tryd.prog 5 #[.agg #[.int .i64 a0_0, .int .i64 a0_1, .int .i64 a0_2], .int .i64 a1] w fun e w' => e = .returned (.bool true) ∧ Below w.heap.size w w' := by
  have hp := pow_laid (laidMetH.filter (fun x => x.1 == "internal/strconv.uint64pow10") hL)
  have hw := ways_laid (laidMetH.filter (fun x => x.1 == "loop.example/g01026/impl.sideWays") hL)
  clear hL
  have hcc : ((lbC (a0_0, a0_1, a0_2) a1) != (lbC (a0_0, a0_1, a0_2) a1)) = false := by simp
  have hLn := lbL_len (a0_0, a0_1, a0_2) a1
  have hbx := MkC.fresh w 44 a0_0 a0_1 a0_2
  have BW : Below w.heap.size w (w.alloc (.cells #[.int .i64 a0_0, .int .i64 a0_1, .int .i64 a0_2] 44)) := (Below.refl _ w).alloc (Nat.le_refl _) _
  go_enter Tryd.func5, Tryd.ntmps5
  go_wp2_with fail
  refine (toMk_any _ _ _ _).mono ?_
  rintro e w1 ⟨rfl, b1⟩
  have B1 := belowCall BW b1
  have hbx1 := hbx.mono b1
  have z1 := B1.size
  clear hbx BW b1
  go_wp2_with fail
  refine (sLabelBox_any a0_0 a0_1 a0_2 a1 w1).mono ?_
  rintro e w2 ⟨⟨aw, cw, rfl, hLw0⟩, b2⟩
  have hLw := (hLw0 1).toL.toB
  have B2 := belowCall B1 b2
  have z2 := b2.size
  have hbx2 := hbx1.mono b2
  obtain ⟨-, q0, q1, q2⟩ := hbx2.parts
  rw [Nat.zero_add] at q1 q2
  clear hLw0
  go_wp2_with fail
  refine (toMk_any _ _ _ _).mono ?_
  rintro e w3 ⟨rfl, b3⟩
  have B3 := belowCall B2 b3
  have z3 := b3.size
  have hbx3 := hbx2.mono b3
  clear q0 q1 q2
  go_wp2_with fail
  refine (iLabelBox_any a0_0 a0_1 a0_2 a1 w3 (hp.mono B3) (hw.mono B3)).mono ?_
  rintro e w4 ⟨⟨ag, cg, rfl, hMg0⟩, b4⟩
  have hMg := hMg0 1
  have hLw4 := hLw.below (belowCall b3 b4) (Nat.le_refl _)
  have B4 := belowCall B3 b4
  have z4 := b4.size
  clear hMg0
  go_wp2_with fail
  refine (eqI_self ag aw _ _ _ (lbL (a0_0, a0_1, a0_2) a1) w4 hMg.toL hLw4.toL hLn).mono ?_
  rintro e w5 ⟨rfl, b5⟩
  have hMg5 := hMg.below b5
  have hLw5 := hLw4.below b5 (by omega)
  have B5 := belowCall B4 b5
  have z5 := b5.size
  go_wp2_with fail
  refine (markI_o ag _ 1 _ _ _ w5 w5 (Below.refl _ _) (by omega) hMg5 hLn (by omega) (by omega)).mono ?_
  rintro e w6 ⟨rfl, hM6, b6⟩
  have z6 := b6.size
  have hLw6 := hLw5.below b6 (by omega)
  have B6 : Below w.heap.size w w6 := B5.trans (b6.mono (by omega))
  have hbx6 := hbx3.mono ((belowCall b4 b5).trans b6)
  go_wp2_with fail
  refine (heldI_o ag _ 1 _ _ _ w6 hM6 hLn (by omega) (by omega)).mono ?_
  rintro e w7 ⟨rfl, b7⟩
  have z7 := b7.size
  have hM7 := hM6.below b7
  have hLw7 := hLw6.below b7 (by omega)
  have B7 := belowCall B6 b7
  have hbx7 := hbx6.mono b7
  have hq0 : ¬ ((1 + (lbL (a0_0, a0_1, a0_2) a1).length : Nat) : Int) < 0 := by omega
  obtain ⟨-, q0, q1, q2⟩ := hbx7.parts
  rw [Nat.zero_add] at q1 q2
  go_wp2_with fail
  refine (toMk_any _ _ _ _).mono ?_
  rintro e w8 ⟨rfl, b8⟩
  have z8 := b8.size
  have B8 := belowCall B7 b8
  go_wp2_with fail
  refine (iLabelBox_any a0_0 a0_1 a0_2 a1 w8 (hp.mono B8) (hw.mono B8)).mono ?_
  rintro e w9 ⟨⟨ah, ch, rfl, hMh0⟩, b9⟩
  have hMh := hMh0 1
  have z9 := b9.size
  have B9 := belowCall B8 b9
  have hM9 := (hM7.below b8).below b9
  have hLw9 := (hLw7.below b8 (by omega)).below b9 (by omega)
  go_wp2_with fail
  refine (eqI_self ah aw _ _ _ (lbL (a0_0, a0_1, a0_2) a1) w9 hMh.toL hLw9.toL hLn).mono ?_
  rintro e w10 ⟨rfl, b10⟩
  go_wp2_with fail
  refine (heldI_o ag _ 1 _ _ _ w10 (hM9.below b10) hLn (by omega) (by omega)).mono ?_
  rintro e w11 ⟨rfl, b11⟩
  go_wp2_with fail
  go_ret
  exact ⟨rfl, belowCall (belowCall B9 b10) b11⟩

set_option maxRecDepth 100000 in
theorem contract (H : Type) (enc : TypeId × Value → H) (W : World) (base : Nat) (args : Array Value) (ds gs : List (DataW H)) (before : List MemPlace)
    (hval : ∀ (j : Nat) t v, Tryd.f5.params[j]? = some t → args[j]? = some v → Value.okWide Tryd.prog W .any base t v)
    (hW : DataW.Whole enc Tryd.prog Tryd.f5.params.toList Rows.fnExactLabelBoxSpec.vars false W args.toList ds gs before) (hL : laidMetH Tryd.prog Rows.fnExactLabelBoxRow.laid W) (hSh : W.ShapedOpen Tryd.prog) :
    Calls Tryd.prog 5 args W fun e W' => ∃ v, e = .returned v ∧ Rows.fnExactLabelBoxSpec.post enc Tryd.prog Tryd.f5 false true false false W args v W' := by
  have hW' := hW
  obtain ⟨p, q, hA0, hV, rfl, hfz, hnd⟩ := hW
  have hA : DataW.TrodAll enc Tryd.prog W 0 (fun _ => true) true Tryd.f5.params.toList args.toList ds p := hA0
  rw [Tryd.params5] at hA hval
  obtain ⟨v0, vs0, d0, ds0, p0, q0, hargs, rfl, rfl, h0, r0⟩ := trodAll_cons hA
  obtain ⟨v1, vs1, d1, ds1, p1, q1, rfl, rfl, rfl, h1, r1⟩ := trodAll_cons r0
  obtain ⟨rfl, rfl, rfl⟩ := trodAll_nil r1
  obtain rfl : args = #[v0, v1] := by cases args; simp_all
  have hV2 := hV
  obtain ⟨gN, tN, csN, fuN, dN, pN, rfl, _, _, _, _, _⟩ := trodVars_one hV
  have k0 := h0
  have lt0 : ∀ x ∈ p0, x.block < W.heap.size := by obtain ⟨m, hm⟩ := k0; exact DataW.trod_lt m _ _ _ hm
  obtain ⟨c0_0, c0_1, c0_2, y0_0, y0_1, y0_2, mf0, rfl, hd0, hp0, g0_0, g0_1, g0_2⟩ := Go.Joins.open_agg3 Tryd.underlying44 (by kernel_rfl) (show Tryd.prog.cellsOf 44 = 3 by kernel_rfl) (hval 0 44 v0 rfl rfl) h0
  obtain ⟨a0_0, e0_0, _, w0_0⟩ := DataW.trod_int Tryd.underlying2 g0_0
  simp only [List.cons.injEq, and_true] at e0_0
  subst e0_0
  obtain ⟨a0_1, e0_1, _, w0_1⟩ := DataW.trod_int Tryd.underlying2 g0_1
  simp only [List.cons.injEq, and_true] at e0_1
  subst e0_1
  obtain ⟨a0_2, e0_2, _, w0_2⟩ := DataW.trod_int Tryd.underlying2 g0_2
  simp only [List.cons.injEq, and_true] at e0_2
  subst e0_2
  obtain ⟨a1, rfl, rfl, rfl, w1⟩ := open_int Tryd.underlying2 (hval 1 2 v1 rfl rfl) h1
  clear hA0
  refine (walk a0_0 a0_1 a0_2 a1 W w0_0 w0_1 w0_2 w1 hL hSh).mono fun e W' ⟨he, bel⟩ => ?_
  subst he
  exact ⟨_, rfl, _, _, _, [], _, _, hW', trodAll_mk1 (shut_bool Tryd.underlying4 _), (trodAll_cons_mk (Below.trod laidOut (by kernel_rfl) (of_decide_eq_true (by kernel_rfl)) k0 bel lt0) (trodAll_cons_mk (shut_int Tryd.underlying2 w1) trodAll_mk0)), Below.trodVars laidOut bel (by kernel_rfl) hV2, bel.frame _, fun h => by cases h⟩
noncomputable def low : Nat := (World.holding Tryd.prog default ⟨#[], #[], []⟩).heap.size
/-- a world for the witness: the settled one, the listed variables holding what their initialisers lay -/
noncomputable def laidCells : Nat → Obj → Obj
  | 2, .cells _ t frozen => .cells #[.int .u8 0, .int .u8 1, .int .u8 28, .int .u8 2, .int .u8 29, .int .u8 14, .int .u8 24, .int .u8 3, .int .u8 30, .int .u8 22, .int .u8 20, .int .u8 15, .int .u8 25, .int .u8 17, .int .u8 4, .int .u8 8, .int .u8 31, .int .u8 27, .int .u8 13, .int .u8 23, .int .u8 21, .int .u8 19, .int .u8 16, .int .u8 7, .int .u8 26, .int .u8 12, .int .u8 18, .int .u8 6, .int .u8 11, .int .u8 5, .int .u8 10, .int .u8 9] t frozen
  | 3, .cells _ t frozen => .cells #[.int .u8 0, .int .u8 1, .int .u8 56, .int .u8 2, .int .u8 57, .int .u8 49, .int .u8 28, .int .u8 3, .int .u8 61, .int .u8 58, .int .u8 42, .int .u8 50, .int .u8 38, .int .u8 29, .int .u8 17, .int .u8 4, .int .u8 62, .int .u8 47, .int .u8 59, .int .u8 36, .int .u8 45, .int .u8 43, .int .u8 51, .int .u8 22, .int .u8 53, .int .u8 39, .int .u8 33, .int .u8 30, .int .u8 24, .int .u8 18, .int .u8 12, .int .u8 5, .int .u8 63, .int .u8 55, .int .u8 48, .int .u8 27, .int .u8 60, .int .u8 41, .int .u8 37, .int .u8 16, .int .u8 46, .int .u8 35, .int .u8 44, .int .u8 21, .int .u8 52, .int .u8 32, .int .u8 23, .int .u8 11, .int .u8 54, .int .u8 26, .int .u8 40, .int .u8 15, .int .u8 34, .int .u8 20, .int .u8 31, .int .u8 10, .int .u8 25, .int .u8 14, .int .u8 19, .int .u8 9, .int .u8 13, .int .u8 8, .int .u8 7, .int .u8 6] t frozen
  | 1, .cells _ t frozen => .cells #[.int .u64 1, .int .u64 10, .int .u64 100, .int .u64 1000, .int .u64 10000, .int .u64 100000, .int .u64 1000000, .int .u64 10000000, .int .u64 100000000, .int .u64 1000000000, .int .u64 10000000000, .int .u64 100000000000, .int .u64 1000000000000, .int .u64 10000000000000, .int .u64 100000000000000, .int .u64 1000000000000000, .int .u64 10000000000000000, .int .u64 100000000000000000, .int .u64 1000000000000000000, .int .u64 10000000000000000000] t frozen
  | 0, .cells _ t frozen => .cells #[.int .i64 1, .int .i64 0, .int .i64 (-1), .int .i64 0, .int .i64 0, .int .i64 1, .int .i64 0, .int .i64 (-1)] t frozen
  | _, o => o
noncomputable def laidWorld (os : Os) : World :=
  { World.holding Tryd.prog os ⟨#[], #[], []⟩ with heap := (World.holding Tryd.prog os ⟨#[], #[], []⟩).heap.mapIdx laidCells }
set_option maxRecDepth 100000 in
theorem laid_met (os : Os) : laidMet Tryd.prog Rows.fnExactLabelBoxRow.laid ((laidWorld os).forCall (fun _ _ => 0) ⟨#[], #[.agg #[.int .i64 0, .int .i64 0, .int .i64 0], .int .i64 0], []⟩).memory :=
  laidMet_of_run' 8 (by kernel_rfl) (by kernel_rfl)
set_option maxRecDepth 100000 in
theorem reads (os : Os) {H : Type} (enc : TypeId × Value → H) : ∃ places, DataW.whole enc Tryd.prog ((laidWorld os).forCall (fun _ _ => 0) ⟨#[], #[.agg #[.int .i64 0, .int .i64 0, .int .i64 0], .int .i64 0], []⟩).memory Tryd.f5.params.toList Rows.fnExactLabelBoxSpec.vars false (#[.agg #[.int .i64 0, .int .i64 0, .int .i64 0], .int .i64 0] : Array Value).toList 8 = some ([.agg [.lit (.int .i64 0), .lit (.int .i64 0), .lit (.int .i64 0)], .lit (.int .i64 0)], [Rows.laid_loop_example_g01026_impl_sideWays], places) :=
  ⟨((DataW.whole enc Tryd.prog ((laidWorld os).forCall (fun _ _ => 0) ⟨#[], #[.agg #[.int .i64 0, .int .i64 0, .int .i64 0], .int .i64 0], []⟩).memory Tryd.f5.params.toList Rows.fnExactLabelBoxSpec.vars false (#[.agg #[.int .i64 0, .int .i64 0, .int .i64 0], .int .i64 0] : Array Value).toList 8).getD ([], [], [])).2.2, by kernel_rfl⟩
set_option maxRecDepth 100000 in
theorem lifted (os : Os) (started : os.Started) (H : Type) (enc : TypeId × Value → H) (F : Stop.Interp) :
    ReturnsInHanded {} Tryd.checked os 5 .any ((OpenSpec.ofChange Rows.fnExactLabelBoxSpec).preRow enc Tryd.prog Tryd.f5 Rows.fnExactLabelBoxRow.domain false Rows.fnExactLabelBoxRow.laid) (((OpenSpec.ofChange Rows.fnExactLabelBoxSpec).at F).post enc Tryd.prog Tryd.f5 false true false false) := by
  obtain ⟨places, hx⟩ := reads os enc
  refine returnsInHanded_of_row (C := Tryd.checked) (s := OpenSpec.ofChange Rows.fnExactLabelBoxSpec) own started (by kernel_rfl) Tryd.func5
    (witness_row_at (enc := enc) (C := Tryd.checked) false (laidWorld os) #[.agg #[.int .i64 0, .int .i64 0, .int .i64 0], .int .i64 0] rfl (by kernel_rfl) (by kernel_rfl) (by kernel_rfl)
      (OpenSpec.preRow_of_cond 8 hx (by kernel_rfl) (fun k hk => by cases hk) (by kernel_rfl) (laid_met os))) ?_
  intro W base args ds gs before hval hW _ _ _ hL hSh _
  exact contract H enc W base args ds gs before hval hW hL hSh
theorem said : Rows.FnExactLabelBoxSaid :=
  OpenClaim.holds_of_cond 5 Tryd.f5 rfl rfl rfl rfl rfl rfl rfl ⟨rfl, rfl, rfl, rfl, rfl⟩ rfl rfl rfl rfl rfl (by kernel_rfl) Tryd.func5 (by kernel_rfl)
    (of_decide_eq_true (by kernel_rfl)) (by unfold Func.isWrapper; first | (rw [if_pos (by decide +kernel)]; kernel_rfl) | (rw [if_neg (by decide +kernel)]; exact ⟨rfl, rfl⟩))
    (fun os started H enc _ F => by rw [OpenClaim.pre_eq_preRow]; exact lifted os started H enc F)
theorem plain (f : FuncId) (fn : Func) (hf : Tryd.pinned.checked.prog.funcNamed "loop.example/g01026/laws.FnExactLabelBox" = some f) (hfn : Tryd.pinned.checked.prog.funcs[f]? = some fn) :
    false = Tryd.pinned.checked.prog.looks [] ∧ ∀ (j : Nat) t, fn.params[j]? = some t → Tryd.pinned.checked.prog.wantsStandIn t = false := by
  obtain rfl : f = 5 := Option.some.inj ((show Tryd.prog.funcNamed "loop.example/g01026/laws.FnExactLabelBox" = some 5 by kernel_rfl).symm.trans hf) |>.symm
  obtain rfl : fn = Tryd.f5 := (Option.some.inj (Tryd.func5.symm.trans hfn)).symm
  refine ⟨by kernel_rfl, fun j t ht => ?_⟩
  rw [Tryd.params5] at ht
  have hm := Array.mem_of_getElem? ht
  simp at hm
  rcases hm with rfl | rfl
  · exact (show Tryd.prog.wantsStandIn 44 = false by kernel_rfl)
  · exact (show Tryd.prog.wantsStandIn 2 = false by kernel_rfl)
theorem proved : Rows.FnExactLabelBoxCardSaid :=
  Claim7.holds_tied_plain_at .later [] _ _ _ _ said (fun _ h => by cases h) (by kernel_rfl) (fun _ h => by cases h) fnExactLabelBox_row_tie rfl ⟨rfl, rfl⟩ (by kernel_rfl) rfl plain (by kernel_rfl)
#print axioms proved
end Go.Proofs.YtfabpcdeppfmdaaDoor.fnExactLabelBox
