/- FnExactAssignCycles: for every slice of times (that holds no more than the law's bound), every ephemeris and every number the program's AssignCycles (a method value, mapped over the times; failures as errors that errors.As takes out again) answers as the model's, writes into no argument, and its answer owns its memory: it holds the law's marks through another call. The card: the library's errors.errorType stands as its initialiser lays it. -/
import Derived.Test.YtbjflgohahmjgaaDoorB1
import Derived.Test.YtbjflgohahmjgaaDoorPU
import Derived.Test.YtbjflgohahmjgaaDoorPQ
import Derived.Test.YtbjflgohahmjgaaDoorGI
import Derived.Test.YtbjflgohahmjgaaDoorGR
import Derived.Test.YtbjflgohahmjgaaDoorCards
import Derived.Test.YtbjflgohahmjgaaDoorTie
import Derived.Deep.DeepHandedRow
import Derived.Lib.LaidTab
import Derived.LaidLaws
import Derived.LaidHandle
import Derived.ChangeOld
import Derived.Lib.SmallJoins
import Derived.LaidSub
import Derived.LaidLaws
import Derived.LaidHandle
namespace Go.Proofs.YtbjflgohahmjgaaDoor.fnExactAssignCycles
open Go.ChangeShapes Go.WideShapes Go.ChangeAt Go.RowKit
open Go.ChangeMaps (open_string shut_string)
set_option linter.unusedVariables false

theorem own : ownKnob Tryd.prog.godebug = none := by kernel_rfl
theorem laidOut : laidOutB Tryd.prog = true := by kernel_rfl
theorem ert_of {W : World} (h : laidMetH Tryd.prog [("errors.errorType", Rows.laid_errors_errorType)] W) : ErT W := by
  have h' : laidMet Tryd.prog [] W ∧ handlesMet Tryd.prog [("errors.errorType", Rows.laid_errors_errorType)] W := h
  have hrt : (Tryd.prog.cutTypes.find? (·.1 == "internal/reflectlite.rtype")).map (·.2) = some 127 := by kernel_rfl
  have hrow : ((List.range Tryd.prog.types.size).filter fun t => Tryd.prog.rowNamed t [101, 114, 114, 111, 114]) = [66] := by kernel_rfl
  obtain ⟨name, u, ty, e1, e2, e3, e4, e5⟩ := h'.2 _ (List.mem_singleton.2 rfl)
  have en : name = [101, 114, 114, 111, 114] := (Option.some.inj e1).symm
  subst en
  obtain rfl := Option.some.inj (hrt.symm.trans e2)
  have hm : ty ∈ (List.range Tryd.prog.types.size).filter fun t => Tryd.prog.rowNamed t [101, 114, 114, 111, 114] := List.mem_filter.2 ⟨List.mem_range.2 e3, e4⟩
  rw [hrow] at hm
  obtain rfl := List.mem_singleton.1 hm
  have hh : typeHandle Tryd.prog 66 = .pointer (some ⟨1, 66, none⟩) := by kernel_rfl
  rw [hh] at e5
  have het : Tryd.prog.globalNamed "errors.errorType" = some 0 := by kernel_rfl
  simpa [ErT] using World.var?_cell het e5 0
set_option maxHeartbeats 8000000 in

theorem walk (a0 : Option Addr) (len0 cap0 : Nat) (z0 : List Int) (a1_0 : Int) (a1_1 : Int) (a2 : Int) (w : World) (w0 : IsRow .i64 w a0 len0 cap0 z0) (w1_0 : (Lit.int .i64 a1_0).wf = true) (w1_1 : (Lit.int .i64 a1_1).wf = true) (w2 : (Lit.int .i64 a2).wf = true) (hL : laidMetH Tryd.prog Rows.fnExactAssignCyclesRow.laid w) (hSh : w.ShapedOpen Tryd.prog) :
    Calls Tryd.prog 8 #[.slice a0 len0 cap0, .agg #[.int .i64 a1_0, .int .i64 a1_1], .int .i64 a2] w fun e w' => e = .returned (.bool true) ∧ Below w.heap.size w w' := by
  have hbxE := PtC.fresh w 54 a1_0 a1_1
  have BW : Below w.heap.size w (w.alloc (.cells #[.int .i64 a1_0, .int .i64 a1_1] 54)) := (Below.refl _ w).alloc (Nat.le_refl _) _
  have hz0 := Lst.of_row w0
  generalize z0.take len0 = zs0 at hz0
  clear w0
  replace hz0 := hz0.mono BW
  have hEr : ErT w := ert_of hL
  by_cases hlong0 : (1048576 : Int) < (len0 : Int)
  · go_enter Tryd.func8, Tryd.ntmps8
    go_wp2
    go_ret
    exact ⟨rfl, belowCall BW (Below.refl _ _)⟩
  have hdec0 : decide ((1048576 : Int) < (len0 : Int)) = false := by simpa using hlong0
  have hn0 : len0 ≤ 1048576 := by omega
  clear hlong0
  have hcc : ((acC zs0 a1_0 a1_1 a2) != (acC zs0 a1_0 a1_1 a2)) = false := by simp
  go_enter Tryd.func8, Tryd.ntmps8
  go_wp2_with fail
  generalize w.alloc (.cells #[.int .i64 a1_0, .int .i64 a1_1] 54) = v at hbxE BW hz0 ⊢
  obtain ⟨-, kE0, kE1⟩ := hbxE.parts
  rw [Nat.zero_add] at kE1
  have hEl := Nat.lt_of_lt_of_le hbxE.1 (Nat.le_refl v.heap.size)
  go_region_held3 (fun W' => W'.cell? ⟨w.heap.size, 0, none⟩ = some (.int .i64 a1_0) ∧ W'.cell? ⟨w.heap.size, 1, none⟩ = some (.int .i64 a1_1)) (refine ⟨?_, ?_⟩ <;> first | assumption | exact ((show Below v.heap.size v _ by (repeat (first | assumption | exact Below.refl _ _ | refine belowDN ?_ _ | refine Below.drew ?_ | refine Below.setCell ?_ (by first | omega | (simp <;> omega)) _ | refine Below.alloc ?_ (by first | omega | (simp <;> omega)) _ | refine belowCall ?_ (by assumption)))).cell (p := ⟨w.heap.size, 0, none⟩) hEl).trans kE0 | exact ((show Below v.heap.size v _ by (repeat (first | assumption | exact Below.refl _ _ | refine belowDN ?_ _ | refine Below.drew ?_ | refine Below.setCell ?_ (by first | omega | (simp <;> omega)) _ | refine Below.alloc ?_ (by first | omega | (simp <;> omega)) _ | refine belowCall ?_ (by assumption)))).cell (p := ⟨w.heap.size, 1, none⟩) hEl).trans kE1) (first | (go_at_call 30; refine (toIntO_any _ _ _ zs0 _ ((hz0.mono (Below.refl _ v)).mono (by (repeat (first | assumption | exact Below.refl _ _ | refine belowDN ?_ _ | refine Below.drew ?_ | refine Below.setCell ?_ (by first | omega | (simp <;> omega)) _ | refine Below.alloc ?_ (by first | omega | (simp <;> omega)) _ | refine belowCall ?_ (by assumption))))) hn0).mono ?_; rintro e u1 ⟨g1, rfl, hi1, b1⟩; replace b1 : Below v.heap.size v u1 := belowCall (by (repeat (first | assumption | exact Below.refl _ _ | refine belowDN ?_ _ | refine Below.drew ?_ | refine Below.setCell ?_ (by first | omega | (simp <;> omega)) _ | refine Below.alloc ?_ (by first | omega | (simp <;> omega)) _ | refine belowCall ?_ (by assumption)))) b1; have y1 := (hi1.lt g1 rfl).1; have yl1 := (hi1.lt g1 rfl).2; have hx1 : Lst u1 (some ⟨g1, 0, none⟩) len0 zs0 := Lst.of_own hi1; have zz1 := b1.size; have B1 := belowCall (Below.refl _ v) b1) | (go_at_call 31; refine (toEp_any _ _ _).mono ?_; rintro x u2 ⟨rfl, b2⟩; have dA : Below v.heap.size v u2 := belowCall b1 b2; have zz2 := b2.size; have B2 := belowCall B1 b2; replace hx1 := hx1.mono b2) | (go_at_call 29; refine (sAsg_any _ _ _ zs0 a1_0 a1_1 a2 u2 hx1 hn0).mono ?_; rintro e u3 ⟨⟨aw, caw, rfl, hLw0⟩, b3⟩; have dC : Below v.heap.size v u3 := belowCall dA b3; clear hx1; have zz3 := b3.size; have B3 := belowCall B2 b3; have baw := b3.size; have hLw := (hLw0 1).toL.toB; clear hLw0) | fail)
  clear kE0 kE1 hEl
  go_wp2_with fail
  refine (toIntO_any _ _ _ zs0 u3 (hz0.mono B3) hn0).mono ?_
  rintro e u4 ⟨g4, rfl, hi4, b4⟩
  have y4 := (hi4.lt g4 rfl).1
  have yl4 := (hi4.lt g4 rfl).2
  have hx4 : Lst u4 (some ⟨g4, 0, none⟩) len0 zs0 := Lst.of_own hi4
  have zz4 := b4.size
  have B4 := belowCall B3 b4
  replace hLw := hLw.below b4 (by omega)
  obtain ⟨-, kE0, kE1⟩ := (hbxE.mono B4).parts
  rw [Nat.zero_add] at kE1
  go_wp2_with fail
  refine (toEp_any _ _ _).mono ?_
  rintro x u5 ⟨rfl, b5⟩
  clear kE0 kE1
  have zz5 := b5.size
  have B5 := belowCall B4 b5
  replace hi4 := ownKeepF hi4 b5
  replace hx4 := hx4.mono b5
  replace hLw := hLw.below b5 (by omega)
  go_wp2_with fail
  refine (iAsg_any _ _ _ zs0 a1_0 a1_1 a2 u5 hx4 hn0 (hEr.mono (belowCall BW B5))).mono ?_
  rintro e u6 ⟨⟨ag, cag, rfl, hMg0⟩, b6⟩
  have zz6 := b6.size
  have B6 := belowCall B5 b6
  replace hi4 := ownKeepF hi4 b6
  replace hx4 := hx4.mono b6
  replace hLw := hLw.below b6 (by omega)
  have bag := b6.size
  have hMg := hMg0 1
  clear hMg0
  go_wp2_with fail
  refine (eqMiS_self _ _ _ _ _ (acA zs0 a1_0 a1_1 a2) u6 hMg.toL hLw.toL (acA_len (n := 1048576) a1_0 a1_1 a2 (by have := hz0.1; omega))).mono ?_
  rintro e u7 ⟨rfl, b7⟩
  have zz7 := b7.size
  have B7 := belowCall B6 b7
  replace hi4 := ownKeepF hi4 b7
  replace hx4 := hx4.mono b7
  replace hLw := hLw.below b7 (by omega)
  replace hMg := hMg.below b7
  go_wp2_with fail
  refine (toIntO_any _ _ _ zs0 u7 (hz0.mono B7) hn0).mono ?_
  rintro e u8 ⟨g8, rfl, hi8, b8⟩
  have y8 := (hi8.lt g8 rfl).1
  have yl8 := (hi8.lt g8 rfl).2
  have hx8 : Lst u8 (some ⟨g8, 0, none⟩) len0 zs0 := Lst.of_own hi8
  have zz8 := b8.size
  have B8 := belowCall B7 b8
  replace hi4 := ownKeepF hi4 b8
  replace hx4 := hx4.mono b8
  replace hLw := hLw.below b8 (by omega)
  replace hMg := hMg.below b8
  go_wp2_with fail
  refine (eqI_self _ _ _ _ _ zs0 u8 hx4 hx8 hn0).mono ?_
  rintro e u9 ⟨rfl, b9⟩
  clear hx8
  have zz9 := b9.size
  have B9 := belowCall B8 b9
  replace hi4 := ownKeepF hi4 b9
  replace hx4 := hx4.mono b9
  replace hLw := hLw.below b9 (by omega)
  replace hMg := hMg.below b9
  clear hx4
  have hm4 : ∀ m, SMG u9 g4 len0 (mfI m 0) := fun m => SMG.of_ints (m := m) hi4
  clear hi4
  go_wp2_with fail
  refine (markI_f g4 _ (1) _ u9 (hm4 _) hn0 (by omega) (by omega)).mono ?_
  rintro e u10 ⟨rfl, -, b10⟩
  clear hm4
  have zz10 := b10.size
  have B10 : Below v.heap.size v u10 := B9.grown b10 B9.size (fun k e => by cases e; omega)
  replace hLw := hLw.grown b10 (by omega)
  replace hMg := hMg.far b10 (by omega)
  have hk0 : ¬ ((1 + len0 : Nat) : Int) < 0 := by omega
  go_wp2_with fail
  refine (eqMiS_self _ _ _ _ _ (acA zs0 a1_0 a1_1 a2) u10 hMg.toL hLw.toL (acA_len (n := 1048576) a1_0 a1_1 a2 (by have := hz0.1; omega))).mono ?_
  rintro e u11 ⟨rfl, b11⟩
  have zz11 := b11.size
  have B11 := belowCall B10 b11
  replace hLw := hLw.below b11 (by omega)
  replace hMg := hMg.below b11
  go_wp2_with fail
  refine (markMiS_o ag _ 1 _ _ _ u11 u11 (Below.refl _ _) (by omega) hMg (acA_len (n := 1048576) a1_0 a1_1 a2 (by have := hz0.1; omega)) (by omega) (by omega)).mono ?_
  rintro e u12 ⟨rfl, hMm, b12⟩
  have zz12 := b12.size
  have B12 : Below v.heap.size v u12 := B11.trans (b12.mono (by omega))
  replace hLw := hLw.below b12 (by omega)
  clear hMg
  have hMg := hMm
  clear hMm
  have hq0 : ¬ ((1 + 2 * (acA zs0 a1_0 a1_1 a2).length : Nat) : Int) < 0 := by omega
  go_wp2_with fail
  refine (heldMiS_o ag _ 1 _ _ _ u12 hMg (acA_len (n := 1048576) a1_0 a1_1 a2 (by have := hz0.1; omega)) (by omega) (by omega)).mono ?_
  rintro e u13 ⟨rfl, b13⟩
  have zz13 := b13.size
  have B13 := belowCall B12 b13
  replace hLw := hLw.below b13 (by omega)
  replace hMg := hMg.below b13
  obtain ⟨-, kE0, kE1⟩ := (hbxE.mono B13).parts
  rw [Nat.zero_add] at kE1
  have hEl := Nat.lt_of_lt_of_le hbxE.1 (B13).size
  go_wp2_with fail
  go_region_held3 (fun W' => W'.cell? ⟨w.heap.size, 0, none⟩ = some (.int .i64 a1_0) ∧ W'.cell? ⟨w.heap.size, 1, none⟩ = some (.int .i64 a1_1)) (refine ⟨?_, ?_⟩ <;> first | assumption | exact ((show Below u13.heap.size u13 _ by (repeat (first | assumption | exact Below.refl _ _ | refine belowDN ?_ _ | refine Below.drew ?_ | refine Below.setCell ?_ (by first | omega | (simp <;> omega)) _ | refine Below.alloc ?_ (by first | omega | (simp <;> omega)) _ | refine belowCall ?_ (by assumption)))).cell (p := ⟨w.heap.size, 0, none⟩) hEl).trans kE0 | exact ((show Below u13.heap.size u13 _ by (repeat (first | assumption | exact Below.refl _ _ | refine belowDN ?_ _ | refine Below.drew ?_ | refine Below.setCell ?_ (by first | omega | (simp <;> omega)) _ | refine Below.alloc ?_ (by first | omega | (simp <;> omega)) _ | refine belowCall ?_ (by assumption)))).cell (p := ⟨w.heap.size, 1, none⟩) hEl).trans kE1) (first | (go_at_call 30; refine (toIntO_any _ _ _ zs0 _ ((hz0.mono (B13)).mono (by (repeat (first | assumption | exact Below.refl _ _ | refine belowDN ?_ _ | refine Below.drew ?_ | refine Below.setCell ?_ (by first | omega | (simp <;> omega)) _ | refine Below.alloc ?_ (by first | omega | (simp <;> omega)) _ | refine belowCall ?_ (by assumption))))) hn0).mono ?_; rintro e u14 ⟨g14, rfl, hi14, b14⟩; replace b14 : Below u13.heap.size u13 u14 := belowCall (by (repeat (first | assumption | exact Below.refl _ _ | refine belowDN ?_ _ | refine Below.drew ?_ | refine Below.setCell ?_ (by first | omega | (simp <;> omega)) _ | refine Below.alloc ?_ (by first | omega | (simp <;> omega)) _ | refine belowCall ?_ (by assumption)))) b14; have y14 := (hi14.lt g14 rfl).1; have yl14 := (hi14.lt g14 rfl).2; have hx14 : Lst u14 (some ⟨g14, 0, none⟩) len0 zs0 := Lst.of_own hi14; have zz14 := b14.size; have B14 := belowCall B13 b14; replace hLw := hLw.below b14 (by omega); replace hMg := hMg.below b14) | (go_at_call 31; refine (toEp_any _ _ _).mono ?_; rintro x u15 ⟨rfl, b15⟩; have dA : Below u13.heap.size u13 u15 := belowCall b14 b15; have zz15 := b15.size; have B15 := belowCall B14 b15; replace hx14 := hx14.mono b15; replace hLw := hLw.below b15 (by omega); replace hMg := hMg.below b15) | (go_at_call 16; refine (iAsg_any _ _ _ zs0 a1_0 a1_1 a2 u15 hx14 hn0 (hEr.mono (belowCall BW B15))).mono ?_; rintro e u16 ⟨⟨ah, cah, rfl, hMh0⟩, b16⟩; have dC : Below u13.heap.size u13 u16 := belowCall dA b16; clear hx14; have zz16 := b16.size; have B16 := belowCall B15 b16; replace hLw := hLw.below b16 (by omega); replace hMg := hMg.below b16; have bah := b16.size; have hMh := hMh0 1; clear hMh0) | fail)
  clear kE0 kE1 hEl
  go_wp2_with fail
  refine (eqMiS_self _ _ _ _ _ (acA zs0 a1_0 a1_1 a2) u16 hMh.toL hLw.toL (acA_len (n := 1048576) a1_0 a1_1 a2 (by have := hz0.1; omega))).mono ?_
  rintro e u17 ⟨rfl, b17⟩
  have zz17 := b17.size
  have B17 := belowCall B16 b17
  replace hLw := hLw.below b17 (by omega)
  replace hMg := hMg.below b17
  replace hMh := hMh.below b17
  go_wp2_with fail
  refine (heldMiS_o ag _ 1 _ _ _ u17 hMg (acA_len (n := 1048576) a1_0 a1_1 a2 (by have := hz0.1; omega)) (by omega) (by omega)).mono ?_
  rintro e u18 ⟨rfl, b18⟩
  have zz18 := b18.size
  have B18 := belowCall B17 b18
  replace hLw := hLw.below b18 (by omega)
  replace hMg := hMg.below b18
  replace hMh := hMh.below b18
  go_wp2_with fail
  go_ret
  exact ⟨rfl, belowCall BW (B18)⟩

set_option maxRecDepth 100000 in
theorem contract (H : Type) (enc : TypeId × Value → H) (W : World) (base : Nat) (args : Array Value) (ds gs : List (DataW H)) (before : List MemPlace)
    (hval : ∀ (j : Nat) t v, Tryd.f8.params[j]? = some t → args[j]? = some v → Value.okWide Tryd.prog W .any base t v)
    (hW : DataW.Whole enc Tryd.prog Tryd.f8.params.toList Rows.fnExactAssignCyclesSpec.vars false W args.toList ds gs before) (hL : laidMetH Tryd.prog Rows.fnExactAssignCyclesRow.laid W) (hSh : W.ShapedOpen Tryd.prog) :
    Calls Tryd.prog 8 args W fun e W' => ∃ v, e = .returned v ∧ Rows.fnExactAssignCyclesSpec.post enc Tryd.prog Tryd.f8 false true false false W args v W' := by
  have hW' := hW
  obtain ⟨p, q, hA0, hV, rfl, hfz, hnd⟩ := hW
  have hA : DataW.TrodAll enc Tryd.prog W 0 (fun _ => true) true Tryd.f8.params.toList args.toList ds p := hA0
  rw [Tryd.params8] at hA hval
  obtain ⟨v0, vs0, d0, ds0, p0, q0, hargs, rfl, rfl, h0, r0⟩ := trodAll_cons hA
  obtain ⟨v1, vs1, d1, ds1, p1, q1, rfl, rfl, rfl, h1, r1⟩ := trodAll_cons r0
  obtain ⟨v2, vs2, d2, ds2, p2, q2, rfl, rfl, rfl, h2, r2⟩ := trodAll_cons r1
  obtain ⟨rfl, rfl, rfl⟩ := trodAll_nil r2
  obtain rfl : args = #[v0, v1, v2] := by cases args; simp_all
  obtain ⟨rfl, rfl⟩ := trodVars_none hV
  have k0 := h0
  have lt0 : ∀ x ∈ p0, x.block < W.heap.size := by obtain ⟨m, hm⟩ := k0; exact DataW.trod_lt m _ _ _ hm
  obtain ⟨a0, len0, cap0, rfl⟩ := okWide_slice Tryd.underlying35 (hval 0 35 v0 rfl rfl)
  obtain ⟨z0, w0⟩ : ∃ zs, IsRow .i64 W a0 len0 cap0 zs := by
    obtain ⟨fuel, hf⟩ := h0
    rcases open_ints Tryd.underlying35 Tryd.underlying2 (by kernel_rfl) hf with ⟨hcs, _⟩ | ⟨x, l, c, zs, hcs, _, hl, hm, hz, _, hcell, hwz⟩
    · simp [Value.cells] at hcs
      obtain ⟨rfl, rfl, rfl⟩ := hcs
      exact ⟨[], .inl ⟨rfl, rfl, rfl, rfl⟩⟩
    · simp [Value.cells] at hcs
      obtain ⟨rfl, rfl, rfl⟩ := hcs
      exact ⟨zs, .inr ⟨_, rfl, hl, hm, by simpa using hz, hcell, hwz⟩⟩
  have k1 := h1
  have lt1 : ∀ x ∈ p1, x.block < W.heap.size := by obtain ⟨m, hm⟩ := k1; exact DataW.trod_lt m _ _ _ hm
  obtain ⟨c1_0, c1_1, y1_0, y1_1, mf1, rfl, hd1, hp1, g1_0, g1_1⟩ := Go.Joins.open_agg2 Tryd.underlying54 (by kernel_rfl) (show Tryd.prog.cellsOf 54 = 2 by kernel_rfl) (hval 1 54 v1 rfl rfl) h1
  obtain ⟨a1_0, e1_0, _, w1_0⟩ := DataW.trod_int Tryd.underlying2 g1_0
  simp only [List.cons.injEq, and_true] at e1_0
  subst e1_0
  obtain ⟨a1_1, e1_1, _, w1_1⟩ := DataW.trod_int Tryd.underlying2 g1_1
  simp only [List.cons.injEq, and_true] at e1_1
  subst e1_1
  obtain ⟨a2, rfl, rfl, rfl, w2⟩ := open_int Tryd.underlying2 (hval 2 2 v2 rfl rfl) h2
  clear hA0
  refine (walk a0 len0 cap0 z0 a1_0 a1_1 a2 W w0 w1_0 w1_1 w2 hL hSh).mono fun e W' ⟨he, bel⟩ => ?_
  subst he
  exact ⟨_, rfl, _, _, _, [], _, [], hW', trodAll_mk1 (shut_bool Tryd.underlying4 _), (trodAll_cons_mk (Below.trod laidOut (by kernel_rfl) (of_decide_eq_true (by kernel_rfl)) k0 bel lt0) (trodAll_cons_mk (Below.trod laidOut (by kernel_rfl) (of_decide_eq_true (by kernel_rfl)) k1 bel lt1) (trodAll_cons_mk (shut_int Tryd.underlying2 w2) trodAll_mk0))), rfl, bel.frame _, fun h => by cases h⟩
noncomputable def low : Nat := (World.holding Tryd.prog default ⟨#[], #[], []⟩).heap.size
/-- a world for the witness: the settled one, the listed variables holding what their initialisers lay -/
noncomputable def laidCells : Nat → Obj → Obj
  | 0, .cells _ t frozen => .cells #[.iface 127 (.agg #[.pointer (some ⟨1, 66, none⟩)])] t frozen
  | _, o => o
noncomputable def laidWorld (os : Os) : World :=
  { World.holding Tryd.prog os ⟨#[], #[], []⟩ with heap := (World.holding Tryd.prog os ⟨#[], #[], []⟩).heap.mapIdx laidCells }
set_option maxRecDepth 100000 in
theorem laid_met (os : Os) : laidMetH Tryd.prog Rows.fnExactAssignCyclesRow.laid ((laidWorld os).forCall (fun _ _ => 0) ⟨#[], #[.slice none 0 0, .agg #[.int .i64 0, .int .i64 0], .int .i64 0], []⟩).memory :=
  laidMetH_of_parts (laidMet_nil _ _) (by kernel_rfl)
set_option maxRecDepth 100000 in
theorem reads (os : Os) {H : Type} (enc : TypeId × Value → H) : ∃ places, DataW.whole enc Tryd.prog ((laidWorld os).forCall (fun _ _ => 0) ⟨#[], #[.slice none 0 0, .agg #[.int .i64 0, .int .i64 0], .int .i64 0], []⟩).memory Tryd.f8.params.toList Rows.fnExactAssignCyclesSpec.vars false (#[.slice none 0 0, .agg #[.int .i64 0, .int .i64 0], .int .i64 0] : Array Value).toList 8 = some ([.nil, .agg [.lit (.int .i64 0), .lit (.int .i64 0)], .lit (.int .i64 0)], [], places) :=
  ⟨((DataW.whole enc Tryd.prog ((laidWorld os).forCall (fun _ _ => 0) ⟨#[], #[.slice none 0 0, .agg #[.int .i64 0, .int .i64 0], .int .i64 0], []⟩).memory Tryd.f8.params.toList Rows.fnExactAssignCyclesSpec.vars false (#[.slice none 0 0, .agg #[.int .i64 0, .int .i64 0], .int .i64 0] : Array Value).toList 8).getD ([], [], [])).2.2, by kernel_rfl⟩
set_option maxRecDepth 100000 in
theorem lifted (os : Os) (started : os.Started) (H : Type) (enc : TypeId × Value → H) (F : Stop.Interp) :
    ReturnsInHanded {} Tryd.checked os 8 .any ((OpenSpec.ofChange Rows.fnExactAssignCyclesSpec).preRow enc Tryd.prog Tryd.f8 Rows.fnExactAssignCyclesRow.domain false Rows.fnExactAssignCyclesRow.laid) (((OpenSpec.ofChange Rows.fnExactAssignCyclesSpec).at F).post enc Tryd.prog Tryd.f8 false true false false) := by
  obtain ⟨places, hx⟩ := reads os enc
  refine returnsInHanded_of_row (C := Tryd.checked) (s := OpenSpec.ofChange Rows.fnExactAssignCyclesSpec) own started (by kernel_rfl) Tryd.func8
    (witness_row_at (enc := enc) (C := Tryd.checked) false (laidWorld os) #[.slice none 0 0, .agg #[.int .i64 0, .int .i64 0], .int .i64 0] rfl (by kernel_rfl) (by kernel_rfl) (by kernel_rfl)
      (OpenSpec.preRow_of_cond 8 hx (by kernel_rfl) (fun k hk => by cases hk) (by kernel_rfl) (laid_met os))) ?_
  intro W base args ds gs before hval hW _ _ _ hL hSh _
  exact contract H enc W base args ds gs before hval hW hL hSh
theorem said : Rows.FnExactAssignCyclesSaid :=
  OpenClaim.holds_of_cond 8 Tryd.f8 rfl rfl rfl rfl rfl rfl rfl ⟨rfl, rfl, rfl, rfl, rfl⟩ rfl rfl rfl rfl rfl (by kernel_rfl) Tryd.func8 (by kernel_rfl)
    (of_decide_eq_true (by kernel_rfl)) (by unfold Func.isWrapper; first | (rw [if_pos (by decide +kernel)]; kernel_rfl) | (rw [if_neg (by decide +kernel)]; exact ⟨rfl, rfl⟩))
    (fun os started H enc _ F => by rw [OpenClaim.pre_eq_preRow]; exact lifted os started H enc F)
theorem plain (f : FuncId) (fn : Func) (hf : Tryd.pinned.checked.prog.funcNamed "loop.example/g01026/laws.FnExactAssignCycles" = some f) (hfn : Tryd.pinned.checked.prog.funcs[f]? = some fn) :
    true = Tryd.pinned.checked.prog.looks [] ∧ ∀ (j : Nat) t, fn.params[j]? = some t → Tryd.pinned.checked.prog.wantsStandIn t = false := by
  obtain rfl : f = 8 := Option.some.inj ((show Tryd.prog.funcNamed "loop.example/g01026/laws.FnExactAssignCycles" = some 8 by kernel_rfl).symm.trans hf) |>.symm
  obtain rfl : fn = Tryd.f8 := (Option.some.inj (Tryd.func8.symm.trans hfn)).symm
  refine ⟨by kernel_rfl, fun j t ht => ?_⟩
  rw [Tryd.params8] at ht
  have hm := Array.mem_of_getElem? ht
  simp at hm
  rcases hm with rfl | rfl | rfl
  · exact (show Tryd.prog.wantsStandIn 35 = false by kernel_rfl)
  · exact (show Tryd.prog.wantsStandIn 54 = false by kernel_rfl)
  · exact (show Tryd.prog.wantsStandIn 2 = false by kernel_rfl)
theorem proved : Rows.FnExactAssignCyclesCardSaid :=
  Claim7.holds_tied_plain_at .later [] _ _ _ _ said (fun _ h => by cases h) (by kernel_rfl) (fun _ h => by cases h) fnExactAssignCycles_row_tie rfl ⟨rfl, rfl⟩ (by kernel_rfl) rfl plain (by kernel_rfl)
#print axioms proved
end Go.Proofs.YtbjflgohahmjgaaDoor.fnExactAssignCycles
