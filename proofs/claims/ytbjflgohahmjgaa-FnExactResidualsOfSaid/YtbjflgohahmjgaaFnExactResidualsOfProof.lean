/- FnExactResidualsOf: for every slice of minima (that holds no more than the law's bound) and every ephemeris the program's ResidualsOf (a method value, mapped over the minima) answers as the model's, writes into no argument, and its answer owns its memory: it holds the law's marks through another call. -/
import Derived.Test.YtbjflgohahmjgaaB1
import Derived.Test.YtbjflgohahmjgaaPD
import Derived.Test.YtbjflgohahmjgaaPG
import Derived.Test.YtbjflgohahmjgaaGI
import Derived.Test.YtbjflgohahmjgaaH7R
import Derived.Test.YtbjflgohahmjgaaGR
import Derived.ChangeOld
import Derived.Lib.SmallJoins
namespace Go.Proofs.Ytbjflgohahmjgaa.fnExactResidualsOf
open Go.ChangeShapes Go.WideShapes Go.ChangeAt Go.RowKit
open Go.ChangeMaps (open_string shut_string)
set_option linter.unusedVariables false

theorem own : ownKnob Try.prog.godebug = none := by kernel_rfl
theorem laidOut : laidOutB Try.prog = true := by kernel_rfl
set_option maxHeartbeats 8000000 in

theorem walk (a0 : Option Addr) (len0 cap0 : Nat) (z0 : List Mi) (a1_0 : Int) (a1_1 : Int) (w : World) (w0 : IsMi w a0 len0 cap0 z0) (w1_0 : (Lit.int .i64 a1_0).wf = true) (w1_1 : (Lit.int .i64 a1_1).wf = true) :
    Calls Try.prog 5 #[.slice a0 len0 cap0, .agg #[.int .i64 a1_0, .int .i64 a1_1]] w fun e w' => e = .returned (.bool true) ∧ Below w.heap.size w w' := by
  have hbxE := PtC.fresh w 43 a1_0 a1_1
  have BW : Below w.heap.size w (w.alloc (.cells #[.int .i64 a1_0, .int .i64 a1_1] 43)) := (Below.refl _ w).alloc (Nat.le_refl _) _
  replace w0 := w0.mono BW
  have hl0 : (0 : Int) ≤ 1048576 := by omega
  have hu0 : (1048576 : Int) ≤ 1048576 := by omega
  by_cases hbig0 : (1048576 : Int) < totMi z0
  · have HZ0 := Lib.hid (szQ_no hbig0)
    go_enter Try.func5, Try.ntmps5
    go_wp2_with fail
    generalize w.alloc (.cells #[.int .i64 a1_0, .int .i64 a1_1] 43) = v at hbxE BW w0 ⊢
    refine (szMiS_any _ _ _ z0 1048576 _ (w0.mono (Below.refl _ v)) hl0 hu0).mono ?_
    rintro e s0 ⟨rfl, c0⟩
    rw [HZ0.out]
    have B0 : Below v.heap.size v s0 := c0
    go_wp2
    go_ret
    exact ⟨rfl, belowCall BW (B0)⟩
  have HZ0 := Lib.hid (szQ_yes hbig0)
  have hn0 : len0 ≤ 1048576 := by have h1 := totMi_nonneg z0; have h2 := w0.1.1; omega
  have hg0 : ¬ (1048576 : Int) - totMi z0 < 0 := by omega
  clear hbig0
  have hcc : ((rsC z0 a1_0 a1_1) != (rsC z0 a1_0 a1_1)) = false := by simp
  go_enter Try.func5, Try.ntmps5
  go_wp2_with fail
  generalize w.alloc (.cells #[.int .i64 a1_0, .int .i64 a1_1] 43) = v at hbxE BW w0 ⊢
  refine (szMiS_any _ _ _ z0 1048576 _ (w0.mono (Below.refl _ v)) hl0 hu0).mono ?_
  rintro e s0 ⟨rfl, c0⟩
  rw [HZ0.out]
  have B0 : Below v.heap.size v s0 := c0
  clear hl0 hu0
  have zzB := B0.size
  obtain ⟨-, kE0, kE1⟩ := (hbxE.mono B0).parts
  rw [Nat.zero_add] at kE1
  have hEl := Nat.lt_of_lt_of_le hbxE.1 (B0).size
  go_wp2_with fail
  go_region_held3 (fun W' => W'.cell? ⟨w.heap.size, 0, none⟩ = some (.int .i64 a1_0) ∧ W'.cell? ⟨w.heap.size, 1, none⟩ = some (.int .i64 a1_1)) (refine ⟨?_, ?_⟩ <;> first | assumption | exact ((show Below s0.heap.size s0 _ by (repeat (first | assumption | exact Below.refl _ _ | refine belowDN ?_ _ | refine Below.drew ?_ | refine Below.setCell ?_ (by first | omega | (simp <;> omega)) _ | refine Below.alloc ?_ (by first | omega | (simp <;> omega)) _ | refine belowCall ?_ (by assumption)))).cell (p := ⟨w.heap.size, 0, none⟩) hEl).trans kE0 | exact ((show Below s0.heap.size s0 _ by (repeat (first | assumption | exact Below.refl _ _ | refine belowDN ?_ _ | refine Below.drew ?_ | refine Below.setCell ?_ (by first | omega | (simp <;> omega)) _ | refine Below.alloc ?_ (by first | omega | (simp <;> omega)) _ | refine belowCall ?_ (by assumption)))).cell (p := ⟨w.heap.size, 1, none⟩) hEl).trans kE1) (first | (go_at_call 18; refine (toMiS_any _ _ _ z0 _ ((w0.1.mono B0).mono (by (repeat (first | assumption | exact Below.refl _ _ | refine belowDN ?_ _ | refine Below.drew ?_ | refine Below.setCell ?_ (by first | omega | (simp <;> omega)) _ | refine Below.alloc ?_ (by first | omega | (simp <;> omega)) _ | refine belowCall ?_ (by assumption))))) hn0).mono ?_; rintro e u1 ⟨g1, rfl, y1, hr1, b1⟩; replace b1 : Below s0.heap.size s0 u1 := belowCall (by (repeat (first | assumption | exact Below.refl _ _ | refine belowDN ?_ _ | refine Below.drew ?_ | refine Below.setCell ?_ (by first | omega | (simp <;> omega)) _ | refine Below.alloc ?_ (by first | omega | (simp <;> omega)) _ | refine belowCall ?_ (by assumption)))) b1; have yl1 := hr1.lt; have hx1 := MiL.of_row w0.1.1 hr1; have zz1 := b1.size; have B1 := belowCall B0 b1) | (go_at_call 22; refine (toEp_any _ _ _).mono ?_; rintro x u2 ⟨rfl, b2⟩; have dA : Below s0.heap.size s0 u2 := belowCall b1 b2; have zz2 := b2.size; have B2 := belowCall B1 b2; replace hx1 := hx1.mono b2) | (go_at_call 21; refine (sRes_any _ _ _ z0 a1_0 a1_1 u2 hx1 hn0).mono ?_; rintro e u3 ⟨⟨aw, caw, rfl, hLw0⟩, b3⟩; have dC : Below s0.heap.size s0 u3 := belowCall dA b3; clear hx1; have zz3 := b3.size; have B3 := belowCall B2 b3; have baw := b3.size; have hLw := (hLw0 1).toL.toB; clear hLw0) | fail)
  clear kE0 kE1 hEl
  go_wp2_with fail
  refine (toMiS_any _ _ _ z0 u3 (w0.1.mono B3) hn0).mono ?_
  rintro e u4 ⟨g4, rfl, y4, hr4, b4⟩
  have yl4 := hr4.lt
  have hx4 := MiL.of_row w0.1.1 hr4
  have zz4 := b4.size
  have B4 := belowCall B3 b4
  replace hLw := hLw.below b4 (by omega)
  obtain ⟨-, kE0, kE1⟩ := (hbxE.mono B4).parts
  rw [Nat.zero_add] at kE1
  go_wp2_with fail
  refine (toEp_any _ _ _).mono ?_
  rintro x u5 ⟨rfl, b5⟩
  clear kE0 kE1
  have zz5 := b5.size
  have B5 := belowCall B4 b5
  replace hr4 := rowB hr4 b5
  replace hx4 := hx4.mono b5
  replace hLw := hLw.below b5 (by omega)
  go_wp2_with fail
  refine (iRes_any _ _ _ z0 a1_0 a1_1 u5 hx4 hn0).mono ?_
  rintro e u6 ⟨⟨ag, cag, rfl, hMg0⟩, b6⟩
  have zz6 := b6.size
  have B6 := belowCall B5 b6
  replace hr4 := rowB hr4 b6
  replace hx4 := hx4.mono b6
  replace hLw := hLw.below b6 (by omega)
  have bag := b6.size
  have hMg := hMg0 1
  clear hMg0
  go_wp2_with fail
  refine (eqI_self _ _ _ _ _ (rsA z0 a1_0 a1_1) u6 hMg.toL hLw.toL (rsA_len (n := 1048576) a1_0 a1_1 (by have := w0.1.1; omega))).mono ?_
  rintro e u7 ⟨rfl, b7⟩
  have zz7 := b7.size
  have B7 := belowCall B6 b7
  replace hr4 := rowB hr4 b7
  replace hx4 := hx4.mono b7
  replace hLw := hLw.below b7 (by omega)
  replace hMg := hMg.below b7
  go_wp2_with fail
  refine (toMiS_any _ _ _ z0 u7 (w0.1.mono B7) hn0).mono ?_
  rintro e u8 ⟨g8, rfl, y8, hr8, b8⟩
  have yl8 := hr8.lt
  have hx8 := MiL.of_row w0.1.1 hr8
  have zz8 := b8.size
  have B8 := belowCall B7 b8
  replace hr4 := rowB hr4 b8
  replace hx4 := hx4.mono b8
  replace hLw := hLw.below b8 (by omega)
  replace hMg := hMg.below b8
  go_wp2_with fail
  refine (eqMiS_self _ _ _ _ _ z0 u8 hx4 hx8 hn0).mono ?_
  rintro e u9 ⟨rfl, b9⟩
  clear hx8
  have zz9 := b9.size
  have B9 := belowCall B8 b9
  replace hr4 := rowB hr4 b9
  replace hx4 := hx4.mono b9
  replace hLw := hLw.below b9 (by omega)
  replace hMg := hMg.below b9
  clear hx4
  have hm4 : ∀ m, SMG u9 g4 (len0 * 2) (mfMi m 0) := fun m => SMG.of_row hr4 (by intro j; simp [mfMi])
  clear hr4
  go_wp2_with fail
  refine (markMiS_f g4 _ (1) _ u9 (hm4 _) hn0 (by omega) (by omega)).mono ?_
  rintro e u10 ⟨rfl, -, b10⟩
  clear hm4
  have zz10 := b10.size
  have B10 : Below v.heap.size v u10 := B9.grown b10 B9.size (fun k e => by cases e; omega)
  replace hLw := hLw.grown b10 (by omega)
  replace hMg := hMg.far b10 (by omega)
  have hk0 : ¬ ((1 + 2 * len0 : Nat) : Int) < 0 := by omega
  go_wp2_with fail
  refine (eqI_self _ _ _ _ _ (rsA z0 a1_0 a1_1) u10 hMg.toL hLw.toL (rsA_len (n := 1048576) a1_0 a1_1 (by have := w0.1.1; omega))).mono ?_
  rintro e u11 ⟨rfl, b11⟩
  have zz11 := b11.size
  have B11 := belowCall B10 b11
  replace hLw := hLw.below b11 (by omega)
  replace hMg := hMg.below b11
  go_wp2_with fail
  refine (markI_o ag _ 1 _ _ _ u11 u11 (Below.refl _ _) (by omega) hMg (rsA_len (n := 1048576) a1_0 a1_1 (by have := w0.1.1; omega)) (by omega) (by omega)).mono ?_
  rintro e u12 ⟨rfl, hMm, b12⟩
  have zz12 := b12.size
  have B12 : Below v.heap.size v u12 := B11.trans (b12.mono (by omega))
  replace hLw := hLw.below b12 (by omega)
  clear hMg
  have hMg := hMm
  clear hMm
  have hq0 : ¬ ((1 + (rsA z0 a1_0 a1_1).length : Nat) : Int) < 0 := by omega
  go_wp2_with fail
  refine (heldI_o ag _ 1 _ _ _ u12 hMg (rsA_len (n := 1048576) a1_0 a1_1 (by have := w0.1.1; omega)) (by omega) (by omega)).mono ?_
  rintro e u13 ⟨rfl, b13⟩
  have zz13 := b13.size
  have B13 := belowCall B12 b13
  replace hLw := hLw.below b13 (by omega)
  replace hMg := hMg.below b13
  obtain ⟨-, kE0, kE1⟩ := (hbxE.mono B13).parts
  rw [Nat.zero_add] at kE1
  have hEl := Nat.lt_of_lt_of_le hbxE.1 (B13).size
  go_wp2_with fail
  go_region_held3 (fun W' => W'.cell? ⟨w.heap.size, 0, none⟩ = some (.int .i64 a1_0) ∧ W'.cell? ⟨w.heap.size, 1, none⟩ = some (.int .i64 a1_1)) (refine ⟨?_, ?_⟩ <;> first | assumption | exact ((show Below u13.heap.size u13 _ by (repeat (first | assumption | exact Below.refl _ _ | refine belowDN ?_ _ | refine Below.drew ?_ | refine Below.setCell ?_ (by first | omega | (simp <;> omega)) _ | refine Below.alloc ?_ (by first | omega | (simp <;> omega)) _ | refine belowCall ?_ (by assumption)))).cell (p := ⟨w.heap.size, 0, none⟩) hEl).trans kE0 | exact ((show Below u13.heap.size u13 _ by (repeat (first | assumption | exact Below.refl _ _ | refine belowDN ?_ _ | refine Below.drew ?_ | refine Below.setCell ?_ (by first | omega | (simp <;> omega)) _ | refine Below.alloc ?_ (by first | omega | (simp <;> omega)) _ | refine belowCall ?_ (by assumption)))).cell (p := ⟨w.heap.size, 1, none⟩) hEl).trans kE1) (first | (go_at_call 18; refine (toMiS_any _ _ _ z0 _ ((w0.1.mono B13).mono (by (repeat (first | assumption | exact Below.refl _ _ | refine belowDN ?_ _ | refine Below.drew ?_ | refine Below.setCell ?_ (by first | omega | (simp <;> omega)) _ | refine Below.alloc ?_ (by first | omega | (simp <;> omega)) _ | refine belowCall ?_ (by assumption))))) hn0).mono ?_; rintro e u14 ⟨g14, rfl, y14, hr14, b14⟩; replace b14 : Below u13.heap.size u13 u14 := belowCall (by (repeat (first | assumption | exact Below.refl _ _ | refine belowDN ?_ _ | refine Below.drew ?_ | refine Below.setCell ?_ (by first | omega | (simp <;> omega)) _ | refine Below.alloc ?_ (by first | omega | (simp <;> omega)) _ | refine belowCall ?_ (by assumption)))) b14; have yl14 := hr14.lt; have hx14 := MiL.of_row w0.1.1 hr14; have zz14 := b14.size; have B14 := belowCall B13 b14; replace hLw := hLw.below b14 (by omega); replace hMg := hMg.below b14) | (go_at_call 22; refine (toEp_any _ _ _).mono ?_; rintro x u15 ⟨rfl, b15⟩; have dA : Below u13.heap.size u13 u15 := belowCall b14 b15; have zz15 := b15.size; have B15 := belowCall B14 b15; replace hx14 := hx14.mono b15; replace hLw := hLw.below b15 (by omega); replace hMg := hMg.below b15) | (go_at_call 23; refine (iRes_any _ _ _ z0 a1_0 a1_1 u15 hx14 hn0).mono ?_; rintro e u16 ⟨⟨ah, cah, rfl, hMh0⟩, b16⟩; have dC : Below u13.heap.size u13 u16 := belowCall dA b16; clear hx14; have zz16 := b16.size; have B16 := belowCall B15 b16; replace hLw := hLw.below b16 (by omega); replace hMg := hMg.below b16; have bah := b16.size; have hMh := hMh0 1; clear hMh0) | fail)
  clear kE0 kE1 hEl
  go_wp2_with fail
  refine (eqI_self _ _ _ _ _ (rsA z0 a1_0 a1_1) u16 hMh.toL hLw.toL (rsA_len (n := 1048576) a1_0 a1_1 (by have := w0.1.1; omega))).mono ?_
  rintro e u17 ⟨rfl, b17⟩
  have zz17 := b17.size
  have B17 := belowCall B16 b17
  replace hLw := hLw.below b17 (by omega)
  replace hMg := hMg.below b17
  replace hMh := hMh.below b17
  go_wp2_with fail
  refine (heldI_o ag _ 1 _ _ _ u17 hMg (rsA_len (n := 1048576) a1_0 a1_1 (by have := w0.1.1; omega)) (by omega) (by omega)).mono ?_
  rintro e u18 ⟨rfl, b18⟩
  have zz18 := b18.size
  have B18 := belowCall B17 b18
  replace hLw := hLw.below b18 (by omega)
  replace hMg := hMg.below b18
  replace hMh := hMh.below b18
  go_wp2_with fail
  go_ret
  exact ⟨rfl, belowCall BW (B18)⟩

set_option maxRecDepth 100000 in
theorem lifted (os : Os) (started : os.Started) (H : Type) (enc : TypeId × Value → H) :
    ReturnsInHanded {} Try.checked os 5 .any (Rows.fnExactResidualsOfSpec.pre6 enc Try.prog Try.f5 Rows.fnExactResidualsOfRow.domain false) (Rows.fnExactResidualsOfSpec.post enc Try.prog Try.f5 false true false false) := by
  refine returnsInHanded_of_change (C := Try.checked) own started (by kernel_rfl) Try.func5
    (ChangeSpec.witness6 (enc := enc) (C := Try.checked) false ⟨#[], #[.slice none 0 0, .agg #[.int .i64 0, .int .i64 0]], []⟩ 8 (by kernel_rfl) (by kernel_rfl) (by kernel_rfl) (by kernel_rfl)) ?_
  intro W base args ds gs before hval0 hW hcnd _
  have hval : ∀ (j : Nat) t v, Try.f5.params[j]? = some t → args[j]? = some v → Value.okWide Try.prog W .any base t v := hval0
  have hW' := hW
  obtain ⟨p, q, hA0, hV, rfl, hfz, hnd⟩ := hW
  have hA : DataW.TrodAll enc Try.prog W 0 (fun _ => true) true Try.f5.params.toList args.toList ds p := hA0
  rw [Try.params5] at hA hval
  obtain ⟨v0, vs0, d0, ds0, p0, q0, hargs, rfl, rfl, h0, r0⟩ := trodAll_cons hA
  obtain ⟨v1, vs1, d1, ds1, p1, q1, rfl, rfl, rfl, h1, r1⟩ := trodAll_cons r0
  obtain ⟨rfl, rfl, rfl⟩ := trodAll_nil r1
  obtain rfl : args = #[v0, v1] := by cases args; simp_all
  obtain ⟨rfl, rfl⟩ := trodVars_none hV
  have k0 := h0
  have lt0 : ∀ x ∈ p0, x.block < W.heap.size := by obtain ⟨m, hm⟩ := k0; exact DataW.trod_lt m _ _ _ hm
  obtain ⟨a0, len0, cap0, rfl⟩ := okWide_slice Try.underlying35 (hval 0 35 v0 rfl rfl)
  obtain ⟨z0, w0⟩ : ∃ zs, IsMi W a0 len0 cap0 zs := by
    obtain ⟨fuel, hf⟩ := h0
    exact mis_of Try.underlying35 Try.underlying53 (by kernel_rfl) (show Try.prog.cellsOf 53 = 2 by kernel_rfl) Try.underlying2 Try.underlying2 (by simpa [Value.cells] using hf)
  have k1 := h1
  have lt1 : ∀ x ∈ p1, x.block < W.heap.size := by obtain ⟨m, hm⟩ := k1; exact DataW.trod_lt m _ _ _ hm
  obtain ⟨c1_0, c1_1, y1_0, y1_1, mf1, rfl, hd1, hp1, g1_0, g1_1⟩ := Go.Joins.open_agg2 Try.underlying43 (by kernel_rfl) (show Try.prog.cellsOf 43 = 2 by kernel_rfl) (hval 1 43 v1 rfl rfl) h1
  obtain ⟨a1_0, e1_0, _, w1_0⟩ := DataW.trod_int Try.underlying2 g1_0
  simp only [List.cons.injEq, and_true] at e1_0
  subst e1_0
  obtain ⟨a1_1, e1_1, _, w1_1⟩ := DataW.trod_int Try.underlying2 g1_1
  simp only [List.cons.injEq, and_true] at e1_1
  subst e1_1
  clear hA0 hval0
  refine (walk a0 len0 cap0 z0 a1_0 a1_1 W w0 w1_0 w1_1).mono fun e W' ⟨he, bel⟩ => ?_
  subst he
  exact ⟨_, rfl, _, _, _, [], _, [], hW', trodAll_mk1 (shut_bool Try.underlying4 _), (trodAll_cons_mk (Below.trod laidOut (by kernel_rfl) (of_decide_eq_true (by kernel_rfl)) k0 bel lt0) (trodAll_cons_mk (Below.trod laidOut (by kernel_rfl) (of_decide_eq_true (by kernel_rfl)) k1 bel lt1) trodAll_mk0)), rfl, bel.frame _, fun h => by cases h⟩

theorem over : Rows.fnExactResidualsOfRow.holds Try.pinned (OpenSpec.ofChange Rows.fnExactResidualsOfSpec) :=
  OpenClaim.holds_of_wide 5 Try.f5 rfl rfl rfl rfl rfl rfl rfl ⟨rfl, rfl, rfl, rfl, rfl⟩ rfl rfl rfl rfl rfl (by kernel_rfl) Try.func5 (by kernel_rfl)
    (of_decide_eq_true (by kernel_rfl)) (by unfold Func.isWrapper; first | (rw [if_pos (by decide +kernel)]; kernel_rfl) | (rw [if_neg (by decide +kernel)]; exact ⟨rfl, rfl⟩))
    (fun os started H enc _ => lifted os started H enc)

theorem proved : Rows.FnExactResidualsOfSaid := over
#print axioms proved
end Go.Proofs.Ytbjflgohahmjgaa.fnExactResidualsOf
