/- FnExactWorstMinimum: for every slice of minima (that holds no more than the law's bound) and every ephemeris the program's WorstMinimum answers as the model's, and writes into no argument. -/
import Derived.Test.YtbjflgohahmjgaaB1
import Derived.Test.YtbjflgohahmjgaaPK
import Derived.ChangeOld
import Derived.Lib.SmallJoins
namespace Go.Proofs.Ytbjflgohahmjgaa.fnExactWorstMinimum
open Go.ChangeShapes Go.WideShapes Go.ChangeAt Go.RowKit
open Go.ChangeMaps (open_string shut_string)
set_option linter.unusedVariables false

theorem own : ownKnob Try.prog.godebug = none := by kernel_rfl
theorem laidOut : laidOutB Try.prog = true := by kernel_rfl
set_option maxHeartbeats 8000000 in

theorem walk (a0 : Option Addr) (len0 cap0 : Nat) (z0 : List Mi) (a1_0 : Int) (a1_1 : Int) (w : World) (w0 : IsMi w a0 len0 cap0 z0) (w1_0 : (Lit.int .i64 a1_0).wf = true) (w1_1 : (Lit.int .i64 a1_1).wf = true) :
    Calls Try.prog 7 #[.slice a0 len0 cap0, .agg #[.int .i64 a1_0, .int .i64 a1_1]] w fun e w' => e = .returned (.bool true) ∧ Below w.heap.size w w' := by
  have hbxE := PtC.fresh w 43 a1_0 a1_1
  have BW : Below w.heap.size w (w.alloc (.cells #[.int .i64 a1_0, .int .i64 a1_1] 43)) := (Below.refl _ w).alloc (Nat.le_refl _) _
  replace w0 := w0.mono BW
  have hss : ((woA z0 a1_0 a1_1) != (woA z0 a1_0 a1_1)) = false := by simp
  have hl0 : (0 : Int) ≤ 1048576 := by omega
  have hu0 : (1048576 : Int) ≤ 1048576 := by omega
  by_cases hbig0 : (1048576 : Int) < totMi z0
  · have HZ0 := Lib.hid (szQ_no hbig0)
    go_enter Try.func7, Try.ntmps7
    go_wp2_with fail
    generalize w.alloc (.cells #[.int .i64 a1_0, .int .i64 a1_1] 43) = v at hbxE BW w0 ⊢
    refine (szMiS_any _ _ _ z0 1048576 _ (w0.mono (Below.refl _ v)) hl0 hu0).mono ?_
    rintro e s0 ⟨rfl, c0⟩
    rw [HZ0.out]
    have B0 : Below v.heap.size v s0 := c0
    go_wp2
    go_ret
    exact ⟨rfl, belowCall BW (B0)⟩
  have HZ0 := Lib.hid (szQ_yes hbig0)
  have hn0 : len0 ≤ 1048576 := by have h1 := totMi_nonneg z0; have h2 := w0.1.1; omega
  have hg0 : ¬ (1048576 : Int) - totMi z0 < 0 := by omega
  clear hbig0
  have hcc : ((woC z0 a1_0 a1_1) != (woC z0 a1_0 a1_1)) = false := by simp
  go_enter Try.func7, Try.ntmps7
  go_wp2_with fail
  generalize w.alloc (.cells #[.int .i64 a1_0, .int .i64 a1_1] 43) = v at hbxE BW w0 ⊢
  refine (szMiS_any _ _ _ z0 1048576 _ (w0.mono (Below.refl _ v)) hl0 hu0).mono ?_
  rintro e s0 ⟨rfl, c0⟩
  rw [HZ0.out]
  have B0 : Below v.heap.size v s0 := c0
  clear hl0 hu0
  have zzB := B0.size
  obtain ⟨-, kE0, kE1⟩ := (hbxE.mono B0).parts
  rw [Nat.zero_add] at kE1
  have hEl := Nat.lt_of_lt_of_le hbxE.1 (B0).size
  go_wp2_with fail
  go_region_held3 (fun W' => W'.cell? ⟨w.heap.size, 0, none⟩ = some (.int .i64 a1_0) ∧ W'.cell? ⟨w.heap.size, 1, none⟩ = some (.int .i64 a1_1)) (refine ⟨?_, ?_⟩ <;> first | assumption | exact ((show Below s0.heap.size s0 _ by (repeat (first | assumption | exact Below.refl _ _ | refine belowDN ?_ _ | refine Below.drew ?_ | refine Below.setCell ?_ (by first | omega | (simp <;> omega)) _ | refine Below.alloc ?_ (by first | omega | (simp <;> omega)) _ | refine belowCall ?_ (by assumption)))).cell (p := ⟨w.heap.size, 0, none⟩) hEl).trans kE0 | exact ((show Below s0.heap.size s0 _ by (repeat (first | assumption | exact Below.refl _ _ | refine belowDN ?_ _ | refine Below.drew ?_ | refine Below.setCell ?_ (by first | omega | (simp <;> omega)) _ | refine Below.alloc ?_ (by first | omega | (simp <;> omega)) _ | refine belowCall ?_ (by assumption)))).cell (p := ⟨w.heap.size, 1, none⟩) hEl).trans kE1) (first | (go_at_call 18; refine (toMiS_any _ _ _ z0 _ ((w0.1.mono B0).mono (by (repeat (first | assumption | exact Below.refl _ _ | refine belowDN ?_ _ | refine Below.drew ?_ | refine Below.setCell ?_ (by first | omega | (simp <;> omega)) _ | refine Below.alloc ?_ (by first | omega | (simp <;> omega)) _ | refine belowCall ?_ (by assumption))))) hn0).mono ?_; rintro e u1 ⟨g1, rfl, y1, hr1, b1⟩; replace b1 : Below s0.heap.size s0 u1 := belowCall (by (repeat (first | assumption | exact Below.refl _ _ | refine belowDN ?_ _ | refine Below.drew ?_ | refine Below.setCell ?_ (by first | omega | (simp <;> omega)) _ | refine Below.alloc ?_ (by first | omega | (simp <;> omega)) _ | refine belowCall ?_ (by assumption)))) b1; have yl1 := hr1.lt; have hx1 := MiL.of_row w0.1.1 hr1; have zz1 := b1.size; have B1 := belowCall B0 b1) | (go_at_call 22; refine (toEp_any _ _ _).mono ?_; rintro x u2 ⟨rfl, b2⟩; have dA : Below s0.heap.size s0 u2 := belowCall b1 b2; have zz2 := b2.size; have B2 := belowCall B1 b2; replace hx1 := hx1.mono b2) | (go_at_call 30; refine (sWor_any _ _ _ z0 a1_0 a1_1 u2 hx1 hn0).mono ?_; rintro e u3 ⟨rfl, b3⟩; have dC : Below s0.heap.size s0 u3 := belowCall dA b3; clear hx1; have zz3 := b3.size; have B3 := belowCall B2 b3) | fail)
  clear kE0 kE1 hEl
  go_wp2_with fail
  refine (toMiS_any _ _ _ z0 u3 (w0.1.mono B3) hn0).mono ?_
  rintro e u4 ⟨g4, rfl, y4, hr4, b4⟩
  have yl4 := hr4.lt
  have hx4 := MiL.of_row w0.1.1 hr4
  have zz4 := b4.size
  have B4 := belowCall B3 b4
  obtain ⟨-, kE0, kE1⟩ := (hbxE.mono B4).parts
  rw [Nat.zero_add] at kE1
  go_wp2_with fail
  refine (toEp_any _ _ _).mono ?_
  rintro x u5 ⟨rfl, b5⟩
  clear kE0 kE1
  have zz5 := b5.size
  have B5 := belowCall B4 b5
  replace hr4 := rowB hr4 b5
  replace hx4 := hx4.mono b5
  go_wp2_with fail
  refine (iWor_any _ _ _ z0 a1_0 a1_1 u5 hx4 hn0).mono ?_
  rintro e u6 ⟨rfl, b6⟩
  have zz6 := b6.size
  have B6 := belowCall B5 b6
  replace hr4 := rowB hr4 b6
  replace hx4 := hx4.mono b6
  go_wp2_with fail
  refine (toMiS_any _ _ _ z0 u6 (w0.1.mono B6) hn0).mono ?_
  rintro e u7 ⟨g7, rfl, y7, hr7, b7⟩
  have yl7 := hr7.lt
  have hx7 := MiL.of_row w0.1.1 hr7
  have zz7 := b7.size
  have B7 := belowCall B6 b7
  replace hr4 := rowB hr4 b7
  replace hx4 := hx4.mono b7
  go_wp2_with fail
  refine (eqMiS_self _ _ _ _ _ z0 u7 hx4 hx7 hn0).mono ?_
  rintro e u8 ⟨rfl, b8⟩
  clear hx7
  have zz8 := b8.size
  have B8 := belowCall B7 b8
  replace hr4 := rowB hr4 b8
  replace hx4 := hx4.mono b8
  go_wp2_with fail
  go_ret
  exact ⟨rfl, belowCall BW (B8)⟩

set_option maxRecDepth 100000 in
theorem lifted (os : Os) (started : os.Started) (H : Type) (enc : TypeId × Value → H) :
    ReturnsInHanded {} Try.checked os 7 .any (Rows.fnExactWorstMinimumSpec.pre6 enc Try.prog Try.f7 Rows.fnExactWorstMinimumRow.domain false) (Rows.fnExactWorstMinimumSpec.post enc Try.prog Try.f7 false true false false) := by
  refine returnsInHanded_of_change (C := Try.checked) own started (by kernel_rfl) Try.func7
    (ChangeSpec.witness6 (enc := enc) (C := Try.checked) false ⟨#[], #[.slice none 0 0, .agg #[.int .i64 0, .int .i64 0]], []⟩ 8 (by kernel_rfl) (by kernel_rfl) (by kernel_rfl) (by kernel_rfl)) ?_
  intro W base args ds gs before hval0 hW hcnd _
  have hval : ∀ (j : Nat) t v, Try.f7.params[j]? = some t → args[j]? = some v → Value.okWide Try.prog W .any base t v := hval0
  have hW' := hW
  obtain ⟨p, q, hA0, hV, rfl, hfz, hnd⟩ := hW
  have hA : DataW.TrodAll enc Try.prog W 0 (fun _ => true) true Try.f7.params.toList args.toList ds p := hA0
  rw [Try.params7] at hA hval
  obtain ⟨v0, vs0, d0, ds0, p0, q0, hargs, rfl, rfl, h0, r0⟩ := trodAll_cons hA
  obtain ⟨v1, vs1, d1, ds1, p1, q1, rfl, rfl, rfl, h1, r1⟩ := trodAll_cons r0
  obtain ⟨rfl, rfl, rfl⟩ := trodAll_nil r1
  obtain rfl : args = #[v0, v1] := by cases args; simp_all
  obtain ⟨rfl, rfl⟩ := trodVars_none hV
  have k0 := h0
  have lt0 : ∀ x ∈ p0, x.block < W.heap.size := by obtain ⟨m, hm⟩ := k0; exact DataW.trod_lt m _ _ _ hm
  obtain ⟨a0, len0, cap0, rfl⟩ := okWide_slice Try.underlying35 (hval 0 35 v0 rfl rfl)
  obtain ⟨z0, w0⟩ : ∃ zs, IsMi W a0 len0 cap0 zs := by
    obtain ⟨fuel, hf⟩ := h0
    exact mis_of Try.underlying35 Try.underlying53 (by kernel_rfl) (show Try.prog.cellsOf 53 = 2 by kernel_rfl) Try.underlying2 Try.underlying2 (by simpa [Value.cells] using hf)
  have k1 := h1
  have lt1 : ∀ x ∈ p1, x.block < W.heap.size := by obtain ⟨m, hm⟩ := k1; exact DataW.trod_lt m _ _ _ hm
  obtain ⟨c1_0, c1_1, y1_0, y1_1, mf1, rfl, hd1, hp1, g1_0, g1_1⟩ := Go.Joins.open_agg2 Try.underlying43 (by kernel_rfl) (show Try.prog.cellsOf 43 = 2 by kernel_rfl) (hval 1 43 v1 rfl rfl) h1
  obtain ⟨a1_0, e1_0, _, w1_0⟩ := DataW.trod_int Try.underlying2 g1_0
  simp only [List.cons.injEq, and_true] at e1_0
  subst e1_0
  obtain ⟨a1_1, e1_1, _, w1_1⟩ := DataW.trod_int Try.underlying2 g1_1
  simp only [List.cons.injEq, and_true] at e1_1
  subst e1_1
  clear hA0 hval0
  refine (walk a0 len0 cap0 z0 a1_0 a1_1 W w0 w1_0 w1_1).mono fun e W' ⟨he, bel⟩ => ?_
  subst he
  exact ⟨_, rfl, _, _, _, [], _, [], hW', trodAll_mk1 (shut_bool Try.underlying4 _), (trodAll_cons_mk (Below.trod laidOut (by kernel_rfl) (of_decide_eq_true (by kernel_rfl)) k0 bel lt0) (trodAll_cons_mk (Below.trod laidOut (by kernel_rfl) (of_decide_eq_true (by kernel_rfl)) k1 bel lt1) trodAll_mk0)), rfl, bel.frame _, fun h => by cases h⟩

theorem over : Rows.fnExactWorstMinimumRow.holds Try.pinned (OpenSpec.ofChange Rows.fnExactWorstMinimumSpec) :=
  OpenClaim.holds_of_wide 7 Try.f7 rfl rfl rfl rfl rfl rfl rfl ⟨rfl, rfl, rfl, rfl, rfl⟩ rfl rfl rfl rfl rfl (by kernel_rfl) Try.func7 (by kernel_rfl)
    (of_decide_eq_true (by kernel_rfl)) (by unfold Func.isWrapper; first | (rw [if_pos (by decide +kernel)]; kernel_rfl) | (rw [if_neg (by decide +kernel)]; exact ⟨rfl, rfl⟩))
    (fun os started H enc _ => lifted os started H enc)

theorem proved : Rows.FnExactWorstMinimumSaid := over
#print axioms proved
end Go.Proofs.Ytbjflgohahmjgaa.fnExactWorstMinimum
