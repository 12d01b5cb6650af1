/- FnExactBoxAround: for every star (whose name is no longer than the law's bound) and every int64 the program's BoxAround answers as the model's. -/
import Derived.Test.YtbiomhlbomanhaaS3
import Derived.Test.YtbiomhlbomanhaaS4
import Derived.ChangeOld
import Derived.Lib.SmallJoins
import Derived.Deep.RegionHeld3
namespace Go.Proofs.Ytbiomhlbomanhaa.fnExactBoxAround
open Go.ChangeShapes Go.WideShapes Go.ChangeAt Go.RowKit
open Go.ChangeMaps (open_string shut_string)
set_option linter.unusedVariables false

theorem own : ownKnob Try.prog.godebug = none := by kernel_rfl
theorem laidOut : laidOutB Try.prog = true := by kernel_rfl

theorem walk (a0_0 : ByteArray) (a0_1 a0_2 a0_3 a0_4 : Int) (a1 : Int) (w : World) (w0_0 : a0_0.size ≤ maxLen) (w0_1 : (Lit.int .i64 a0_1).wf = true) (w0_2 : (Lit.int .i64 a0_2).wf = true) (w0_3 : (Lit.int .i64 a0_3).wf = true) (w0_4 : (Lit.int .i64 a0_4).wf = true) (w1 : (Lit.int .i64 a1).wf = true) :
    Calls Try.prog 6 #[.agg #[.string a0_0, .int .i64 a0_1, .int .i64 a0_2, .int .i64 a0_3, .int .i64 a0_4], .int .i64 a1] w fun e w' => e = .returned (.bool true) ∧ Below w.heap.size w w' := by
  obtain ⟨x1, x2, x3, x4, k, hmc⟩ := box_form (a0_0, a0_1, a0_2, a0_3, a0_4) a1
  have HM := Lib.hid hmc
  clear hmc
  by_cases hbig : (1048576 : Int) < (a0_0.size : Int)
  · have HS := Lib.hid (szR_no hbig)
    go_enter Try.func6, Try.ntmps6
    go_wp2_with (go_at_call 22; refine (szStar_any _ _ _ _ _ _ _ w0_0 (by omega) (by omega)).mono ?_; rintro e w' ⟨rfl, hbel⟩; obtain ⟨hc, hf⟩ := bcell hbel; have hz := hbel.size; (try simp at hz); (try simp only [Nat.add_one_le_iff] at hz); (try (have hzw : w.heap.size < w'.heap.size := by omega)); rw [HS.out])
    go_ret
    exact ⟨rfl, by (repeat (first | assumption | exact Below.refl _ _ | refine belowDN ?_ _ | refine Below.drew ?_ | refine Below.setCell ?_ (by first | omega | (simp <;> omega)) _ | refine Below.alloc ?_ (by first | omega | (simp <;> omega)) _ | refine belowCall ?_ (by assumption)))⟩
  have HS := Lib.hid (szR_yes hbig)
  have hn0 : ¬ (1048576 : Int) - (a0_0.size : Int) < 0 := by omega
  go_enter Try.func6, Try.ntmps6
  go_wp2_with fail
  refine (szStar_any _ _ _ _ _ 1048576 _ w0_0 (by omega) (by omega)).mono ?_
  rintro e w1 ⟨rfl, b1⟩
  have HP := StC.fresh w 34 a0_0 a0_1 a0_2 a0_3 a0_4
  have hP1 := HP.mono b1
  obtain ⟨m0, m1, m2, m3, m4, m5⟩ := hP1.parts
  rw [HS.out]
  go_wp2_with fail
  refine (toStar_any _ _ _ _ _ _).mono ?_
  rintro e w2 ⟨rfl, b2⟩
  go_wp2_with fail
  refine (sBox_any _ _ _ _ _ _ _).mono ?_
  rintro e w3 ⟨rfl, b3⟩
  have hP3 := (hP1.mono b2).mono b3
  obtain ⟨n0, n1, n2, n3, n4, n5⟩ := hP3.parts
  rw [HM.out]
  have B1 : Below w.heap.size w w1 := belowCall (by (repeat (first | assumption | exact Below.refl _ _ | refine belowDN ?_ _ | refine Below.drew ?_ | refine Below.setCell ?_ (by first | omega | (simp <;> omega)) _ | refine Below.alloc ?_ (by first | omega | (simp <;> omega)) _ | refine belowCall ?_ (by assumption)))) b1
  have B3 : Below w.heap.size w w3 := belowCall (belowCall B1 b2) b3
  go_wp2_with fail
  refine (toStar_any _ _ _ _ _ _).mono ?_
  rintro e w4 ⟨rfl, b4⟩
  have hz4 : w3.heap.size < w4.heap.size := by have := b4.size; simp at this; omega
  have hz3 := B3.size
  have B4 : Below w.heap.size w w4 := belowCall (by (repeat (first | assumption | exact Below.refl _ _ | refine belowDN ?_ _ | refine Below.drew ?_ | refine Below.setCell ?_ (by first | omega | (simp <;> omega)) _ | refine Below.alloc ?_ (by first | omega | (simp <;> omega)) _ | refine belowCall ?_ (by assumption)))) b4
  have q0 : w4.cell? ⟨w3.heap.size, 0, none⟩ = some (.int .i64 x1) := by rw [b4.cell (p := ⟨w3.heap.size, 0, none⟩) (by simp)]; go_keep
  have q1 : w4.cell? ⟨w3.heap.size, 1, none⟩ = some (.int .i64 x2) := by rw [b4.cell (p := ⟨w3.heap.size, 1, none⟩) (by simp)]; go_keep
  have q2 : w4.cell? ⟨w3.heap.size, 2, none⟩ = some (.int .i64 x3) := by rw [b4.cell (p := ⟨w3.heap.size, 2, none⟩) (by simp)]; go_keep
  have q3 : w4.cell? ⟨w3.heap.size, 3, none⟩ = some (.int .i64 x4) := by rw [b4.cell (p := ⟨w3.heap.size, 3, none⟩) (by simp)]; go_keep
  go_wp2_with fail
  refine (iBox_any _ _ _ _ _ _ _).mono ?_
  rintro e w5 ⟨rfl, b5⟩
  rw [HM.out]
  have r0 := (b5.cell (p := ⟨w3.heap.size, 0, none⟩) hz4).trans q0
  have r1 := (b5.cell (p := ⟨w3.heap.size, 1, none⟩) hz4).trans q1
  have r2 := (b5.cell (p := ⟨w3.heap.size, 2, none⟩) hz4).trans q2
  have r3 := (b5.cell (p := ⟨w3.heap.size, 3, none⟩) hz4).trans q3
  have B5 : Below w.heap.size w w5 := belowCall B4 b5
  have hz5 : w3.heap.size < w5.heap.size := by have := b5.size; omega
  have hz5' := B5.size
  go_wp2_with fail
  refine (eqBox_self _ _ _ _ _).mono ?_
  rintro e w6 ⟨rfl, b6⟩
  have B6 : Below w.heap.size w w6 := belowCall (by (repeat (first | assumption | exact Below.refl _ _ | refine belowDN ?_ _ | refine Below.drew ?_ | refine Below.setCell ?_ (by first | omega | (simp <;> omega)) _ | refine Below.alloc ?_ (by first | omega | (simp <;> omega)) _ | refine belowCall ?_ (by assumption)))) b6
  go_wp2
  go_ret
  exact ⟨rfl, B6⟩

set_option maxRecDepth 100000 in
theorem lifted (os : Os) (started : os.Started) (H : Type) (enc : TypeId × Value → H) :
    ReturnsInHanded {} Try.checked os 6 .any (Rows.fnExactBoxAroundSpec.pre6 enc Try.prog Try.f6 Rows.fnExactBoxAroundRow.domain false) (Rows.fnExactBoxAroundSpec.post enc Try.prog Try.f6 false true false false) := by
  refine returnsInHanded_of_change (C := Try.checked) own started (by kernel_rfl) Try.func6
    (ChangeSpec.witness6 (enc := enc) (C := Try.checked) false ⟨#[], #[.agg #[.string ByteArray.empty, .int .i64 0, .int .i64 0, .int .i64 0, .int .i64 0], .int .i64 0], []⟩ 8 (by kernel_rfl) (by kernel_rfl) (by kernel_rfl) (by kernel_rfl)) ?_
  intro W base args ds gs before hval0 hW hcnd _
  have hval : ∀ (j : Nat) t v, Try.f6.params[j]? = some t → args[j]? = some v → Value.okWide Try.prog W .any base t v := hval0
  have hW' := hW
  obtain ⟨p, q, hA0, hV, rfl, hfz, hnd⟩ := hW
  have hA : DataW.TrodAll enc Try.prog W 0 (fun _ => true) true Try.f6.params.toList args.toList ds p := hA0
  rw [Try.params6] at hA hval
  obtain ⟨v0, vs0, d0, ds0, p0, q0, hargs, rfl, rfl, h0, r0⟩ := trodAll_cons hA
  obtain ⟨v1, vs1, d1, ds1, p1, q1, rfl, rfl, rfl, h1, r1⟩ := trodAll_cons r0
  obtain ⟨rfl, rfl, rfl⟩ := trodAll_nil r1
  obtain rfl : args = #[v0, v1] := by cases args; simp_all
  obtain ⟨rfl, rfl⟩ := trodVars_none hV
  have k0 := h0
  have lt0 : ∀ x ∈ p0, x.block < W.heap.size := by obtain ⟨m, hm⟩ := k0; exact DataW.trod_lt m _ _ _ hm
  obtain ⟨a0_0, a0_1, a0_2, a0_3, a0_4, rfl, w0_0, w0_1, w0_2, w0_3, w0_4⟩ := open_star Try.underlying34 (by kernel_rfl) (show Try.prog.cellsOf 34 = 5 by kernel_rfl) Try.underlying9 Try.underlying2 Try.underlying2 Try.underlying2 Try.underlying2 (hval 0 34 v0 rfl rfl) h0
  obtain ⟨a1, rfl, rfl, rfl, w1⟩ := open_int Try.underlying2 (hval 1 2 v1 rfl rfl) h1
  clear hA0 hval0
  refine (walk a0_0 a0_1 a0_2 a0_3 a0_4 a1 W w0_0 w0_1 w0_2 w0_3 w0_4 w1).mono fun e W' ⟨he, bel⟩ => ?_
  subst he
  exact ⟨_, rfl, _, _, _, [], _, [], hW', trodAll_mk1 (shut_bool Try.underlying4 _), (trodAll_cons_mk (Below.trod laidOut (by kernel_rfl) (of_decide_eq_true (by kernel_rfl)) k0 bel lt0) (trodAll_cons_mk (shut_int Try.underlying2 w1) trodAll_mk0)), rfl, bel.frame _, fun h => by cases h⟩

theorem over : Rows.fnExactBoxAroundRow.holds Try.pinned (OpenSpec.ofChange Rows.fnExactBoxAroundSpec) :=
  OpenClaim.holds_of_wide 6 Try.f6 rfl rfl rfl rfl rfl rfl rfl ⟨rfl, rfl, rfl, rfl, rfl⟩ rfl rfl rfl rfl rfl (by kernel_rfl) Try.func6 (by kernel_rfl)
    (of_decide_eq_true (by kernel_rfl)) (by unfold Func.isWrapper; first | (rw [if_pos (by decide +kernel)]; kernel_rfl) | (rw [if_neg (by decide +kernel)]; exact ⟨rfl, rfl⟩))
    (fun os started H enc _ => lifted os started H enc)

theorem proved : Rows.FnExactBoxAroundSaid := over
#print axioms proved
end Go.Proofs.Ytbiomhlbomanhaa.fnExactBoxAround
