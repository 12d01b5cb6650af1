/- FnExactMedianDiff: for every number, every slice of common estimates (that holds no more than the law's bound) and all two observers the program's MedianDiff (an iterator; quickselect) answers as the model's (an insertion sort), and writes into no argument. -/
import Derived.Test.YtlfbfgdejoggpabB1
import Derived.Test.YtlfbfgdejoggpabN6
import Derived.ChangeOld
import Derived.Lib.SmallJoins
namespace Go.Proofs.Ytlfbfgdejoggpab.fnExactMedianDiff
open Go.ChangeShapes Go.WideShapes Go.ChangeAt Go.RowKit
open Go.ChangeMaps (open_string shut_string)
set_option linter.unusedVariables false

theorem own : ownKnob Try.prog.godebug = none := by kernel_rfl
theorem laidOut : laidOutB Try.prog = true := by kernel_rfl

theorem walk (a0 : Int) (a1 : Option Addr) (len1 cap1 : Nat) (z1 : List Cm) (a2 : Int) (a3 : Int) (w : World) (w0 : (Lit.int .i64 a0).wf = true) (w1 : IsCm w a1 len1 cap1 z1) (w2 : (Lit.int .i64 a2).wf = true) (w3 : (Lit.int .i64 a3).wf = true) :
    Calls Try.prog 3 #[.int .i64 a0, .slice a1 len1 cap1, .int .i64 a2, .int .i64 a3] w fun e w' => e = .returned (.bool true) ∧ Below w.heap.size w w' := by
  by_cases hbig : (1048576 : Int) < totCm z1
  · have HZ := Lib.hid (szQ_no hbig)
    go_enter Try.func3, Try.ntmps3
    go_wp2_with fail
    refine (szCmS_any _ _ _ z1 1048576 _ w1 (by omega) (by omega)).mono ?_
    rintro e v1 ⟨rfl, b1⟩
    rw [HZ.out]
    go_wp2
    go_ret
    exact ⟨rfl, b1⟩
  have HZ := Lib.hid (szQ_yes hbig)
  have hn : len1 ≤ 1048576 := by have h1 := totCm_nonneg z1; have h2 := w1.1.1; omega
  have hn0 : ¬ (1048576 : Int) - totCm z1 < 0 := by omega
  go_enter Try.func3, Try.ntmps3
  go_wp2_with fail
  refine (szCmS_any _ _ _ z1 1048576 _ w1 (by omega) (by omega)).mono ?_
  rintro e v1 ⟨rfl, b1⟩
  rw [HZ.out]
  go_wp2_with fail
  refine (toCmS_any _ _ _ z1 v1 (w1.1.mono b1) hn).mono ?_
  rintro e v2 ⟨g2, rfl, -, hr2, b2⟩
  have hs2 := CmL.of_row w1.1.1 hr2
  go_wp2_with fail
  refine (sMedianDiff_any _ _ _ _ _ _ z1 v2 hs2 hn).mono ?_
  rintro e v3 ⟨⟨v, rfl, hv⟩, b3⟩
  obtain ⟨m, k, rfl⟩ := mdS_form hv
  have HV := Lib.hid hv
  clear hv
  have B3 : Below w.heap.size w v3 := belowCall (belowCall b1 b2) b3
  go_wp2_with fail
  refine (toCmS_any _ _ _ z1 v3 (w1.1.mono B3) hn).mono ?_
  rintro e v4 ⟨g4, rfl, -, hr4, b4⟩
  have hs4 := CmL.of_row w1.1.1 hr4
  go_wp2_with fail
  refine (iMedianDiff_any _ _ _ _ _ _ z1 v4 hs4 hn).mono ?_
  rintro e v5 ⟨⟨v, rfl, hv⟩, b5⟩
  obtain rfl := mdS_one HV.out hv
  clear hv HV
  have B5 : Below w.heap.size w v5 := belowCall (belowCall B3 b4) b5
  have q1 : (m != m) = false := by simp
  have q2 : (k != k) = false := by simp
  go_wp2_with fail
  refine (toCmS_any _ _ _ z1 v5 (w1.1.mono B5) hn).mono ?_
  rintro e v6 ⟨g6, rfl, -, hr6, b6⟩
  have hs6 := CmL.of_row w1.1.1 hr6
  go_wp2_with fail
  refine (eqCmS_self _ _ _ _ _ z1 v6 ((hs4.mono b5).mono b6) hs6 hn).mono ?_
  rintro e v7 ⟨rfl, b7⟩
  go_wp2
  go_ret
  exact ⟨rfl, belowCall (belowCall B5 b6) b7⟩

set_option maxRecDepth 100000 in
theorem lifted (os : Os) (started : os.Started) (H : Type) (enc : TypeId × Value → H) :
    ReturnsInHanded {} Try.checked os 3 .any (Rows.fnExactMedianDiffSpec.pre6 enc Try.prog Try.f3 Rows.fnExactMedianDiffRow.domain false) (Rows.fnExactMedianDiffSpec.post enc Try.prog Try.f3 false true false false) := by
  refine returnsInHanded_of_change (C := Try.checked) own started (by kernel_rfl) Try.func3
    (ChangeSpec.witness6 (enc := enc) (C := Try.checked) false ⟨#[], #[.int .i64 0, .slice none 0 0, .int .i64 0, .int .i64 0], []⟩ 8 (by kernel_rfl) (by kernel_rfl) (by kernel_rfl) (by kernel_rfl)) ?_
  intro W base args ds gs before hval0 hW hcnd _
  have hval : ∀ (j : Nat) t v, Try.f3.params[j]? = some t → args[j]? = some v → Value.okWide Try.prog W .any base t v := hval0
  have hW' := hW
  obtain ⟨p, q, hA0, hV, rfl, hfz, hnd⟩ := hW
  have hA : DataW.TrodAll enc Try.prog W 0 (fun _ => true) true Try.f3.params.toList args.toList ds p := hA0
  rw [Try.params3] at hA hval
  obtain ⟨v0, vs0, d0, ds0, p0, q0, hargs, rfl, rfl, h0, r0⟩ := trodAll_cons hA
  obtain ⟨v1, vs1, d1, ds1, p1, q1, rfl, rfl, rfl, h1, r1⟩ := trodAll_cons r0
  obtain ⟨v2, vs2, d2, ds2, p2, q2, rfl, rfl, rfl, h2, r2⟩ := trodAll_cons r1
  obtain ⟨v3, vs3, d3, ds3, p3, q3, rfl, rfl, rfl, h3, r3⟩ := trodAll_cons r2
  obtain ⟨rfl, rfl, rfl⟩ := trodAll_nil r3
  obtain rfl : args = #[v0, v1, v2, v3] := by cases args; simp_all
  obtain ⟨rfl, rfl⟩ := trodVars_none hV
  obtain ⟨a0, rfl, rfl, rfl, w0⟩ := open_int Try.underlying2 (hval 0 2 v0 rfl rfl) h0
  have k1 := h1
  have lt1 : ∀ x ∈ p1, x.block < W.heap.size := by obtain ⟨m, hm⟩ := k1; exact DataW.trod_lt m _ _ _ hm
  obtain ⟨a1, len1, cap1, rfl⟩ := okWide_slice Try.underlying22 (hval 1 22 v1 rfl rfl)
  obtain ⟨z1, w1⟩ : ∃ zs, IsCm W a1 len1 cap1 zs := by
    obtain ⟨fuel, hf⟩ := h1
    exact cms_of Try.underlying22 Try.underlying56 (by kernel_rfl) (show Try.prog.cellsOf 56 = 3 by kernel_rfl) Try.underlying2 Try.underlying2 Try.underlying2 (by simpa [Value.cells] using hf)
  obtain ⟨a2, rfl, rfl, rfl, w2⟩ := open_int Try.underlying2 (hval 2 2 v2 rfl rfl) h2
  obtain ⟨a3, rfl, rfl, rfl, w3⟩ := open_int Try.underlying2 (hval 3 2 v3 rfl rfl) h3
  clear hA0 hval0
  refine (walk a0 a1 len1 cap1 z1 a2 a3 W w0 w1 w2 w3).mono fun e W' ⟨he, bel⟩ => ?_
  subst he
  exact ⟨_, rfl, _, _, _, [], _, [], hW', trodAll_mk1 (shut_bool Try.underlying4 _), (trodAll_cons_mk (shut_int Try.underlying2 w0) (trodAll_cons_mk (Below.trod laidOut (by kernel_rfl) (of_decide_eq_true (by kernel_rfl)) k1 bel lt1) (trodAll_cons_mk (shut_int Try.underlying2 w2) (trodAll_cons_mk (shut_int Try.underlying2 w3) trodAll_mk0)))), rfl, bel.frame _, fun h => by cases h⟩

theorem over : Rows.fnExactMedianDiffRow.holds Try.pinned (OpenSpec.ofChange Rows.fnExactMedianDiffSpec) :=
  OpenClaim.holds_of_wide 3 Try.f3 rfl rfl rfl rfl rfl rfl rfl ⟨rfl, rfl, rfl, rfl, rfl⟩ rfl rfl rfl rfl rfl (by kernel_rfl) Try.func3 (by kernel_rfl)
    (of_decide_eq_true (by kernel_rfl)) (by unfold Func.isWrapper; first | (rw [if_pos (by decide +kernel)]; kernel_rfl) | (rw [if_neg (by decide +kernel)]; exact ⟨rfl, rfl⟩))
    (fun os started H enc _ => lifted os started H enc)

theorem proved : Rows.FnExactMedianDiffSaid := over
#print axioms proved
end Go.Proofs.Ytlfbfgdejoggpab.fnExactMedianDiff
