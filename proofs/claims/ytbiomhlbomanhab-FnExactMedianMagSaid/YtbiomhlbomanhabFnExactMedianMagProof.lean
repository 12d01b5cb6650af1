/- FnExactMedianMag: for every slice of int64 (no longer than the law's bound) the program's MedianMag (slices.Clone, sort.Slice) answers as the model's (an insertion sort), and writes into no argument. -/
import Derived.Test.YtbiomhlbomanhabB1
import Derived.Test.YtbiomhlbomanhabB3
import Derived.Test.YtbiomhlbomanhabM7
import Derived.ChangeOld
import Derived.Lib.SmallJoins
namespace Go.Proofs.Ytbiomhlbomanhab.fnExactMedianMag
open Go.ChangeShapes Go.WideShapes Go.ChangeAt Go.RowKit
open Go.ChangeMaps (open_string shut_string)
set_option linter.unusedVariables false

theorem own : ownKnob Try.prog.godebug = none := by kernel_rfl
theorem laidOut : laidOutB Try.prog = true := by kernel_rfl

theorem walk (a0 : Option Addr) (len0 cap0 : Nat) (z0 : List Int) (w : World) (w0 : IsRow .i64 w a0 len0 cap0 z0) :
    Calls Try.prog 3 #[.slice a0 len0 cap0] w fun e w' => e = .returned (.bool true) ∧ Below w.heap.size w w' := by
  by_cases hlong : (1048576 : Int) < (len0 : Int)
  · go_enter Try.func3, Try.ntmps3
    go_wp2
    go_ret
    exact ⟨rfl, Below.refl _ _⟩
  have hdec : decide ((1048576 : Int) < (len0 : Int)) = false := by simpa using hlong
  have hn : len0 ≤ 1048576 := by omega
  have h := Lst.of_row w0
  clear hlong
  go_enter Try.func3, Try.ntmps3
  go_wp2_with fail
  refine (toInt64S_any _ _ _ _ w h hn).mono ?_
  rintro e w1 ⟨g1, rfl, h1, b1⟩
  go_wp2_with fail
  refine (sMedianMag_any _ _ _ _ w1 h1 hn).mono ?_
  rintro e w2 ⟨v, rfl, hv, b2⟩
  obtain ⟨m, k, rfl⟩ := medS_form hv
  have B2 : Below w.heap.size w w2 := belowCall b1 b2
  have HV := Lib.hid hv
  clear hv
  go_wp2_with fail
  refine (toInt64S_any _ _ _ _ w2 (h.mono B2) hn).mono ?_
  rintro e w3 ⟨g3, rfl, h3, b3⟩
  go_wp2_with fail
  refine (iMedianMag_any _ _ _ _ w3 h3 hn).mono ?_
  rintro e w4 ⟨v, rfl, hv, b4⟩
  obtain rfl := medS_one HV.out hv
  have B4 : Below w.heap.size w w4 := belowCall (belowCall B2 b3) b4
  have q1 : (m != m) = false := by simp
  have q2 : (k != k) = false := by simp
  clear hv HV
  go_wp2_with fail
  refine (toInt64S_any _ _ _ _ w4 (h.mono B4) hn).mono ?_
  rintro e w5 ⟨g5, rfl, h5, b5⟩
  go_wp2_with fail
  refine (eqInt64S_any _ _ _ _ _ _ _ _ w5 ((h3.mono b4).mono b5) h5 hn hn).mono ?_
  rintro e w6 ⟨rfl, b6⟩
  rw [show decide (z0.take len0 = z0.take len0) = true by simp]
  go_wp2
  go_ret
  exact ⟨rfl, belowCall (belowCall B4 b5) b6⟩

set_option maxRecDepth 100000 in
theorem lifted (os : Os) (started : os.Started) (H : Type) (enc : TypeId × Value → H) :
    ReturnsInHanded {} Try.checked os 3 .any (Rows.fnExactMedianMagSpec.pre6 enc Try.prog Try.f3 Rows.fnExactMedianMagRow.domain false) (Rows.fnExactMedianMagSpec.post enc Try.prog Try.f3 false true false false) := by
  refine returnsInHanded_of_change (C := Try.checked) own started (by kernel_rfl) Try.func3
    (ChangeSpec.witness6 (enc := enc) (C := Try.checked) false ⟨#[], #[.slice none 0 0], []⟩ 8 (by kernel_rfl) (by kernel_rfl) (by kernel_rfl) (by kernel_rfl)) ?_
  intro W base args ds gs before hval0 hW hcnd _
  have hval : ∀ (j : Nat) t v, Try.f3.params[j]? = some t → args[j]? = some v → Value.okWide Try.prog W .any base t v := hval0
  have hW' := hW
  obtain ⟨p, q, hA0, hV, rfl, hfz, hnd⟩ := hW
  have hA : DataW.TrodAll enc Try.prog W 0 (fun _ => true) true Try.f3.params.toList args.toList ds p := hA0
  rw [Try.params3] at hA hval
  obtain ⟨v0, vs0, d0, ds0, p0, q0, hargs, rfl, rfl, h0, r0⟩ := trodAll_cons hA
  obtain ⟨rfl, rfl, rfl⟩ := trodAll_nil r0
  obtain rfl : args = #[v0] := by cases args; simp_all
  obtain ⟨rfl, rfl⟩ := trodVars_none hV
  have k0 := h0
  have lt0 : ∀ x ∈ p0, x.block < W.heap.size := by obtain ⟨m, hm⟩ := k0; exact DataW.trod_lt m _ _ _ hm
  obtain ⟨a0, len0, cap0, rfl⟩ := okWide_slice Try.underlying22 (hval 0 22 v0 rfl rfl)
  obtain ⟨z0, w0⟩ : ∃ zs, IsRow .i64 W a0 len0 cap0 zs := by
    obtain ⟨fuel, hf⟩ := h0
    rcases open_ints Try.underlying22 Try.underlying2 (by kernel_rfl) hf with ⟨hcs, _⟩ | ⟨x, l, c, zs, hcs, _, hl, hm, hz, _, hcell, hwz⟩
    · simp [Value.cells] at hcs
      obtain ⟨rfl, rfl, rfl⟩ := hcs
      exact ⟨[], .inl ⟨rfl, rfl, rfl, rfl⟩⟩
    · simp [Value.cells] at hcs
      obtain ⟨rfl, rfl, rfl⟩ := hcs
      exact ⟨zs, .inr ⟨_, rfl, hl, hm, by simpa using hz, hcell, hwz⟩⟩
  clear hA0 hval0
  refine (walk a0 len0 cap0 z0 W w0).mono fun e W' ⟨he, bel⟩ => ?_
  subst he
  exact ⟨_, rfl, _, _, _, [], _, [], hW', trodAll_mk1 (shut_bool Try.underlying4 _), (trodAll_cons_mk (Below.trod laidOut (by kernel_rfl) (of_decide_eq_true (by kernel_rfl)) k0 bel lt0) trodAll_mk0), rfl, bel.frame _, fun h => by cases h⟩

theorem over : Rows.fnExactMedianMagRow.holds Try.pinned (OpenSpec.ofChange Rows.fnExactMedianMagSpec) :=
  OpenClaim.holds_of_wide 3 Try.f3 rfl rfl rfl rfl rfl rfl rfl ⟨rfl, rfl, rfl, rfl, rfl⟩ rfl rfl rfl rfl rfl (by kernel_rfl) Try.func3 (by kernel_rfl)
    (of_decide_eq_true (by kernel_rfl)) (by unfold Func.isWrapper; first | (rw [if_pos (by decide +kernel)]; kernel_rfl) | (rw [if_neg (by decide +kernel)]; exact ⟨rfl, rfl⟩))
    (fun os started H enc _ => lifted os started H enc)

theorem proved : Rows.FnExactMedianMagSaid := over
#print axioms proved
end Go.Proofs.Ytbiomhlbomanhab.fnExactMedianMag
