/- FnExactSpreadLeft: for every number, every slice of common estimates and every slice of numbers (that hold no more than the law's bounds) the program's SpreadLeft (an iterator; the builtin max) answers as the model's, and writes into no argument. -/
import Derived.Test.YtlfbfgdejoggpabB1
import Derived.Test.YtlfbfgdejoggpabN8
import Derived.Test.YtlfbfgdejoggpabGI
import Derived.Test.YtlfbfgdejoggpabGR
import Derived.ChangeOld
import Derived.Lib.SmallJoins
namespace Go.Proofs.Ytlfbfgdejoggpab.fnExactSpreadLeft
open Go.ChangeShapes Go.WideShapes Go.ChangeAt Go.RowKit
open Go.ChangeMaps (open_string shut_string)
set_option linter.unusedVariables false

theorem own : ownKnob Try.prog.godebug = none := by kernel_rfl
theorem laidOut : laidOutB Try.prog = true := by kernel_rfl
theorem rowL {w : World} {a : Option Addr} {n c : Nat} {z : List Int} (h : IsRow .i64 w a n c z) : Lst w a n (z.take n) := Lst.of_row h
set_option maxHeartbeats 4000000 in

theorem walk (a0 : Int) (a1 : Option Addr) (len1 cap1 : Nat) (z1 : List Cm) (a2 : Option Addr) (len2 cap2 : Nat) (z2 : List Int) (w : World) (w0 : (Lit.int .i64 a0).wf = true) (w1 : IsCm w a1 len1 cap1 z1) (w2 : IsRow .i64 w a2 len2 cap2 z2) :
    Calls Try.prog 7 #[.int .i64 a0, .slice a1 len1 cap1, .slice a2 len2 cap2] w fun e w' => e = .returned (.bool true) ∧ Below w.heap.size w w' := by
  have hz2 := rowL w2
  generalize z2.take len2 = zs at hz2
  clear w2
  by_cases hlong : (1048576 : Int) < (len2 : Int)
  · go_enter Try.func7, Try.ntmps7
    go_wp2
    go_ret
    exact ⟨rfl, Below.refl _ _⟩
  have hn2 : len2 ≤ 1048576 := by omega
  have hdec : decide ((1048576 : Int) < (len2 : Int)) = false := by simpa using hlong
  clear hlong
  by_cases hbig : (1048576 : Int) < totCm z1
  · have HZ := Lib.hid (szQ_no hbig)
    go_enter Try.func7, Try.ntmps7
    go_wp2_with fail
    refine (szCmS_any _ _ _ z1 1048576 _ w1 (by omega) (by omega)).mono ?_
    rintro e v1 ⟨rfl, b1⟩
    rw [HZ.out]
    go_wp2
    go_ret
    exact ⟨rfl, b1⟩
  have HZ := Lib.hid (szQ_yes hbig)
  have hn : len1 ≤ 1048576 := by have h1 := totCm_nonneg z1; have h2 := w1.1.1; omega
  have hn0 : ¬ (1048576 : Int) - totCm z1 < 0 := by omega
  obtain ⟨m, hm⟩ : ∃ m, slV a0 z1 zs = m := ⟨_, rfl⟩
  obtain ⟨k, hk⟩ : ∃ k, slC a0 z1 zs = k := ⟨_, rfl⟩
  have HM := Lib.hid hm
  have HK := Lib.hid hk
  clear hm hk
  have q1 : (m != m) = false := by simp
  have q2 : (k != k) = false := by simp
  go_enter Try.func7, Try.ntmps7
  go_wp2_with fail
  refine (szCmS_any _ _ _ z1 1048576 _ w1 (by omega) (by omega)).mono ?_
  rintro e v1 ⟨rfl, b1⟩
  rw [HZ.out]
  go_wp2_with fail
  refine (toCmS_any _ _ _ z1 v1 (w1.1.mono b1) hn).mono ?_
  rintro e v2 ⟨g2, rfl, -, hr2, b2⟩
  have hs2 := CmL.of_row w1.1.1 hr2
  have B2 := belowCall b1 b2
  go_wp2_with fail
  refine (toIntO_any _ _ _ zs v2 (hz2.mono B2) hn2).mono ?_
  rintro e u2 ⟨h2, rfl, hi2, c2⟩
  have C2 := belowCall B2 c2
  go_wp2_with fail
  refine (sSpread_any _ _ _ _ _ _ _ z1 zs u2 (hs2.mono c2) (Lst.of_own hi2) hn hn2).mono ?_
  rintro e v3 ⟨rfl, b3⟩
  rw [HM.out, HK.out]
  have B3 := belowCall C2 b3
  go_wp2_with fail
  refine (toCmS_any _ _ _ z1 v3 (w1.1.mono B3) hn).mono ?_
  rintro e v4 ⟨g4, rfl, -, hr4, b4⟩
  have hs4 := CmL.of_row w1.1.1 hr4
  have B4 := belowCall B3 b4
  go_wp2_with fail
  refine (toIntO_any _ _ _ zs v4 (hz2.mono B4) hn2).mono ?_
  rintro e u4 ⟨h4, rfl, hi4, c4⟩
  have C4 := belowCall B4 c4
  have hl4 : Lst u4 (some ⟨h4, 0, none⟩) len2 zs := Lst.of_own hi4
  go_wp2_with fail
  refine (iSpread_any _ _ _ _ _ _ _ z1 zs u4 (hs4.mono c4) hl4 hn hn2).mono ?_
  rintro e v5 ⟨rfl, b5⟩
  rw [HM.out, HK.out]
  have B5 := belowCall C4 b5
  go_wp2_with fail
  refine (toCmS_any _ _ _ z1 v5 (w1.1.mono B5) hn).mono ?_
  rintro e v6 ⟨g6, rfl, -, hr6, b6⟩
  have hs6 := CmL.of_row w1.1.1 hr6
  have B6 := belowCall B5 b6
  go_wp2_with fail
  refine (eqCmS_self _ _ _ _ _ z1 v6 (((hs4.mono c4).mono b5).mono b6) hs6 hn).mono ?_
  rintro e v7 ⟨rfl, b7⟩
  have B7 := belowCall B6 b7
  go_wp2_with fail
  refine (toIntO_any _ _ _ zs v7 (hz2.mono B7) hn2).mono ?_
  rintro e u8 ⟨h8, rfl, hi8, c8⟩
  have C8 := belowCall B7 c8
  go_wp2_with fail
  refine (eqI_self _ _ _ _ _ zs u8 ((((hl4.mono b5).mono b6).mono b7).mono c8) (Lst.of_own hi8) hn2).mono ?_
  rintro e u9 ⟨rfl, c9⟩
  go_wp2
  go_ret
  exact ⟨rfl, belowCall C8 c9⟩

set_option maxRecDepth 100000 in
theorem lifted (os : Os) (started : os.Started) (H : Type) (enc : TypeId × Value → H) :
    ReturnsInHanded {} Try.checked os 7 .any (Rows.fnExactSpreadLeftSpec.pre6 enc Try.prog Try.f7 Rows.fnExactSpreadLeftRow.domain false) (Rows.fnExactSpreadLeftSpec.post enc Try.prog Try.f7 false true false false) := by
  refine returnsInHanded_of_change (C := Try.checked) own started (by kernel_rfl) Try.func7
    (ChangeSpec.witness6 (enc := enc) (C := Try.checked) false ⟨#[], #[.int .i64 0, .slice none 0 0, .slice none 0 0], []⟩ 8 (by kernel_rfl) (by kernel_rfl) (by kernel_rfl) (by kernel_rfl)) ?_
  intro W base args ds gs before hval0 hW hcnd _
  have hval : ∀ (j : Nat) t v, Try.f7.params[j]? = some t → args[j]? = some v → Value.okWide Try.prog W .any base t v := hval0
  have hW' := hW
  obtain ⟨p, q, hA0, hV, rfl, hfz, hnd⟩ := hW
  have hA : DataW.TrodAll enc Try.prog W 0 (fun _ => true) true Try.f7.params.toList args.toList ds p := hA0
  rw [Try.params7] at hA hval
  obtain ⟨v0, vs0, d0, ds0, p0, q0, hargs, rfl, rfl, h0, r0⟩ := trodAll_cons hA
  obtain ⟨v1, vs1, d1, ds1, p1, q1, rfl, rfl, rfl, h1, r1⟩ := trodAll_cons r0
  obtain ⟨v2, vs2, d2, ds2, p2, q2, rfl, rfl, rfl, h2, r2⟩ := trodAll_cons r1
  obtain ⟨rfl, rfl, rfl⟩ := trodAll_nil r2
  obtain rfl : args = #[v0, v1, v2] := by cases args; simp_all
  obtain ⟨rfl, rfl⟩ := trodVars_none hV
  obtain ⟨a0, rfl, rfl, rfl, w0⟩ := open_int Try.underlying2 (hval 0 2 v0 rfl rfl) h0
  have k1 := h1
  have lt1 : ∀ x ∈ p1, x.block < W.heap.size := by obtain ⟨m, hm⟩ := k1; exact DataW.trod_lt m _ _ _ hm
  obtain ⟨a1, len1, cap1, rfl⟩ := okWide_slice Try.underlying22 (hval 1 22 v1 rfl rfl)
  obtain ⟨z1, w1⟩ : ∃ zs, IsCm W a1 len1 cap1 zs := by
    obtain ⟨fuel, hf⟩ := h1
    exact cms_of Try.underlying22 Try.underlying56 (by kernel_rfl) (show Try.prog.cellsOf 56 = 3 by kernel_rfl) Try.underlying2 Try.underlying2 Try.underlying2 (by simpa [Value.cells] using hf)
  have k2 := h2
  have lt2 : ∀ x ∈ p2, x.block < W.heap.size := by obtain ⟨m, hm⟩ := k2; exact DataW.trod_lt m _ _ _ hm
  obtain ⟨a2, len2, cap2, rfl⟩ := okWide_slice Try.underlying30 (hval 2 30 v2 rfl rfl)
  obtain ⟨z2, w2⟩ : ∃ zs, IsRow .i64 W a2 len2 cap2 zs := by
    obtain ⟨fuel, hf⟩ := h2
    rcases open_ints Try.underlying30 Try.underlying2 (by kernel_rfl) hf with ⟨hcs, _⟩ | ⟨x, l, c, zs, hcs, _, hl, hm, hz, _, hcell, hwz⟩
    · simp [Value.cells] at hcs
      obtain ⟨rfl, rfl, rfl⟩ := hcs
      exact ⟨[], .inl ⟨rfl, rfl, rfl, rfl⟩⟩
    · simp [Value.cells] at hcs
      obtain ⟨rfl, rfl, rfl⟩ := hcs
      exact ⟨zs, .inr ⟨_, rfl, hl, hm, by simpa using hz, hcell, hwz⟩⟩
  clear hA0 hval0
  refine (walk a0 a1 len1 cap1 z1 a2 len2 cap2 z2 W w0 w1 w2).mono fun e W' ⟨he, bel⟩ => ?_
  subst he
  exact ⟨_, rfl, _, _, _, [], _, [], hW', trodAll_mk1 (shut_bool Try.underlying4 _), (trodAll_cons_mk (shut_int Try.underlying2 w0) (trodAll_cons_mk (Below.trod laidOut (by kernel_rfl) (of_decide_eq_true (by kernel_rfl)) k1 bel lt1) (trodAll_cons_mk (Below.trod laidOut (by kernel_rfl) (of_decide_eq_true (by kernel_rfl)) k2 bel lt2) trodAll_mk0))), rfl, bel.frame _, fun h => by cases h⟩

theorem over : Rows.fnExactSpreadLeftRow.holds Try.pinned (OpenSpec.ofChange Rows.fnExactSpreadLeftSpec) :=
  OpenClaim.holds_of_wide 7 Try.f7 rfl rfl rfl rfl rfl rfl rfl ⟨rfl, rfl, rfl, rfl, rfl⟩ rfl rfl rfl rfl rfl (by kernel_rfl) Try.func7 (by kernel_rfl)
    (of_decide_eq_true (by kernel_rfl)) (by unfold Func.isWrapper; first | (rw [if_pos (by decide +kernel)]; kernel_rfl) | (rw [if_neg (by decide +kernel)]; exact ⟨rfl, rfl⟩))
    (fun os started H enc _ => lifted os started H enc)

theorem proved : Rows.FnExactSpreadLeftSaid := over
#print axioms proved
end Go.Proofs.Ytlfbfgdejoggpab.fnExactSpreadLeft
