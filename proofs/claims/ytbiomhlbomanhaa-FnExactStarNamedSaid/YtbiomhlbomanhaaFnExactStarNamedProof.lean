/- FnExactStarNamed: for every slice of stars and every string (that hold no more than the law's bounds) the program's StarNamed (a map by names) answers as the model's, and writes into no argument. -/
import Derived.Test.YtbiomhlbomanhaaS6
import Derived.Test.YtbiomhlbomanhaaSC
import Derived.ChangeOld
import Derived.Lib.SmallJoins
namespace Go.Proofs.Ytbiomhlbomanhaa.fnExactStarNamed
open Go.ChangeShapes Go.WideShapes Go.ChangeAt Go.RowKit
open Go.ChangeMaps (open_string shut_string)
set_option linter.unusedVariables false

theorem own : ownKnob Try.prog.godebug = none := by kernel_rfl
theorem laidOut : laidOutB Try.prog = true := by kernel_rfl
theorem sumB {xs : List St} {l : Int} (h : ¬ l < totS xs) (hl : l ≤ 1048576) {n : Nat} (hn : xs.length = n) : n ≤ 1048576 := by have h1 := totS_nonneg xs; omega

theorem walk (a0 : Option Addr) (len0 cap0 : Nat) (z0 : List St) (a1 : ByteArray) (w : World) (w0 : IsStars w a0 len0 cap0 z0) (w1 : a1.size ≤ maxLen) :
    Calls Try.prog 9 #[.slice a0 len0 cap0, .string a1] w fun e w' => e = .returned (.bool true) ∧ Below w.heap.size w w' := by
  by_cases hlong : (1048576 : Int) < (a1.size : Int)
  · go_enter Try.func9, Try.ntmps9
    go_wp2
    go_ret
    exact ⟨rfl, Below.refl _ _⟩
  have hdec : decide ((1048576 : Int) < (a1.size : Int)) = false := by simpa using hlong
  clear hlong
  by_cases hbig : (1048576 : Int) < totS z0
  · have HZ := Lib.hid (szR_no hbig)
    go_enter Try.func9, Try.ntmps9
    go_wp2_with fail
    refine (szStarS_any _ _ _ z0 1048576 _ w0 (by omega) (by omega)).mono ?_
    rintro e w2 ⟨rfl, b2⟩
    rw [HZ.out]
    go_wp2
    go_ret
    exact ⟨rfl, b2⟩
  have HZ := Lib.hid (szR_yes hbig)
  have hn : len0 ≤ 1048576 := sumB hbig (by omega) w0.1.1
  have hn0 : ¬ (1048576 : Int) - totS z0 < 0 := by omega
  obtain ⟨m, k, hv⟩ := snV_form z0 a1
  have HV := Lib.hid hv
  clear hv
  go_enter Try.func9, Try.ntmps9
  go_wp2_with fail
  refine (szStarS_any _ _ _ z0 1048576 _ w0 (by omega) (by omega)).mono ?_
  rintro e w2 ⟨rfl, b2⟩
  rw [HZ.out]
  go_wp2_with fail
  refine (toStarS_any _ _ _ z0 w2 (w0.1.mono b2) hn).mono ?_
  rintro e w3 ⟨g3, rfl, -, hr3, b3⟩
  have hs3 := StL.of_row w0.1.1 hr3
  go_wp2_with fail
  refine (sStarNamed_any _ _ _ z0 a1 w3 hs3 hn).mono ?_
  rintro e w4 ⟨rfl, b4⟩
  rw [HV.out]
  have B4 : Below w.heap.size w w4 := belowCall (belowCall b2 b3) b4
  go_wp2_with fail
  refine (toStarS_any _ _ _ z0 w4 (w0.1.mono B4) hn).mono ?_
  rintro e w5 ⟨g5, rfl, -, hr5, b5⟩
  have hs5 := StL.of_row w0.1.1 hr5
  go_wp2_with fail
  refine (iStarNamed_any _ _ _ z0 a1 w5 hs5 hn w1).mono ?_
  rintro e w6 ⟨rfl, b6⟩
  rw [HV.out]
  have B6 : Below w.heap.size w w6 := belowCall (belowCall B4 b5) b6
  go_wp2_with fail
  refine (toStarS_any _ _ _ z0 w6 (w0.1.mono B6) hn).mono ?_
  rintro e w7 ⟨g7, rfl, -, hr7, b7⟩
  have hs7 := StL.of_row w0.1.1 hr7
  go_wp2_with fail
  refine (eqStarS_self _ _ _ _ _ z0 w7 ((hs5.mono b6).mono b7) hs7 hn).mono ?_
  rintro e w8 ⟨rfl, b8⟩
  go_wp2
  go_ret
  exact ⟨rfl, belowCall (belowCall B6 b7) b8⟩

set_option maxRecDepth 100000 in
theorem lifted (os : Os) (started : os.Started) (H : Type) (enc : TypeId × Value → H) :
    ReturnsInHanded {} Try.checked os 9 .any (Rows.fnExactStarNamedSpec.pre6 enc Try.prog Try.f9 Rows.fnExactStarNamedRow.domain false) (Rows.fnExactStarNamedSpec.post enc Try.prog Try.f9 false true false false) := by
  refine returnsInHanded_of_change (C := Try.checked) own started (by kernel_rfl) Try.func9
    (ChangeSpec.witness6 (enc := enc) (C := Try.checked) false ⟨#[], #[.slice none 0 0, .string ByteArray.empty], []⟩ 8 (by kernel_rfl) (by kernel_rfl) (by kernel_rfl) (by kernel_rfl)) ?_
  intro W base args ds gs before hval0 hW hcnd _
  have hval : ∀ (j : Nat) t v, Try.f9.params[j]? = some t → args[j]? = some v → Value.okWide Try.prog W .any base t v := hval0
  have hW' := hW
  obtain ⟨p, q, hA0, hV, rfl, hfz, hnd⟩ := hW
  have hA : DataW.TrodAll enc Try.prog W 0 (fun _ => true) true Try.f9.params.toList args.toList ds p := hA0
  rw [Try.params9] at hA hval
  obtain ⟨v0, vs0, d0, ds0, p0, q0, hargs, rfl, rfl, h0, r0⟩ := trodAll_cons hA
  obtain ⟨v1, vs1, d1, ds1, p1, q1, rfl, rfl, rfl, h1, r1⟩ := trodAll_cons r0
  obtain ⟨rfl, rfl, rfl⟩ := trodAll_nil r1
  obtain rfl : args = #[v0, v1] := by cases args; simp_all
  obtain ⟨rfl, rfl⟩ := trodVars_none hV
  have k0 := h0
  have lt0 : ∀ x ∈ p0, x.block < W.heap.size := by obtain ⟨m, hm⟩ := k0; exact DataW.trod_lt m _ _ _ hm
  obtain ⟨a0, len0, cap0, rfl⟩ := okWide_slice Try.underlying22 (hval 0 22 v0 rfl rfl)
  obtain ⟨z0, w0⟩ : ∃ zs, IsStars W a0 len0 cap0 zs := by
    obtain ⟨fuel, hf⟩ := h0
    exact stars_of Try.underlying22 Try.underlying34 (by kernel_rfl) (show Try.prog.cellsOf 34 = 5 by kernel_rfl) Try.underlying9 Try.underlying2 Try.underlying2 Try.underlying2 Try.underlying2 (by simpa [Value.cells] using hf)
  obtain ⟨a1, rfl, rfl, rfl, w1⟩ := open_string Try.underlying9 (hval 1 9 v1 rfl rfl) h1
  clear hA0 hval0
  refine (walk a0 len0 cap0 z0 a1 W w0 w1).mono fun e W' ⟨he, bel⟩ => ?_
  subst he
  exact ⟨_, rfl, _, _, _, [], _, [], hW', trodAll_mk1 (shut_bool Try.underlying4 _), (trodAll_cons_mk (Below.trod laidOut (by kernel_rfl) (of_decide_eq_true (by kernel_rfl)) k0 bel lt0) (trodAll_cons_mk (shut_string Try.underlying9 w1) trodAll_mk0)), rfl, bel.frame _, fun h => by cases h⟩

theorem over : Rows.fnExactStarNamedRow.holds Try.pinned (OpenSpec.ofChange Rows.fnExactStarNamedSpec) :=
  OpenClaim.holds_of_wide 9 Try.f9 rfl rfl rfl rfl rfl rfl rfl ⟨rfl, rfl, rfl, rfl, rfl⟩ rfl rfl rfl rfl rfl (by kernel_rfl) Try.func9 (by kernel_rfl)
    (of_decide_eq_true (by kernel_rfl)) (by unfold Func.isWrapper; first | (rw [if_pos (by decide +kernel)]; kernel_rfl) | (rw [if_neg (by decide +kernel)]; exact ⟨rfl, rfl⟩))
    (fun os started H enc _ => lifted os started H enc)

theorem proved : Rows.FnExactStarNamedSaid := over
#print axioms proved
end Go.Proofs.Ytbiomhlbomanhaa.fnExactStarNamed
