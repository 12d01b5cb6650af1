/- FnExactSplitWords: for every string the program's SplitWords (strings.FieldsFunc) is the model's (the parts between blanks that are not empty), and its slice is its own: it holds the law's marks through another call. -/
import Derived.Test.YtfebellnmdfpiaaB1
import Derived.Test.YtfebellnmdfpiaaR13
import Derived.Test.YtfebellnmdfpiaaR14
import Derived.ChangeOld
import Derived.Lib.SmallJoins
namespace Go.Proofs.Ytfebellnmdfpiaa.fnExactSplitWords
open Go.ChangeShapes Go.WideShapes Go.ChangeAt Go.RowKit
open Go.ChangeMaps (open_string shut_string)
set_option linter.unusedVariables false

theorem own : ownKnob Try.prog.godebug = none := by kernel_rfl
theorem laidOut : laidOutB Try.prog = true := by kernel_rfl

theorem walk (a0 : ByteArray) (w : World) (w0 : a0.size ≤ maxLen) :
    Calls Try.prog 9 #[.string a0] w fun e w' => e = .returned (.bool true) ∧ Below w.heap.size w w' := by
  by_cases hbig : (1048576 : Int) < (a0.size : Int)
  · go_enter Try.func9, Try.ntmps9
    go_wp2
    go_ret
    exact ⟨rfl, Below.refl _ _⟩
  have hdec : decide ((1048576 : Int) < (a0.size : Int)) = false := by simpa using hbig
  have hs : a0.size ≤ 1048576 := by omega
  clear hbig
  go_enter Try.func9, Try.ntmps9
  go_wp2_with fail
  refine (sSplitWords_any _ _ hs).mono ?_
  rintro e w1 ⟨g1, c1, qs, rfl, hq, hS1, b1⟩
  go_wp2_with fail
  refine (iSplitWords_any _ _ hs).mono ?_
  rintro e w2 ⟨g2, c2, ps, rfl, hp, hown, b2⟩
  obtain rfl : ps = qs := toL_inj (hp.trans hq.symm)
  have hlen : ps.length ≤ 1048577 := by
    have h1 := words_len a0.data.toList
    rw [← hp, List.length_map] at h1
    have h2 : a0.data.toList.length = a0.size := (Lib.size_eq a0).symm
    omega
  have hS2 := SAt.of_own hown
  have hMK : MK w2 g2 ps.length 0 1 := fun j hj => ⟨(hown.lt g2 rfl).2, ⟨_, (hS2 j hj).2, fun h => absurd h (by omega)⟩, hown.frozenAt j⟩
  have hbase : w1.heap.size ≤ g2 := (hown.lt g2 rfl).1
  have HP := Lib.hid hp
  clear hp hq hown hdec
  go_wp2_with fail
  refine (eqStringS_any g2 g1 c2 c1 _ _ ps ps w2 hS2 (hS1.mono b2) rfl rfl (by omega) (by omega)).mono ?_
  rintro e w3 ⟨rfl, b3⟩
  rw [show decide (ps = ps) = true by simp]
  go_wp2_with fail
  refine (markStringS_any g2 ps.length 1 c2 w1 w3 (belowCall b2 b3) hbase (hMK.below b3) (by omega) (by omega) (by omega)).mono ?_
  rintro e w4 ⟨rfl, hM4, b4⟩
  have hH : ∀ (W : World), MK W g2 ps.length ps.length 1 → ∀ j, j < ps.length → g2 < W.heap.size ∧ W.cell? ⟨g2, j, none⟩ = some (.string (mkB (1 + j))) := fun W hW j hj => by
    obtain ⟨h1, ⟨v, hc, hv⟩, _⟩ := hW j hj
    exact ⟨h1, by rw [hc, hv hj]⟩
  go_wp2_with fail
  refine (heldStringS_any g2 ps.length 1 c2 w4 (hH w4 hM4) (by omega) (by omega) (by omega)).mono ?_
  rintro e w5 ⟨rfl, b5⟩
  have hM5 := hM4.below b5
  have hq0 : ¬ (1 : Int) + (ps.length : Int) < 0 := by omega
  go_wp2_with fail
  refine (iSplitWords_any _ _ hs).mono ?_
  rintro e w6 ⟨g6, c6, rs, rfl, hr, hown6, b6⟩
  obtain rfl : rs = ps := toL_inj (hr.trans HP.out.symm)
  have hS6 := SAt.of_own hown6
  have hM6 := hM5.below b6
  have B6 : Below w1.heap.size w1 w6 := belowCall (belowCall b4 b5) b6
  clear hr hown6
  go_wp2_with fail
  refine (eqStringS_any g6 g1 c6 c1 _ _ rs rs w6 hS6 (hS1.mono B6) rfl rfl (by omega) (by omega)).mono ?_
  rintro e w7 ⟨rfl, b7⟩
  rw [show decide (rs = rs) = true by simp]
  have hM7 := hM6.below b7
  go_wp2_with fail
  refine (heldStringS_any g2 rs.length 1 c2 w7 (hH w7 hM7) (by omega) (by omega) (by omega)).mono ?_
  rintro e w8 ⟨rfl, b8⟩
  go_wp2_with fail
  go_ret
  exact ⟨rfl, belowCall b1 (belowCall (belowCall B6 b7) b8)⟩

set_option maxRecDepth 100000 in
theorem lifted (os : Os) (started : os.Started) (H : Type) (enc : TypeId × Value → H) :
    ReturnsInHanded {} Try.checked os 9 .any (Rows.fnExactSplitWordsSpec.pre6 enc Try.prog Try.f9 Rows.fnExactSplitWordsRow.domain false) (Rows.fnExactSplitWordsSpec.post enc Try.prog Try.f9 false true false false) := by
  refine returnsInHanded_of_change (C := Try.checked) own started (by kernel_rfl) Try.func9
    (ChangeSpec.witness6 (enc := enc) (C := Try.checked) false ⟨#[], #[.string ByteArray.empty], []⟩ 8 (by kernel_rfl) (by kernel_rfl) (by kernel_rfl) (by kernel_rfl)) ?_
  intro W base args ds gs before hval0 hW hcnd _
  have hval : ∀ (j : Nat) t v, Try.f9.params[j]? = some t → args[j]? = some v → Value.okWide Try.prog W .any base t v := hval0
  have hW' := hW
  obtain ⟨p, q, hA0, hV, rfl, hfz, hnd⟩ := hW
  have hA : DataW.TrodAll enc Try.prog W 0 (fun _ => true) true Try.f9.params.toList args.toList ds p := hA0
  rw [Try.params9] at hA hval
  obtain ⟨v0, vs0, d0, ds0, p0, q0, hargs, rfl, rfl, h0, r0⟩ := trodAll_cons hA
  obtain ⟨rfl, rfl, rfl⟩ := trodAll_nil r0
  obtain rfl : args = #[v0] := by cases args; simp_all
  obtain ⟨rfl, rfl⟩ := trodVars_none hV
  obtain ⟨a0, rfl, rfl, rfl, w0⟩ := open_string Try.underlying9 (hval 0 9 v0 rfl rfl) h0
  clear hA0 hval0
  refine (walk a0 W w0).mono fun e W' ⟨he, bel⟩ => ?_
  subst he
  exact ⟨_, rfl, _, _, _, [], _, [], hW', trodAll_mk1 (shut_bool Try.underlying4 _), (trodAll_cons_mk (shut_string Try.underlying9 w0) trodAll_mk0), rfl, bel.frame _, fun h => by cases h⟩

theorem over : Rows.fnExactSplitWordsRow.holds Try.pinned (OpenSpec.ofChange Rows.fnExactSplitWordsSpec) :=
  OpenClaim.holds_of_wide 9 Try.f9 rfl rfl rfl rfl rfl rfl rfl ⟨rfl, rfl, rfl, rfl, rfl⟩ rfl rfl rfl rfl rfl (by kernel_rfl) Try.func9 (by kernel_rfl)
    (of_decide_eq_true (by kernel_rfl)) (by unfold Func.isWrapper; first | (rw [if_pos (by decide +kernel)]; kernel_rfl) | (rw [if_neg (by decide +kernel)]; exact ⟨rfl, rfl⟩))
    (fun os started H enc _ => lifted os started H enc)

theorem proved : Rows.FnExactSplitWordsSaid := over
#print axioms proved
end Go.Proofs.Ytfebellnmdfpiaa.fnExactSplitWords
