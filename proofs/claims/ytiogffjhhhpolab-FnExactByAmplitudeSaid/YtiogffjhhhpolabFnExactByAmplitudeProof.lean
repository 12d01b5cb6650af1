/- FnExactByAmplitude: for every slice of stars (that hold no more than the law's bounds) the program's ByAmplitude (a map of groups, its greatest key taken again and again) answers as the model's, writes into no argument, and its answer owns its memory: it holds the law's marks through another call. -/
import Derived.Test.YtiogffjhhhpolabB1
import Derived.Test.YtiogffjhhhpolabS6
import Derived.Test.YtiogffjhhhpolabI4
import Derived.Test.YtiogffjhhhpolabA2
import Derived.Test.YtiogffjhhhpolabA4
import Derived.ChangeOld
import Derived.Lib.SmallJoins
namespace Go.Proofs.Ytiogffjhhhpolab.fnExactByAmplitude
open Go.ChangeShapes Go.WideShapes Go.ChangeAt Go.RowKit
open Go.ChangeMaps (open_string shut_string)
set_option linter.unusedVariables false

theorem own : ownKnob Try.prog.godebug = none := by kernel_rfl
theorem laidOut : laidOutB Try.prog = true := by kernel_rfl
theorem sumB {xs : List St} {l : Int} (h : ¬ l < totS xs) (hl : l ≤ 1048576) {n : Nat} (hn : xs.length = n) : n ≤ 1048576 := by have h1 := totS_nonneg xs; omega

theorem walk (a0 : Option Addr) (len0 cap0 : Nat) (z0 : List St) (w : World) (w0 : IsStars w a0 len0 cap0 z0) :
    Calls Try.prog 10 #[.slice a0 len0 cap0] w fun e w' => e = .returned (.bool true) ∧ Below w.heap.size w w' := by
  by_cases hbig : (1048576 : Int) < totS z0
  · have HZ := Lib.hid (szR_no hbig)
    go_enter Try.func10, Try.ntmps10
    go_wp2_with fail
    refine (szStarS_any _ _ _ z0 1048576 _ w0 (by omega) (by omega)).mono ?_
    rintro e w2 ⟨rfl, b2⟩
    rw [HZ.out]
    go_wp2
    go_ret
    exact ⟨rfl, b2⟩
  have HZ := Lib.hid (szR_yes hbig)
  have hn : len0 ≤ 1048576 := sumB hbig (by omega) w0.1.1
  have hn0 : ¬ (1048576 : Int) - totS z0 < 0 := by omega
  go_enter Try.func10, Try.ntmps10
  go_wp2_with fail
  refine (szStarS_any _ _ _ z0 1048576 _ w0 (by omega) (by omega)).mono ?_
  rintro e w2 ⟨rfl, b2⟩
  rw [HZ.out]
  go_wp2_with fail
  refine (toStarS_any _ _ _ z0 w2 (w0.1.mono b2) hn).mono ?_
  rintro e w3 ⟨g3, rfl, -, hr3, b3⟩
  have hs3 := StL.of_row w0.1.1 hr3
  go_wp2_with fail
  (refine (sByAmp_any _ _ _ z0 w3 hs3 hn).mono ?_)
  rintro e w4 ⟨hch4, b4⟩
  obtain ⟨aw, cw, rfl, hLw⟩ := hch4.opened
  have hLn := (selO_len (good := okS z0) (Nat.le_trans (Nat.le_of_eq (ampL_len z0 len0)) hn))
  have B4 : Below w.heap.size w w4 := belowCall (belowCall b2 b3) b4
  go_wp2_with fail
  refine (toStarS_any _ _ _ z0 w4 (w0.1.mono B4) hn).mono ?_
  rintro e w5 ⟨g5, rfl, hg5, hr5, b5⟩
  have hg5l := hr5.lt
  have hs5 := StL.of_row w0.1.1 hr5
  go_wp2_with fail
  (refine (iByAmp_any _ _ _ z0 w5 hs5 hn).mono ?_)
  rintro e w6 ⟨hch6, b6⟩
  obtain ⟨ag, cg, rfl, hMg⟩ := hch6.opened 1
  clear hch4 hch6
  have B6 : Below w.heap.size w w6 := belowCall (belowCall B4 b5) b6
  have hLw4 := hLw.toB
  have hLw6 := hLw4.below (belowCall b5 b6) (Nat.le_refl _)
  have z45 := b5.size
  have z56 := b6.size
  go_wp2_with fail
  refine (eqInt64S_any ag aw _ _ _ _ _ _ w6 hMg.lst (hLw6.toL (by omega)) hLn hLn).mono ?_
  rintro e w7 ⟨rfl, b7⟩
  rw [decide_eq_true (rfl : selO _ _ = selO _ _)]
  have z67 := b7.size
  have B7 : Below w.heap.size w w7 := belowCall B6 b7
  go_wp2_with fail
  refine (toStarS_any _ _ _ z0 w7 (w0.1.mono B7) hn).mono ?_
  rintro e w8 ⟨g8, rfl, -, hr8, b8⟩
  have z78 := b8.size
  have hs8 := StL.of_row w0.1.1 hr8
  go_wp2_with fail
  refine (eqStarS_self _ _ _ _ _ z0 w8 (((hs5.mono b6).mono b7).mono b8) hs8 hn).mono ?_
  rintro e w9 ⟨rfl, b9⟩
  have z89 := b9.size
  have hr9 := row_below (row_below (row_below (row_below hr5 b6) b7) b8) b9
  have hM9 := ((hMg.below b7).below b8).below b9
  have hLw9 := hLw4.below (belowCall (belowCall (belowCall (belowCall b5 b6) b7) b8) b9) (Nat.le_refl _)
  have B9 : Below w.heap.size w w9 := belowCall (belowCall B7 b8) b9
  go_wp2_with fail
  refine (markStarS_any g5 _ 1 _ _ w9 hr9 hn (by omega) (by omega)).mono ?_
  rintro e wa ⟨rfl, ba⟩
  have z9a := ba.size
  have hMa := hM9.far ba hg5l
  have hLwa := hLw9.grown ba (by omega) hg5
  have hka : ¬ ((1 + 5 * len0 : Nat) : Int) < 0 := by omega
  have za0 := B4.size
  have Ba : Below w.heap.size w wa := B9.grown ba B9.size (fun k e => by cases e; omega)
  go_wp2_with fail
  refine (eqInt64S_any ag aw _ _ _ _ _ _ wa hMa.lst (hLwa.toL (by omega)) hLn hLn).mono ?_
  rintro e wb ⟨rfl, bb⟩
  rw [decide_eq_true (rfl : selO _ _ = selO _ _)]
  have zab := bb.size
  have hMb := hMa.below bb
  go_wp2_with fail
  refine (markInt64S_o ag _ 1 _ _ _ wb wb (Below.refl _ _) hMb hLn (by omega) (by omega)).mono ?_
  rintro e wc ⟨rfl, hMc, bc⟩
  have zbc := bc.size
  have Bc : Below w.heap.size w wc := (belowCall Ba bb).trans (bc.mono (by omega))
  have hLwc := (hLwa.below bb (by omega)).below bc (by omega)
  go_wp2_with fail
  refine (heldInt64S_o ag _ 1 _ _ _ wc hMc hLn (by omega) (by omega)).mono ?_
  rintro e wd ⟨rfl, bd⟩
  have zcd := bd.size
  have hMd := hMc.below bd
  have hq0 : ¬ ((1 + (selO (okS z0) (ampL z0 len0)).length : Nat) : Int) < 0 := by omega
  have Bd : Below w.heap.size w wd := belowCall Bc bd
  go_wp2_with fail
  refine (toStarS_any _ _ _ z0 wd (w0.1.mono Bd) hn).mono ?_
  rintro e w12 ⟨g12, rfl, -, hr12, b12⟩
  have zde := b12.size
  have hs12 := StL.of_row w0.1.1 hr12
  go_wp2_with fail
  (refine (iByAmp_any _ _ _ z0 w12 hs12 hn).mono ?_)
  rintro e w13 ⟨hch13, b13⟩
  obtain ⟨ah, ch, rfl, hMh⟩ := hch13.opened 1
  clear hch13
  have hM13 := (hMd.below b12).below b13
  have zef := b13.size
  have hLw13 := ((hLwc.below bd (by omega)).below b12 (by omega)).below b13 (by omega)
  go_wp2_with fail
  refine (eqInt64S_any ah aw _ _ _ _ _ _ w13 hMh.lst (hLw13.toL (by omega)) hLn hLn).mono ?_
  rintro e w14 ⟨rfl, b14⟩
  rw [decide_eq_true (rfl : selO _ _ = selO _ _)]
  go_wp2_with fail
  refine (heldInt64S_o ag _ 1 _ _ _ w14 (hM13.below b14) hLn (by omega) (by omega)).mono ?_
  rintro e w15 ⟨rfl, b15⟩
  go_wp2_with fail
  go_ret
  exact ⟨rfl, belowCall (belowCall (belowCall (belowCall Bd b12) b13) b14) b15⟩

set_option maxRecDepth 100000 in
theorem lifted (os : Os) (started : os.Started) (H : Type) (enc : TypeId × Value → H) :
    ReturnsInHanded {} Try.checked os 10 .any (Rows.fnExactByAmplitudeSpec.pre6 enc Try.prog Try.f10 Rows.fnExactByAmplitudeRow.domain false) (Rows.fnExactByAmplitudeSpec.post enc Try.prog Try.f10 false true false false) := by
  refine returnsInHanded_of_change (C := Try.checked) own started (by kernel_rfl) Try.func10
    (ChangeSpec.witness6 (enc := enc) (C := Try.checked) false ⟨#[], #[.slice none 0 0], []⟩ 8 (by kernel_rfl) (by kernel_rfl) (by kernel_rfl) (by kernel_rfl)) ?_
  intro W base args ds gs before hval0 hW hcnd _
  have hval : ∀ (j : Nat) t v, Try.f10.params[j]? = some t → args[j]? = some v → Value.okWide Try.prog W .any base t v := hval0
  have hW' := hW
  obtain ⟨p, q, hA0, hV, rfl, hfz, hnd⟩ := hW
  have hA : DataW.TrodAll enc Try.prog W 0 (fun _ => true) true Try.f10.params.toList args.toList ds p := hA0
  rw [Try.params10] at hA hval
  obtain ⟨v0, vs0, d0, ds0, p0, q0, hargs, rfl, rfl, h0, r0⟩ := trodAll_cons hA
  obtain ⟨rfl, rfl, rfl⟩ := trodAll_nil r0
  obtain rfl : args = #[v0] := by cases args; simp_all
  obtain ⟨rfl, rfl⟩ := trodVars_none hV
  have k0 := h0
  have lt0 : ∀ x ∈ p0, x.block < W.heap.size := by obtain ⟨m, hm⟩ := k0; exact DataW.trod_lt m _ _ _ hm
  obtain ⟨a0, len0, cap0, rfl⟩ := okWide_slice Try.underlying51 (hval 0 51 v0 rfl rfl)
  obtain ⟨z0, w0⟩ : ∃ zs, IsStars W a0 len0 cap0 zs := by
    obtain ⟨fuel, hf⟩ := h0
    exact stars_of Try.underlying51 Try.underlying109 (by kernel_rfl) (show Try.prog.cellsOf 109 = 5 by kernel_rfl) Try.underlying9 Try.underlying2 Try.underlying2 Try.underlying2 Try.underlying2 (by simpa [Value.cells] using hf)
  clear hA0 hval0
  refine (walk a0 len0 cap0 z0 W w0).mono fun e W' ⟨he, bel⟩ => ?_
  subst he
  exact ⟨_, rfl, _, _, _, [], _, [], hW', trodAll_mk1 (shut_bool Try.underlying4 _), (trodAll_cons_mk (Below.trod laidOut (by kernel_rfl) (of_decide_eq_true (by kernel_rfl)) k0 bel lt0) trodAll_mk0), rfl, bel.frame _, fun h => by cases h⟩

theorem over : Rows.fnExactByAmplitudeRow.holds Try.pinned (OpenSpec.ofChange Rows.fnExactByAmplitudeSpec) :=
  OpenClaim.holds_of_wide 10 Try.f10 rfl rfl rfl rfl rfl rfl rfl ⟨rfl, rfl, rfl, rfl, rfl⟩ rfl rfl rfl rfl rfl (by kernel_rfl) Try.func10 (by kernel_rfl)
    (of_decide_eq_true (by kernel_rfl)) (by unfold Func.isWrapper; first | (rw [if_pos (by decide +kernel)]; kernel_rfl) | (rw [if_neg (by decide +kernel)]; exact ⟨rfl, rfl⟩))
    (fun os started H enc _ => lifted os started H enc)

theorem proved : Rows.FnExactByAmplitudeSaid := over
#print axioms proved
end Go.Proofs.Ytiogffjhhhpolab.fnExactByAmplitude
