/- FnExactInBox: for every slice of stars and every box (stars that hold no more than the law's bounds) the program's InBox (slices.Collect over an iterator and a method value) answers as the model's, writes into no argument, and its answer owns its memory: it holds the law's marks through another call. -/
import Derived.Test.YtiogffjhhhpolabB1
import Derived.Test.YtiogffjhhhpolabS6
import Derived.Test.YtiogffjhhhpolabS9
import Derived.Test.YtiogffjhhhpolabI4
import Derived.Test.YtiogffjhhhpolabI6
import Derived.ChangeOld
import Derived.Lib.SmallJoins
namespace Go.Proofs.Ytiogffjhhhpolab.fnExactInBox
open Go.ChangeShapes Go.WideShapes Go.ChangeAt Go.RowKit
open Go.ChangeMaps (open_string shut_string)
set_option linter.unusedVariables false

theorem own : ownKnob Try.prog.godebug = none := by kernel_rfl
theorem laidOut : laidOutB Try.prog = true := by kernel_rfl
theorem sumB {xs : List St} {l : Int} (h : ¬ l < totS xs) (hl : l ≤ 1048576) {n : Nat} (hn : xs.length = n) : n ≤ 1048576 := by have h1 := totS_nonneg xs; omega
theorem toBox_any (fa ta fd td : Int) (w : World) :
    Calls Try.prog 39 #[boxV fa ta fd td] w fun e w' => e = .returned (boxV fa ta fd td) ∧ Below w.heap.size w w' := by
  go_enter Try.func39, Try.ntmps39
  go_wp2
  exact bodyPost_ret (v := boxV fa ta fd td) (by simp [results, Try.results39, go_sem]) rfl ⟨rfl, by (repeat (first | assumption | exact Below.refl _ _ | refine belowDN ?_ _ | refine Below.drew ?_ | refine Below.setCell ?_ (by first | omega | (simp <;> omega)) _ | refine Below.alloc ?_ (by first | omega | (simp <;> omega)) _ | refine belowCall ?_ (by assumption)))⟩
set_option maxHeartbeats 4000000 in

theorem walk (a0 : Option Addr) (len0 cap0 : Nat) (z0 : List St) (a1_0 : Int) (a1_1 : Int) (a1_2 : Int) (a1_3 : Int) (w : World) (w0 : IsStars w a0 len0 cap0 z0) (w1_0 : (Lit.int .i64 a1_0).wf = true) (w1_1 : (Lit.int .i64 a1_1).wf = true) (w1_2 : (Lit.int .i64 a1_2).wf = true) (w1_3 : (Lit.int .i64 a1_3).wf = true) :
    Calls Try.prog 9 #[.slice a0 len0 cap0, .agg #[.int .i64 a1_0, .int .i64 a1_1, .int .i64 a1_2, .int .i64 a1_3]] w fun e w' => e = .returned (.bool true) ∧ Below w.heap.size w w' := by
  have hsw : w.heap.size < (w.alloc (.cells #[.int .i64 a1_0, .int .i64 a1_1, .int .i64 a1_2, .int .i64 a1_3] 53)).heap.size := by simp
  have hbx := BxC.fresh w 53 a1_0 a1_1 a1_2 a1_3
  have BW : Below w.heap.size w (w.alloc (.cells #[.int .i64 a1_0, .int .i64 a1_1, .int .i64 a1_2, .int .i64 a1_3] 53)) := (Below.refl _ w).alloc (Nat.le_refl _) _
  have v0 := w0.mono BW
  by_cases hbig : (1048576 : Int) < totS z0
  · have HZ := Lib.hid (szR_no hbig)
    go_enter Try.func9, Try.ntmps9
    go_wp2_with fail
    refine (szStarS_any _ _ _ z0 1048576 _ v0 (by omega) (by omega)).mono ?_
    rintro e w2 ⟨rfl, b2⟩
    rw [HZ.out]
    go_wp2
    go_ret
    exact ⟨rfl, belowCall BW b2⟩
  have HZ := Lib.hid (szR_yes hbig)
  have hn : len0 ≤ 1048576 := sumB hbig (by omega) w0.1.1
  have hn0 : ¬ (1048576 : Int) - totS z0 < 0 := by omega
  go_enter Try.func9, Try.ntmps9
  go_wp2_with fail
  refine (szStarS_any _ _ _ z0 1048576 _ v0 (by omega) (by omega)).mono ?_
  rintro e w2 ⟨rfl, b2⟩
  rw [HZ.out]
  have C2 := belowCall BW b2
  have hbx2 := hbx.mono b2
  have hv2 := v0.1.mono b2
  have hg2 : w.heap.size < w2.heap.size := Nat.lt_of_lt_of_le hsw b2.size
  clear hbx BW v0 b2 hsw
  obtain ⟨q2lt, q20, q21, q22, q23⟩ := id hbx2
  go_wp2_with fail
  go_region_with (first | (go_at_call 38; refine (toStarS_any _ _ _ z0 _ (hv2.mono (Below.drew (Below.refl _ _))) hn).mono ?_; rintro e w3 ⟨g3, rfl, -, hr3, b3⟩; obtain ⟨_, q30, q31, q32, q33⟩ := (hbx2.mono (Below.drew (Below.refl _ _))).mono b3) | (go_at_call 39; refine (toBox_any _ _ _ _ _).mono ?_; rintro e w3b ⟨rfl, b3b⟩) | (go_at_call 37; refine (sInBox_any _ _ _ z0 a1_0 a1_1 a1_2 a1_3 w3b ((StL.of_row w0.1.1 hr3).mono b3b) hn).mono ?_; rintro e w4 ⟨hch4, b4⟩; obtain ⟨aw, cw, rfl, hLw⟩ := hch4.opened))
  all_goals
    have D4 : Below w2.heap.size w2 w4 := belowCall (belowCall (belowCall (Below.drew (Below.refl _ _)) b3) b3b) b4
    have B4 : Below w.heap.size w w4 := belowCall C2 D4
    have hLn := (selO_len (good := okS z0 && boxOk a1_0 a1_1 a1_2 a1_3) (Nat.le_trans (selL_len (inP a1_0 a1_1 a1_2 a1_3) z0 len0) hn))
    go_wp2_with fail
    refine (toStarS_any _ _ _ z0 w4 (w0.1.mono B4) hn).mono ?_
    rintro e w5 ⟨g5, rfl, hg5, hr5, b5⟩
    have hg5l := hr5.lt
    have hs5 := StL.of_row w0.1.1 hr5
    have D5 := belowCall D4 b5
    obtain ⟨q5lt, q50, q51, q52, q53⟩ := hbx2.mono D5
    go_wp2_with fail
    refine (toBox_any _ _ _ _ _).mono ?_
    rintro e w5b ⟨rfl, b5b⟩
    have z5b := b5b.size
    replace hg5l : g5 < w5b.heap.size := by omega
    go_wp2_with fail
    refine (iInBox_any _ _ _ z0 a1_0 a1_1 a1_2 a1_3 w5b (hs5.mono b5b) hn).mono ?_
    rintro e w6 ⟨hch6, b6'⟩
    have z6' := b6'.size
    have b6 := belowCall b5b b6'
    obtain ⟨ag, cg, rfl, hMg⟩ := hch6.opened 1
    clear hch4 hch6
    have B6 : Below w.heap.size w w6 := belowCall (belowCall B4 b5) b6
    have hLw4 := hLw.toB
    have hLw6 := hLw4.below (belowCall b5 b6) (Nat.le_refl _)
    have z45 := b5.size
    have z56 := b6.size
    go_wp2_with fail
    refine (eqInt64S_any ag aw _ _ _ _ _ _ w6 hMg.lst (hLw6.toL (by omega)) hLn hLn).mono ?_
    rintro e w7 ⟨rfl, b7⟩
    rw [decide_eq_true (rfl : selO _ _ = selO _ _)]
    have z67 := b7.size
    have B7 : Below w.heap.size w w7 := belowCall B6 b7
    go_wp2_with fail
    refine (toStarS_any _ _ _ z0 w7 (w0.1.mono B7) hn).mono ?_
    rintro e w8 ⟨g8, rfl, -, hr8, b8⟩
    have z78 := b8.size
    have hs8 := StL.of_row w0.1.1 hr8
    go_wp2_with fail
    refine (eqStarS_self _ _ _ _ _ z0 w8 (((hs5.mono b6).mono b7).mono b8) hs8 hn).mono ?_
    rintro e w9 ⟨rfl, b9⟩
    have z89 := b9.size
    have hr9 := row_below (row_below (row_below (row_below hr5 b6) b7) b8) b9
    have hM9 := ((hMg.below b7).below b8).below b9
    have hLw9 := hLw4.below (belowCall (belowCall (belowCall (belowCall b5 b6) b7) b8) b9) (Nat.le_refl _)
    have B9 : Below w.heap.size w w9 := belowCall (belowCall B7 b8) b9
    go_wp2_with fail
    refine (markStarS_any g5 _ 1 _ _ w9 hr9 hn (by omega) (by omega)).mono ?_
    rintro e wa ⟨rfl, ba⟩
    have z9a := ba.size
    have hMa := hM9.far ba hg5l
    have hLwa := hLw9.grown ba (by omega) hg5
    have hka : ¬ ((1 + 5 * len0 : Nat) : Int) < 0 := by omega
    have za0 := B4.size
    have Ba : Below w.heap.size w wa := B9.grown ba B9.size (fun k e => by cases e; omega)
    go_wp2_with fail
    refine (eqInt64S_any ag aw _ _ _ _ _ _ wa hMa.lst (hLwa.toL (by omega)) hLn hLn).mono ?_
    rintro e wb ⟨rfl, bb⟩
    rw [decide_eq_true (rfl : selO _ _ = selO _ _)]
    have zab := bb.size
    have hMb := hMa.below bb
    go_wp2_with fail
    refine (markInt64S_o ag _ 1 _ _ _ wb wb (Below.refl _ _) hMb hLn (by omega) (by omega)).mono ?_
    rintro e wc ⟨rfl, hMc, bc⟩
    have zbc := bc.size
    have Bc : Below w.heap.size w wc := (belowCall Ba bb).trans (bc.mono (by omega))
    have hLwc := (hLwa.below bb (by omega)).below bc (by omega)
    go_wp2_with fail
    refine (heldInt64S_o ag _ 1 _ _ _ wc hMc hLn (by omega) (by omega)).mono ?_
    rintro e wd ⟨rfl, bd⟩
    have zcd := bd.size
    have hMd := hMc.below bd
    have hq0 : ¬ ((1 + (selO (okS z0 && boxOk a1_0 a1_1 a1_2 a1_3) (selL (inP a1_0 a1_1 a1_2 a1_3) z0 len0)).length : Nat) : Int) < 0 := by omega
    have Bd : Below w.heap.size w wd := belowCall Bc bd
    have zd4 := D4.size
    have D9 := belowCall (belowCall (belowCall (belowCall D5 b6) b7) b8) b9
    have Da := D9.grown ba D9.size (fun k e => by cases e; omega)
    have Dc := (belowCall Da bb).trans (bc.mono (by omega))
    have Dd := hbx2.mono (belowCall Dc bd)
    obtain ⟨qdlt, qd0, qd1, qd2, qd3⟩ := id Dd
    go_wp2_with fail
    go_region_with (first | (go_at_call 38; refine (toStarS_any _ _ _ z0 _ (w0.1.mono (Below.drew Bd)) hn).mono ?_; rintro e w12 ⟨g12, rfl, -, hr12, b12⟩; obtain ⟨_, qe0, qe1, qe2, qe3⟩ := (Dd.mono (Below.drew (Below.refl _ _))).mono b12) | (go_at_call 39; refine (toBox_any _ _ _ _ _).mono ?_; rintro e w12b ⟨rfl, b12b⟩) | (go_at_call 40; refine (iInBox_any _ _ _ z0 a1_0 a1_1 a1_2 a1_3 w12b ((StL.of_row w0.1.1 hr12).mono b12b) hn).mono ?_; rintro e w13 ⟨hch13, b13⟩; obtain ⟨ah, ch, rfl, hMh⟩ := hch13.opened 1))
    all_goals
      have zd2 : w4.heap.size ≤ wd.drew.heap.size := by show w4.heap.size ≤ wd.heap.size; omega
      have zde : wd.heap.size ≤ w12.heap.size := b12.size
      have zdf := b12b.size
      have hM13 := (((hMd.below (Below.drew (Below.refl _ _))).below b12).below b12b).below b13
      have zef := b13.size
      have hLw13 := ((((hLwc.below bd (by omega)).below (Below.drew (Below.refl _ _)) (by omega)).below b12 zd2).below b12b (by omega)).below b13 (by omega)
      go_wp2_with fail
      refine (eqInt64S_any ah aw _ _ _ _ _ _ w13 hMh.lst (hLw13.toL (by omega)) hLn hLn).mono ?_
      rintro e w14 ⟨rfl, b14⟩
      rw [decide_eq_true (rfl : selO _ _ = selO _ _)]
      go_wp2_with fail
      refine (heldInt64S_o ag _ 1 _ _ _ w14 (hM13.below b14) hLn (by omega) (by omega)).mono ?_
      rintro e w15 ⟨rfl, b15⟩
      go_wp2_with fail
      go_ret
      exact ⟨rfl, belowCall (belowCall (belowCall (belowCall (belowCall (Below.drew Bd) b12) b12b) b13) b14) b15⟩

set_option maxRecDepth 100000 in
theorem lifted (os : Os) (started : os.Started) (H : Type) (enc : TypeId × Value → H) :
    ReturnsInHanded {} Try.checked os 9 .any (Rows.fnExactInBoxSpec.pre6 enc Try.prog Try.f9 Rows.fnExactInBoxRow.domain false) (Rows.fnExactInBoxSpec.post enc Try.prog Try.f9 false true false false) := by
  refine returnsInHanded_of_change (C := Try.checked) own started (by kernel_rfl) Try.func9
    (ChangeSpec.witness6 (enc := enc) (C := Try.checked) false ⟨#[], #[.slice none 0 0, .agg #[.int .i64 0, .int .i64 0, .int .i64 0, .int .i64 0]], []⟩ 8 (by kernel_rfl) (by kernel_rfl) (by kernel_rfl) (by kernel_rfl)) ?_
  intro W base args ds gs before hval0 hW hcnd _
  have hval : ∀ (j : Nat) t v, Try.f9.params[j]? = some t → args[j]? = some v → Value.okWide Try.prog W .any base t v := hval0
  have hW' := hW
  obtain ⟨p, q, hA0, hV, rfl, hfz, hnd⟩ := hW
  have hA : DataW.TrodAll enc Try.prog W 0 (fun _ => true) true Try.f9.params.toList args.toList ds p := hA0
  rw [Try.params9] at hA hval
  obtain ⟨v0, vs0, d0, ds0, p0, q0, hargs, rfl, rfl, h0, r0⟩ := trodAll_cons hA
  obtain ⟨v1, vs1, d1, ds1, p1, q1, rfl, rfl, rfl, h1, r1⟩ := trodAll_cons r0
  obtain ⟨rfl, rfl, rfl⟩ := trodAll_nil r1
  obtain rfl : args = #[v0, v1] := by cases args; simp_all
  obtain ⟨rfl, rfl⟩ := trodVars_none hV
  have k0 := h0
  have lt0 : ∀ x ∈ p0, x.block < W.heap.size := by obtain ⟨m, hm⟩ := k0; exact DataW.trod_lt m _ _ _ hm
  obtain ⟨a0, len0, cap0, rfl⟩ := okWide_slice Try.underlying51 (hval 0 51 v0 rfl rfl)
  obtain ⟨z0, w0⟩ : ∃ zs, IsStars W a0 len0 cap0 zs := by
    obtain ⟨fuel, hf⟩ := h0
    exact stars_of Try.underlying51 Try.underlying109 (by kernel_rfl) (show Try.prog.cellsOf 109 = 5 by kernel_rfl) Try.underlying9 Try.underlying2 Try.underlying2 Try.underlying2 Try.underlying2 (by simpa [Value.cells] using hf)
  have k1 := h1
  have lt1 : ∀ x ∈ p1, x.block < W.heap.size := by obtain ⟨m, hm⟩ := k1; exact DataW.trod_lt m _ _ _ hm
  obtain ⟨c1_0, c1_1, c1_2, c1_3, y1_0, y1_1, y1_2, y1_3, mf1, rfl, hd1, hp1, g1_0, g1_1, g1_2, g1_3⟩ := Go.Joins.open_agg4 Try.underlying53 (by kernel_rfl) (show Try.prog.cellsOf 53 = 4 by kernel_rfl) (hval 1 53 v1 rfl rfl) h1
  obtain ⟨a1_0, e1_0, _, w1_0⟩ := DataW.trod_int Try.underlying2 g1_0
  simp only [List.cons.injEq, and_true] at e1_0
  subst e1_0
  obtain ⟨a1_1, e1_1, _, w1_1⟩ := DataW.trod_int Try.underlying2 g1_1
  simp only [List.cons.injEq, and_true] at e1_1
  subst e1_1
  obtain ⟨a1_2, e1_2, _, w1_2⟩ := DataW.trod_int Try.underlying2 g1_2
  simp only [List.cons.injEq, and_true] at e1_2
  subst e1_2
  obtain ⟨a1_3, e1_3, _, w1_3⟩ := DataW.trod_int Try.underlying2 g1_3
  simp only [List.cons.injEq, and_true] at e1_3
  subst e1_3
  clear hA0 hval0
  refine (walk a0 len0 cap0 z0 a1_0 a1_1 a1_2 a1_3 W w0 w1_0 w1_1 w1_2 w1_3).mono fun e W' ⟨he, bel⟩ => ?_
  subst he
  exact ⟨_, rfl, _, _, _, [], _, [], hW', trodAll_mk1 (shut_bool Try.underlying4 _), (trodAll_cons_mk (Below.trod laidOut (by kernel_rfl) (of_decide_eq_true (by kernel_rfl)) k0 bel lt0) (trodAll_cons_mk (Below.trod laidOut (by kernel_rfl) (of_decide_eq_true (by kernel_rfl)) k1 bel lt1) trodAll_mk0)), rfl, bel.frame _, fun h => by cases h⟩

theorem over : Rows.fnExactInBoxRow.holds Try.pinned (OpenSpec.ofChange Rows.fnExactInBoxSpec) :=
  OpenClaim.holds_of_wide 9 Try.f9 rfl rfl rfl rfl rfl rfl rfl ⟨rfl, rfl, rfl, rfl, rfl⟩ rfl rfl rfl rfl rfl (by kernel_rfl) Try.func9 (by kernel_rfl)
    (of_decide_eq_true (by kernel_rfl)) (by unfold Func.isWrapper; first | (rw [if_pos (by decide +kernel)]; kernel_rfl) | (rw [if_neg (by decide +kernel)]; exact ⟨rfl, rfl⟩))
    (fun os started H enc _ => lifted os started H enc)

theorem proved : Rows.FnExactInBoxSaid := over
#print axioms proved
end Go.Proofs.Ytiogffjhhhpolab.fnExactInBox
