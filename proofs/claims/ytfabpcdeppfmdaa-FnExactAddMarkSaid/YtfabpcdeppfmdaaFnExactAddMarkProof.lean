/- FnExactAddMark: for every slice of marks and every mark (that hold no more than the law's bound) the program's AddMark (slices.ContainsFunc with a bound method, slices.Clone, append) answers as the model's, writes into no argument, and its answer owns its memory: it holds the law's marks through another call. -/
import Derived.Test.YtfabpcdeppfmdaaB1
import Derived.Test.YtfabpcdeppfmdaaH4
import Derived.Test.YtfabpcdeppfmdaaGR
import Derived.ChangeOld
import Derived.Lib.SmallJoins
namespace Go.Proofs.Ytfabpcdeppfmdaa.fnExactAddMark
open Go.ChangeShapes Go.WideShapes Go.ChangeAt Go.RowKit
open Go.ChangeMaps (open_string shut_string)
set_option linter.unusedVariables false

theorem own : ownKnob Try.prog.godebug = none := by kernel_rfl
theorem laidOut : laidOutB Try.prog = true := by kernel_rfl
set_option maxHeartbeats 8000000 in

theorem walk (a0 : Option Addr) (len0 cap0 : Nat) (z0 : List Mk) (a1_0 : Int) (a1_1 : Int) (a1_2 : Int) (w : World) (w0 : IsMk w a0 len0 cap0 z0) (w1_0 : (Lit.int .i64 a1_0).wf = true) (w1_1 : (Lit.int .i64 a1_1).wf = true) (w1_2 : (Lit.int .i64 a1_2).wf = true) :
    Calls Try.prog 5 #[.slice a0 len0 cap0, .agg #[.int .i64 a1_0, .int .i64 a1_1, .int .i64 a1_2]] w fun e w' => e = .returned (.bool true) ∧ Below w.heap.size w w' := by
  have hsw : w.heap.size < (w.alloc (.cells #[.int .i64 a1_0, .int .i64 a1_1, .int .i64 a1_2] 31)).heap.size := by simp
  have hbx := MkC.fresh w 31 a1_0 a1_1 a1_2
  have BW : Below w.heap.size w (w.alloc (.cells #[.int .i64 a1_0, .int .i64 a1_1, .int .i64 a1_2] 31)) := (Below.refl _ w).alloc (Nat.le_refl _) _
  have v0 := w0.mono BW
  by_cases hbig : (1048576 : Int) < totMk z0
  · have HZ := Lib.hid (szQ_no hbig)
    go_enter Try.func5, Try.ntmps5
    go_wp2_with fail
    refine (szMkS_any _ _ _ z0 1048576 _ v0 (by omega) (by omega)).mono ?_
    rintro e w2 ⟨rfl, b2⟩
    rw [HZ.out]
    go_wp2
    go_ret
    exact ⟨rfl, belowCall BW b2⟩
  have HZ := Lib.hid (szQ_yes hbig)
  have hn : len0 ≤ 1048576 := sizeMk hbig (by omega) w0.1.1
  have hn0 : ¬ (1048576 : Int) - totMk z0 < 0 := by omega
  go_enter Try.func5, Try.ntmps5
  go_wp2_with fail
  refine (szMkS_any _ _ _ z0 1048576 _ v0 (by omega) (by omega)).mono ?_
  rintro e w2 ⟨rfl, b2⟩
  rw [HZ.out]
  have C2 := belowCall BW b2
  have hbx2 := hbx.mono b2
  have hv2 := v0.1.mono b2
  have hg2 : w.heap.size < w2.heap.size := Nat.lt_of_lt_of_le hsw b2.size
  clear hbx BW v0 b2 hsw
  obtain ⟨q2lt, q20, q21, q22⟩ := hbx2.parts
  rw [Nat.zero_add] at q21 q22
  go_wp2_with fail
  go_region_with (first | (go_at_call 12; refine (toMkS_any _ _ _ z0 _ (hv2.mono (Below.drew (Below.refl _ _))) hn).mono ?_; rintro e w3 ⟨g3, rfl, -, hr3, b3⟩; obtain ⟨_, q30, q31, q32⟩ := ((hbx2.mono (Below.drew (Below.refl _ _))).mono b3).parts; rw [Nat.zero_add] at q31 q32) | (go_at_call 18; refine (toMk_any _ _ _ _).mono ?_; rintro e w3b ⟨rfl, b3b⟩) | (go_at_call 17; refine (sAddMark_any ⟨g3, 0, none⟩ len0 len0 z0 a1_0 a1_1 a1_2 w3b ((MkL.of_row w0.1.1 hr3).mono b3b) hn).mono ?_; rintro e w4 ⟨⟨aw, cw, rfl, hLw0⟩, b4⟩; have hLw := hLw0 1))
  all_goals
    have D4 : Below w2.heap.size w2 w4 := belowCall (belowCall (belowCall (Below.drew (Below.refl _ _)) b3) b3b) b4
    have B4 : Below w.heap.size w w4 := belowCall C2 D4
    have hLn : (amL z0 (a1_0, a1_1, a1_2)).length ≤ 1048576 := amL_len _ _
    have hcc : ((amC z0 (a1_0, a1_1, a1_2)) != (amC z0 (a1_0, a1_1, a1_2))) = false := by simp
    go_wp2_with fail
    refine (toMkS_any _ _ _ z0 w4 (w0.1.mono B4) hn).mono ?_
    rintro e w5 ⟨g5, rfl, hg5, hr5, b5⟩
    have hg5l := hr5.lt
    have hs5 := MkL.of_row w0.1.1 hr5
    have D5 := belowCall D4 b5
    obtain ⟨q5lt, q50, q51, q52⟩ := (hbx2.mono D5).parts
    rw [Nat.zero_add] at q51 q52
    go_wp2_with fail
    refine (toMk_any _ _ _ _).mono ?_
    rintro e w5b ⟨rfl, b5b⟩
    have z5b := b5b.size
    replace hg5l : g5 < w5b.heap.size := by omega
    go_wp2_with fail
    refine (iAddMark_any _ _ _ z0 a1_0 a1_1 a1_2 w5b (hs5.mono b5b) hn (Nat.le_refl _)).mono ?_
    rintro e w6 ⟨⟨ag, cg, rfl, hMg0⟩, b6'⟩
    have z6' := b6'.size
    have b6 := belowCall b5b b6'
    have hMg := hMg0 1
    clear hMg0 hLw0
    have B6 : Below w.heap.size w w6 := belowCall (belowCall B4 b5) b6
    have hLw4 := hLw.toL.toB
    have hLw6 := hLw4.below (belowCall b5 b6) (Nat.le_refl _)
    have z45 := b5.size
    have z56 := b6.size
    go_wp2_with fail
    refine (eqMkS_self ag aw _ _ _ (amL z0 (a1_0, a1_1, a1_2)) w6 hMg.toL hLw6.toL hLn).mono ?_
    rintro e w7 ⟨rfl, b7⟩
    have z67 := b7.size
    have B7 : Below w.heap.size w w7 := belowCall B6 b7
    go_wp2_with fail
    refine (toMkS_any _ _ _ z0 w7 (w0.1.mono B7) hn).mono ?_
    rintro e w8 ⟨g8, rfl, -, hr8, b8⟩
    have z78 := b8.size
    have hs8 := MkL.of_row w0.1.1 hr8
    go_wp2_with fail
    refine (eqMkS_self _ _ _ _ _ z0 w8 (((hs5.mono b6).mono b7).mono b8) hs8 hn).mono ?_
    rintro e w9 ⟨rfl, b9⟩
    have z89 := b9.size
    have hr9 := rowB (rowB (rowB (rowB hr5 b6) b7) b8) b9
    have hM9 := ((hMg.below b7).below b8).below b9
    have hLw9 := hLw4.below (belowCall (belowCall (belowCall (belowCall b5 b6) b7) b8) b9) (Nat.le_refl _)
    have B9 : Below w.heap.size w w9 := belowCall (belowCall B7 b8) b9
    go_wp2_with fail
    refine (markMkS_f g5 _ 1 _ w9 (SMG.of_row hr9 (by intro j; simp [mfMk])) hn (by omega) (by omega)).mono ?_
    rintro e wa ⟨rfl, -, ba⟩
    have z9a := ba.size
    have hMa := hM9.far ba hg5l
    have hLwa := hLw9.grown ba hg5
    have hka : ¬ ((1 + 3 * len0 : Nat) : Int) < 0 := by omega
    have za0 := B4.size
    have Ba : Below w.heap.size w wa := B9.grown ba B9.size (fun k e => by cases e; omega)
    go_wp2_with fail
    refine (eqMkS_self ag aw _ _ _ (amL z0 (a1_0, a1_1, a1_2)) wa hMa.toL hLwa.toL hLn).mono ?_
    rintro e wb ⟨rfl, bb⟩
    have zab := bb.size
    have hMb := hMa.below bb
    go_wp2_with fail
    refine (markMkS_o ag _ 1 _ _ _ wb wb (Below.refl _ _) (by omega) hMb hLn (by omega) (by omega)).mono ?_
    rintro e wc ⟨rfl, hMc, bc⟩
    have zbc := bc.size
    have Bc : Below w.heap.size w wc := (belowCall Ba bb).trans (bc.mono (by omega))
    have hLwc := (hLwa.below bb (by omega)).below bc (by omega)
    go_wp2_with fail
    refine (heldMkS_o ag _ 1 _ _ _ wc hMc hLn (by omega) (by omega)).mono ?_
    rintro e wd ⟨rfl, bd⟩
    have zcd := bd.size
    have hMd := hMc.below bd
    have hq0 : ¬ ((1 + 3 * (amL z0 (a1_0, a1_1, a1_2)).length : Nat) : Int) < 0 := by omega
    have Bd : Below w.heap.size w wd := belowCall Bc bd
    have zd4 := D4.size
    have D9 := belowCall (belowCall (belowCall (belowCall D5 b6) b7) b8) b9
    have Da := D9.grown ba D9.size (fun k e => by cases e; omega)
    have Dc := (belowCall Da bb).trans (bc.mono (by omega))
    have Dd := hbx2.mono (belowCall Dc bd)
    obtain ⟨qdlt, qd0, qd1, qd2⟩ := Dd.parts
    rw [Nat.zero_add] at qd1 qd2
    go_wp2_with fail
    go_region_with (first | (go_at_call 12; refine (toMkS_any _ _ _ z0 _ (w0.1.mono (Below.drew Bd)) hn).mono ?_; rintro e w12 ⟨g12, rfl, -, hr12, b12⟩; obtain ⟨_, qe0, qe1, qe2⟩ := ((Dd.mono (Below.drew (Below.refl _ _))).mono b12).parts; rw [Nat.zero_add] at qe1 qe2) | (go_at_call 18; refine (toMk_any _ _ _ _).mono ?_; rintro e w12b ⟨rfl, b12b⟩) | (go_at_call 19; refine (iAddMark_any _ _ _ z0 a1_0 a1_1 a1_2 w12b ((MkL.of_row w0.1.1 hr12).mono b12b) hn (Nat.le_refl _)).mono ?_; rintro e w13 ⟨⟨ah, ch, rfl, hMh0⟩, b13⟩; have hMh := hMh0 1))
    all_goals
      have zd2 : w4.heap.size ≤ wd.drew.heap.size := by show w4.heap.size ≤ wd.heap.size; omega
      have zde : wd.heap.size ≤ w12.heap.size := b12.size
      have zdf := b12b.size
      have hM13 := (((hMd.below (Below.drew (Below.refl _ _))).below b12).below b12b).below b13
      have zef := b13.size
      have hLw13 := ((((hLwc.below bd (by omega)).below (Below.drew (Below.refl _ _)) (by omega)).below b12 zd2).below b12b (by omega)).below b13 (by omega)
      go_wp2_with fail
      refine (eqMkS_self ah aw _ _ _ (amL z0 (a1_0, a1_1, a1_2)) w13 hMh.toL hLw13.toL hLn).mono ?_
      rintro e w14 ⟨rfl, b14⟩
      go_wp2_with fail
      refine (heldMkS_o ag _ 1 _ _ _ w14 (hM13.below b14) hLn (by omega) (by omega)).mono ?_
      rintro e w15 ⟨rfl, b15⟩
      go_wp2_with fail
      go_ret
      exact ⟨rfl, belowCall (belowCall (belowCall (belowCall (belowCall (Below.drew Bd) b12) b12b) b13) b14) b15⟩

set_option maxRecDepth 100000 in
theorem lifted (os : Os) (started : os.Started) (H : Type) (enc : TypeId × Value → H) :
    ReturnsInHanded {} Try.checked os 5 .any (Rows.fnExactAddMarkSpec.pre6 enc Try.prog Try.f5 Rows.fnExactAddMarkRow.domain false) (Rows.fnExactAddMarkSpec.post enc Try.prog Try.f5 false true false false) := by
  refine returnsInHanded_of_change (C := Try.checked) own started (by kernel_rfl) Try.func5
    (ChangeSpec.witness6 (enc := enc) (C := Try.checked) false ⟨#[], #[.slice none 0 0, .agg #[.int .i64 0, .int .i64 0, .int .i64 0]], []⟩ 8 (by kernel_rfl) (by kernel_rfl) (by kernel_rfl) (by kernel_rfl)) ?_
  intro W base args ds gs before hval0 hW hcnd _
  have hval : ∀ (j : Nat) t v, Try.f5.params[j]? = some t → args[j]? = some v → Value.okWide Try.prog W .any base t v := hval0
  have hW' := hW
  obtain ⟨p, q, hA0, hV, rfl, hfz, hnd⟩ := hW
  have hA : DataW.TrodAll enc Try.prog W 0 (fun _ => true) true Try.f5.params.toList args.toList ds p := hA0
  rw [Try.params5] at hA hval
  obtain ⟨v0, vs0, d0, ds0, p0, q0, hargs, rfl, rfl, h0, r0⟩ := trodAll_cons hA
  obtain ⟨v1, vs1, d1, ds1, p1, q1, rfl, rfl, rfl, h1, r1⟩ := trodAll_cons r0
  obtain ⟨rfl, rfl, rfl⟩ := trodAll_nil r1
  obtain rfl : args = #[v0, v1] := by cases args; simp_all
  obtain ⟨rfl, rfl⟩ := trodVars_none hV
  have k0 := h0
  have lt0 : ∀ x ∈ p0, x.block < W.heap.size := by obtain ⟨m, hm⟩ := k0; exact DataW.trod_lt m _ _ _ hm
  obtain ⟨a0, len0, cap0, rfl⟩ := okWide_slice Try.underlying22 (hval 0 22 v0 rfl rfl)
  obtain ⟨z0, w0⟩ : ∃ zs, IsMk W a0 len0 cap0 zs := by
    obtain ⟨fuel, hf⟩ := h0
    exact mks_of Try.underlying22 Try.underlying31 (by kernel_rfl) (show Try.prog.cellsOf 31 = 3 by kernel_rfl) Try.underlying2 Try.underlying2 Try.underlying2 (by simpa [Value.cells] using hf)
  have k1 := h1
  have lt1 : ∀ x ∈ p1, x.block < W.heap.size := by obtain ⟨m, hm⟩ := k1; exact DataW.trod_lt m _ _ _ hm
  obtain ⟨c1_0, c1_1, c1_2, y1_0, y1_1, y1_2, mf1, rfl, hd1, hp1, g1_0, g1_1, g1_2⟩ := Go.Joins.open_agg3 Try.underlying31 (by kernel_rfl) (show Try.prog.cellsOf 31 = 3 by kernel_rfl) (hval 1 31 v1 rfl rfl) h1
  obtain ⟨a1_0, e1_0, _, w1_0⟩ := DataW.trod_int Try.underlying2 g1_0
  simp only [List.cons.injEq, and_true] at e1_0
  subst e1_0
  obtain ⟨a1_1, e1_1, _, w1_1⟩ := DataW.trod_int Try.underlying2 g1_1
  simp only [List.cons.injEq, and_true] at e1_1
  subst e1_1
  obtain ⟨a1_2, e1_2, _, w1_2⟩ := DataW.trod_int Try.underlying2 g1_2
  simp only [List.cons.injEq, and_true] at e1_2
  subst e1_2
  clear hA0 hval0
  refine (walk a0 len0 cap0 z0 a1_0 a1_1 a1_2 W w0 w1_0 w1_1 w1_2).mono fun e W' ⟨he, bel⟩ => ?_
  subst he
  exact ⟨_, rfl, _, _, _, [], _, [], hW', trodAll_mk1 (shut_bool Try.underlying4 _), (trodAll_cons_mk (Below.trod laidOut (by kernel_rfl) (of_decide_eq_true (by kernel_rfl)) k0 bel lt0) (trodAll_cons_mk (Below.trod laidOut (by kernel_rfl) (of_decide_eq_true (by kernel_rfl)) k1 bel lt1) trodAll_mk0)), rfl, bel.frame _, fun h => by cases h⟩

theorem over : Rows.fnExactAddMarkRow.holds Try.pinned (OpenSpec.ofChange Rows.fnExactAddMarkSpec) :=
  OpenClaim.holds_of_wide 5 Try.f5 rfl rfl rfl rfl rfl rfl rfl ⟨rfl, rfl, rfl, rfl, rfl⟩ rfl rfl rfl rfl rfl (by kernel_rfl) Try.func5 (by kernel_rfl)
    (of_decide_eq_true (by kernel_rfl)) (by unfold Func.isWrapper; first | (rw [if_pos (by decide +kernel)]; kernel_rfl) | (rw [if_neg (by decide +kernel)]; exact ⟨rfl, rfl⟩))
    (fun os started H enc _ => lifted os started H enc)

theorem proved : Rows.FnExactAddMarkSaid := over
#print axioms proved
end Go.Proofs.Ytfabpcdeppfmdaa.fnExactAddMark
