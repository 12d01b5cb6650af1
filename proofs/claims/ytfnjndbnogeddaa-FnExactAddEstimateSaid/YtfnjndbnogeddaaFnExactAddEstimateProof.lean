/- FnExactAddEstimate: for every slice of estimates and every estimate (that hold no more than the law's bounds) the program's AddEstimate (slices.BinarySearchFunc, slices.Clone, slices.Insert) answers as the model's, writes into no argument, and its answer owns its memory: it holds the law's marks through another call. -/
import Derived.Test.YtfnjndbnogeddaaB1
import Derived.Test.YtfnjndbnogeddaaQA
import Derived.Test.YtfnjndbnogeddaaGR
import Derived.ChangeOld
import Derived.Lib.SmallJoins
namespace Go.Proofs.Ytfnjndbnogeddaa.fnExactAddEstimate
open Go.ChangeShapes Go.WideShapes Go.ChangeAt Go.RowKit
open Go.ChangeMaps (open_string shut_string)
set_option linter.unusedVariables false

theorem own : ownKnob Try.prog.godebug = none := by kernel_rfl
theorem laidOut : laidOutB Try.prog = true := by kernel_rfl
theorem EsRes.opened9 {B : Nat} {L : List Es} {v : Value} {w : World} {e : Ending} (h : EsRes B L v w e) (m : Nat) : ∃ a c, e = .returned (.tuple #[.slice a L.length c, v]) ∧ EsO B w a L.length 0 m L := by
  obtain ⟨a, c, h1, h2⟩ := h
  exact ⟨a, c, h1, h2 m⟩
set_option maxHeartbeats 8000000 in

theorem walk (a0 : Option Addr) (len0 cap0 : Nat) (z0 : List Es) (a1_0 : Int) (a1_1 : ByteArray) (a1_2 : ByteArray) (a1_3 : Int) (a1_4 : Bool) (w : World) (w0 : IsEs w a0 len0 cap0 z0) (w1_0 : (Lit.int .i64 a1_0).wf = true) (w1_1 : a1_1.size ≤ maxLen) (w1_2 : a1_2.size ≤ maxLen) (w1_3 : (Lit.int .i64 a1_3).wf = true) (w1_4 : a1_4 = a1_4) :
    Calls Try.prog 3 #[.slice a0 len0 cap0, .agg #[.int .i64 a1_0, .string a1_1, .string a1_2, .int .i64 a1_3, .bool a1_4]] w fun e w' => e = .returned (.bool true) ∧ Below w.heap.size w w' := by
  have hsw : w.heap.size < (w.alloc (.cells #[.int .i64 a1_0, .string a1_1, .string a1_2, .int .i64 a1_3, .bool a1_4] 24)).heap.size := by simp
  have hbx := EsC.fresh w 24 a1_0 a1_1 a1_2 a1_3 a1_4
  have BW : Below w.heap.size w (w.alloc (.cells #[.int .i64 a1_0, .string a1_1, .string a1_2, .int .i64 a1_3, .bool a1_4] 24)) := (Below.refl _ w).alloc (Nat.le_refl _) _
  have v0 := w0.mono BW
  by_cases hbig : (1048576 : Int) < totEs z0
  · have HZ := Lib.hid (szQ_no hbig)
    go_enter Try.func3, Try.ntmps3
    go_wp2_with fail
    refine (szEsS_any _ _ _ z0 1048576 _ v0 (by omega) (by omega)).mono ?_
    rintro e w2 ⟨rfl, b2⟩
    rw [HZ.out]
    go_wp2
    go_ret
    exact ⟨rfl, belowCall BW b2⟩
  have HZ := Lib.hid (szQ_yes hbig)
  have hn : len0 ≤ 1048576 := sizeEs hbig (by omega) w0.1.1
  have hn0 : ¬ (1048576 : Int) - totEs z0 < 0 := by omega
  have htp := totEs_nonneg z0
  have hz00 : 0 ≤ (1048576 : Int) - totEs z0 := by omega
  have hz01 : (1048576 : Int) - totEs z0 ≤ 1048576 := by omega
  by_cases hbig2 : (1048576 : Int) - totEs z0 < ((a1_1.size : Int) + (a1_2.size : Int))
  · have HS := Lib.hid (szQ_no hbig2)
    clear hbig hbig2 htp
    go_enter Try.func3, Try.ntmps3
    go_wp2_with fail
    refine (szEsS_any _ _ _ z0 1048576 _ v0 (by omega) (by omega)).mono ?_
    rintro e w2 ⟨rfl, b2⟩
    rw [HZ.out]
    obtain ⟨q2lt, q20, q21, q22, q23, q24⟩ := (hbx.mono b2).parts
    rw [Nat.zero_add] at q21 q22 q23 q24
    go_wp2_with fail
    refine (szEs_any _ _ _ _ _ _ _ w1_1 w1_2 hz00 hz01).mono ?_
    rintro e w2' ⟨rfl, b2'⟩
    rw [HS.out]
    go_wp2
    go_ret
    exact ⟨rfl, belowCall (belowCall BW b2) b2'⟩
  have HS := Lib.hid (szQ_yes hbig2)
  have hn2 : ¬ (1048576 : Int) - totEs z0 - ((a1_1.size : Int) + (a1_2.size : Int)) < 0 := by omega
  clear hbig hbig2 htp
  go_enter Try.func3, Try.ntmps3
  go_wp2_with fail
  refine (szEsS_any _ _ _ z0 1048576 _ v0 (by omega) (by omega)).mono ?_
  rintro e w2a ⟨rfl, b2a⟩
  rw [HZ.out]
  obtain ⟨q2lt, q20, q21, q22, q23, q24⟩ := (hbx.mono b2a).parts
  rw [Nat.zero_add] at q21 q22 q23 q24
  go_wp2_with fail
  refine (szEs_any _ _ _ _ _ _ _ w1_1 w1_2 hz00 hz01).mono ?_
  rintro e w2 ⟨rfl, b2b⟩
  rw [HS.out]
  have b2 := belowCall b2a b2b
  clear q2lt q20 q21 q22 q23 q24 b2a b2b
  have C2 := belowCall BW b2
  have hbx2 := hbx.mono b2
  have hv2 := v0.1.mono b2
  have hg2 : w.heap.size < w2.heap.size := Nat.lt_of_lt_of_le hsw b2.size
  clear hbx BW v0 b2 hsw
  obtain ⟨q2lt, q20, q21, q22, q23, q24⟩ := hbx2.parts
  rw [Nat.zero_add] at q21 q22 q23 q24
  go_wp2_with fail
  go_region_with (first | (go_at_call 9; refine (toEsS_any _ _ _ z0 _ (hv2.mono (Below.drew (Below.refl _ _))) hn).mono ?_; rintro e w3 ⟨g3, rfl, -, hr3, b3⟩; obtain ⟨_, q30, q31, q32, q33, q34⟩ := ((hbx2.mono (Below.drew (Below.refl _ _))).mono b3).parts; rw [Nat.zero_add] at q31 q32 q33 q34) | (go_at_call 10; refine (toEs_any _ _ _ _ _ _).mono ?_; rintro e w3b ⟨rfl, b3b⟩) | (go_at_call 8; refine (sAddE_any g3 0 len0 len0 z0 a1_0 a1_1 a1_2 a1_3 a1_4 w3b ((EsL.of_row w0.1.1 hr3).mono b3b) hn (Nat.le_refl _)).mono ?_; rintro e w4 ⟨hch4, b4⟩; obtain ⟨aw, cw, rfl, hLw⟩ := EsRes.opened9 hch4 1))
  all_goals
    have D4 : Below w2.heap.size w2 w4 := belowCall (belowCall (belowCall (Below.drew (Below.refl _ _)) b3) b3b) b4
    have B4 : Below w.heap.size w w4 := belowCall C2 D4
    have hLn : (aeL z0 (a1_0, a1_1, a1_2, a1_3, a1_4)).length ≤ 1048576 := ae_len
    go_wp2_with fail
    refine (toEsS_any _ _ _ z0 w4 (w0.1.mono B4) hn).mono ?_
    rintro e w5 ⟨g5, rfl, hg5, hr5, b5⟩
    have hg5l := hr5.lt
    have hs5 := EsL.of_row w0.1.1 hr5
    have D5 := belowCall D4 b5
    obtain ⟨q5lt, q50, q51, q52, q53, q54⟩ := (hbx2.mono D5).parts
    rw [Nat.zero_add] at q51 q52 q53 q54
    go_wp2_with fail
    refine (toEs_any _ _ _ _ _ _).mono ?_
    rintro e w5b ⟨rfl, b5b⟩
    have z5b := b5b.size
    replace hg5l : g5 < w5b.heap.size := by omega
    go_wp2_with fail
    refine (iAddE_any _ _ _ _ z0 a1_0 a1_1 a1_2 a1_3 a1_4 w5b (hs5.mono b5b) hn).mono ?_
    rintro e w6 ⟨hch6, b6'⟩
    have z6' := b6'.size
    have b6 := belowCall b5b b6'
    obtain ⟨ag, cg, rfl, hMg⟩ := EsRes.opened9 hch6 1
    clear hch4 hch6
    have B6 : Below w.heap.size w w6 := belowCall (belowCall B4 b5) b6
    have hLw4 := hLw.toL.toB
    have hLw6 := hLw4.below (belowCall b5 b6) (Nat.le_refl _)
    have z45 := b5.size
    have z56 := b6.size
    go_wp2_with fail
    refine (eqEsS_self ag aw _ _ _ (aeL z0 (a1_0, a1_1, a1_2, a1_3, a1_4)) w6 hMg.toL hLw6.toL hLn).mono ?_
    rintro e w7 ⟨rfl, b7⟩
    have z67 := b7.size
    have B7 : Below w.heap.size w w7 := belowCall B6 b7
    go_wp2_with fail
    refine (toEsS_any _ _ _ z0 w7 (w0.1.mono B7) hn).mono ?_
    rintro e w8 ⟨g8, rfl, -, hr8, b8⟩
    have z78 := b8.size
    have hs8 := EsL.of_row w0.1.1 hr8
    go_wp2_with fail
    refine (eqEsS_self _ _ _ _ _ z0 w8 (((hs5.mono b6).mono b7).mono b8) hs8 hn).mono ?_
    rintro e w9 ⟨rfl, b9⟩
    have z89 := b9.size
    have hr9 := rowB (rowB (rowB (rowB hr5 b6) b7) b8) b9
    have hM9 := ((hMg.below b7).below b8).below b9
    have hLw9 := hLw4.below (belowCall (belowCall (belowCall (belowCall b5 b6) b7) b8) b9) (Nat.le_refl _)
    have B9 : Below w.heap.size w w9 := belowCall (belowCall B7 b8) b9
    go_wp2_with fail
    refine (markEsS_f g5 _ 1 _ w9 (SMG.of_row hr9 (by intro j; simp [mfEs])) hn (by omega) (by omega)).mono ?_
    rintro e wa ⟨rfl, -, ba⟩
    have z9a := ba.size
    have hMa := hM9.far ba hg5l
    have hLwa := hLw9.grown ba hg5
    have hka : ¬ ((1 + 5 * len0 : Nat) : Int) < 0 := by omega
    have za0 := B4.size
    have Ba : Below w.heap.size w wa := B9.grown ba B9.size (fun k e => by cases e; omega)
    go_wp2_with fail
    refine (eqEsS_self ag aw _ _ _ (aeL z0 (a1_0, a1_1, a1_2, a1_3, a1_4)) wa hMa.toL hLwa.toL hLn).mono ?_
    rintro e wb ⟨rfl, bb⟩
    have zab := bb.size
    have hMb := hMa.below bb
    go_wp2_with fail
    refine (markEsS_o ag _ 1 _ _ _ wb wb (Below.refl _ _) (by omega) hMb hLn (by omega) (by omega)).mono ?_
    rintro e wc ⟨rfl, hMc, bc⟩
    have zbc := bc.size
    have Bc : Below w.heap.size w wc := (belowCall Ba bb).trans (bc.mono (by omega))
    have hLwc := (hLwa.below bb (by omega)).below bc (by omega)
    go_wp2_with fail
    refine (heldEsS_o ag _ 1 _ _ _ wc hMc hLn (by omega) (by omega)).mono ?_
    rintro e wd ⟨rfl, bd⟩
    have zcd := bd.size
    have hMd := hMc.below bd
    have hq0 : ¬ ((1 + 5 * (aeL z0 (a1_0, a1_1, a1_2, a1_3, a1_4)).length : Nat) : Int) < 0 := by omega
    have Bd : Below w.heap.size w wd := belowCall Bc bd
    have zd4 := D4.size
    have D9 := belowCall (belowCall (belowCall (belowCall D5 b6) b7) b8) b9
    have Da := D9.grown ba D9.size (fun k e => by cases e; omega)
    have Dc := (belowCall Da bb).trans (bc.mono (by omega))
    have Dd := hbx2.mono (belowCall Dc bd)
    obtain ⟨qdlt, qd0, qd1, qd2, qd3, qd4⟩ := Dd.parts
    rw [Nat.zero_add] at qd1 qd2 qd3 qd4
    go_wp2_with fail
    go_region_with (first | (go_at_call 9; refine (toEsS_any _ _ _ z0 _ (w0.1.mono (Below.drew Bd)) hn).mono ?_; rintro e w12 ⟨g12, rfl, -, hr12, b12⟩; obtain ⟨_, qe0, qe1, qe2, qe3, qe4⟩ := ((Dd.mono (Below.drew (Below.refl _ _))).mono b12).parts; rw [Nat.zero_add] at qe1 qe2 qe3 qe4) | (go_at_call 10; refine (toEs_any _ _ _ _ _ _).mono ?_; rintro e w12b ⟨rfl, b12b⟩) | (go_at_call 11; refine (iAddE_any _ _ _ _ z0 a1_0 a1_1 a1_2 a1_3 a1_4 w12b ((EsL.of_row w0.1.1 hr12).mono b12b) hn).mono ?_; rintro e w13 ⟨hch13, b13⟩; obtain ⟨ah, ch, rfl, hMh⟩ := EsRes.opened9 hch13 1))
    all_goals
      have zd2 : w4.heap.size ≤ wd.drew.heap.size := by show w4.heap.size ≤ wd.heap.size; omega
      have zde : wd.heap.size ≤ w12.heap.size := b12.size
      have zdf := b12b.size
      have hM13 := (((hMd.below (Below.drew (Below.refl _ _))).below b12).below b12b).below b13
      have zef := b13.size
      have hLw13 := ((((hLwc.below bd (by omega)).below (Below.drew (Below.refl _ _)) (by omega)).below b12 zd2).below b12b (by omega)).below b13 (by omega)
      go_wp2_with fail
      refine (eqEsS_self ah aw _ _ _ (aeL z0 (a1_0, a1_1, a1_2, a1_3, a1_4)) w13 hMh.toL hLw13.toL hLn).mono ?_
      rintro e w14 ⟨rfl, b14⟩
      go_wp2_with fail
      refine (heldEsS_o ag _ 1 _ _ _ w14 (hM13.below b14) hLn (by omega) (by omega)).mono ?_
      rintro e w15 ⟨rfl, b15⟩
      go_wp2_with fail
      go_ret
      exact ⟨rfl, belowCall (belowCall (belowCall (belowCall (belowCall (Below.drew Bd) b12) b12b) b13) b14) b15⟩

set_option maxRecDepth 100000 in
theorem lifted (os : Os) (started : os.Started) (H : Type) (enc : TypeId × Value → H) :
    ReturnsInHanded {} Try.checked os 3 .any (Rows.fnExactAddEstimateSpec.pre6 enc Try.prog Try.f3 Rows.fnExactAddEstimateRow.domain false) (Rows.fnExactAddEstimateSpec.post enc Try.prog Try.f3 false true false false) := by
  refine returnsInHanded_of_change (C := Try.checked) own started (by kernel_rfl) Try.func3
    (ChangeSpec.witness6 (enc := enc) (C := Try.checked) false ⟨#[], #[.slice none 0 0, .agg #[.int .i64 0, .string ByteArray.empty, .string ByteArray.empty, .int .i64 0, .bool false]], []⟩ 8 (by kernel_rfl) (by kernel_rfl) (by kernel_rfl) (by kernel_rfl)) ?_
  intro W base args ds gs before hval0 hW hcnd _
  have hval : ∀ (j : Nat) t v, Try.f3.params[j]? = some t → args[j]? = some v → Value.okWide Try.prog W .any base t v := hval0
  have hW' := hW
  obtain ⟨p, q, hA0, hV, rfl, hfz, hnd⟩ := hW
  have hA : DataW.TrodAll enc Try.prog W 0 (fun _ => true) true Try.f3.params.toList args.toList ds p := hA0
  rw [Try.params3] at hA hval
  obtain ⟨v0, vs0, d0, ds0, p0, q0, hargs, rfl, rfl, h0, r0⟩ := trodAll_cons hA
  obtain ⟨v1, vs1, d1, ds1, p1, q1, rfl, rfl, rfl, h1, r1⟩ := trodAll_cons r0
  obtain ⟨rfl, rfl, rfl⟩ := trodAll_nil r1
  obtain rfl : args = #[v0, v1] := by cases args; simp_all
  obtain ⟨rfl, rfl⟩ := trodVars_none hV
  have k0 := h0
  have lt0 : ∀ x ∈ p0, x.block < W.heap.size := by obtain ⟨m, hm⟩ := k0; exact DataW.trod_lt m _ _ _ hm
  obtain ⟨a0, len0, cap0, rfl⟩ := okWide_slice Try.underlying22 (hval 0 22 v0 rfl rfl)
  obtain ⟨z0, w0⟩ : ∃ zs, IsEs W a0 len0 cap0 zs := by
    obtain ⟨fuel, hf⟩ := h0
    exact ess_of Try.underlying22 Try.underlying24 (by kernel_rfl) (show Try.prog.cellsOf 24 = 5 by kernel_rfl) Try.underlying2 Try.underlying9 Try.underlying9 Try.underlying2 Try.underlying4 (by simpa [Value.cells] using hf)
  have k1 := h1
  have lt1 : ∀ x ∈ p1, x.block < W.heap.size := by obtain ⟨m, hm⟩ := k1; exact DataW.trod_lt m _ _ _ hm
  obtain ⟨a1_0, a1_1, a1_2, a1_3, a1_4, rfl, w1_0, w1_1, w1_2, w1_3, w1_4⟩ := open_es Try.underlying24 (by kernel_rfl) (show Try.prog.cellsOf 24 = 5 by kernel_rfl) Try.underlying2 Try.underlying9 Try.underlying9 Try.underlying2 Try.underlying4 (hval 1 24 v1 rfl rfl) h1
  clear hA0 hval0
  refine (walk a0 len0 cap0 z0 a1_0 a1_1 a1_2 a1_3 a1_4 W w0 w1_0 w1_1 w1_2 w1_3 w1_4).mono fun e W' ⟨he, bel⟩ => ?_
  subst he
  exact ⟨_, rfl, _, _, _, [], _, [], hW', trodAll_mk1 (shut_bool Try.underlying4 _), (trodAll_cons_mk (Below.trod laidOut (by kernel_rfl) (of_decide_eq_true (by kernel_rfl)) k0 bel lt0) (trodAll_cons_mk (Below.trod laidOut (by kernel_rfl) (of_decide_eq_true (by kernel_rfl)) k1 bel lt1) trodAll_mk0)), rfl, bel.frame _, fun h => by cases h⟩

theorem over : Rows.fnExactAddEstimateRow.holds Try.pinned (OpenSpec.ofChange Rows.fnExactAddEstimateSpec) :=
  OpenClaim.holds_of_wide 3 Try.f3 rfl rfl rfl rfl rfl rfl rfl ⟨rfl, rfl, rfl, rfl, rfl⟩ rfl rfl rfl rfl rfl (by kernel_rfl) Try.func3 (by kernel_rfl)
    (of_decide_eq_true (by kernel_rfl)) (by unfold Func.isWrapper; first | (rw [if_pos (by decide +kernel)]; kernel_rfl) | (rw [if_neg (by decide +kernel)]; exact ⟨rfl, rfl⟩))
    (fun os started H enc _ => lifted os started H enc)

theorem proved : Rows.FnExactAddEstimateSaid := over
#print axioms proved
end Go.Proofs.Ytfnjndbnogeddaa.fnExactAddEstimate
