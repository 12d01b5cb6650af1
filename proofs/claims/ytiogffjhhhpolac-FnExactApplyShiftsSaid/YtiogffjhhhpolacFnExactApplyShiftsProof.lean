/- FnExactApplyShifts: for every slice of observers and every slice of numbers (that hold no more than the law's bounds) the program's ApplyShifts (slices.Clone, then stores) answers as the model's, writes into no argument, and its answer owns its memory: it holds the law's marks through another call. -/
import Derived.Test.YtiogffjhhhpolacB1
import Derived.Test.YtiogffjhhhpolacU3
import Derived.Test.YtiogffjhhhpolacGI
import Derived.Test.YtiogffjhhhpolacGR
import Derived.ChangeOld
import Derived.Lib.SmallJoins
namespace Go.Proofs.Ytiogffjhhhpolac.fnExactApplyShifts
open Go.ChangeShapes Go.WideShapes Go.ChangeAt Go.RowKit
open Go.ChangeMaps (open_string shut_string)
set_option linter.unusedVariables false

theorem own : ownKnob Try.prog.godebug = none := by kernel_rfl
theorem laidOut : laidOutB Try.prog = true := by kernel_rfl
theorem rowL {w : World} {a : Option Addr} {n c : Nat} {z : List Int} (h : IsRow .i64 w a n c z) : Lst w a n (z.take n) := Lst.of_row h
set_option maxHeartbeats 8000000 in

theorem walk (a0 : Option Addr) (len0 cap0 : Nat) (z0 : List Ob) (a1 : Option Addr) (len1 cap1 : Nat) (z1 : List Int) (w : World) (w0 : IsOb w a0 len0 cap0 z0) (w1 : IsRow .i64 w a1 len1 cap1 z1) :
    Calls Try.prog 3 #[.slice a0 len0 cap0, .slice a1 len1 cap1] w fun e w' => e = .returned (.bool true) ∧ Below w.heap.size w w' := by
  have hz1 := rowL w1
  generalize z1.take len1 = zs at hz1
  clear w1
  by_cases hlong : (1048576 : Int) < (len1 : Int)
  · go_enter Try.func3, Try.ntmps3
    go_wp2
    go_ret
    exact ⟨rfl, Below.refl _ _⟩
  have hn1 : len1 ≤ 1048576 := by omega
  have hdec : decide ((1048576 : Int) < (len1 : Int)) = false := by simpa using hlong
  clear hlong
  by_cases hbig : (1048576 : Int) < totOb z0
  · have HZ := Lib.hid (szQ_no hbig)
    go_enter Try.func3, Try.ntmps3
    go_wp2_with fail
    refine (szObS_any _ _ _ z0 1048576 _ w0 (by omega) (by omega)).mono ?_
    rintro e w2 ⟨rfl, b2⟩
    rw [HZ.out]
    go_wp2
    go_ret
    exact ⟨rfl, b2⟩
  have HZ := Lib.hid (szQ_yes hbig)
  have hn : len0 ≤ 1048576 := sizeOb hbig (by omega) w0.1.1
  have hn0 : ¬ (1048576 : Int) - totOb z0 < 0 := by omega
  obtain ⟨L, hL⟩ : ∃ L, L = (if apC z0 zs = 0 then apL z0 zs else []) := ⟨_, rfl⟩
  have hLn : L.length ≤ 1048576 := by
    rw [hL]
    split
    · rw [apL, List.length_zipWith]; have := w0.1.1; omega
    · simp
  have HL := Lib.hid hL
  clear hL
  obtain ⟨code, hcode⟩ : ∃ k, apC z0 zs = k := ⟨_, rfl⟩
  have HK := Lib.hid hcode
  clear hcode
  have hneq : (code != code) = false := by simp
  go_enter Try.func3, Try.ntmps3
  go_wp2_with fail
  refine (szObS_any _ _ _ z0 1048576 _ w0 (by omega) (by omega)).mono ?_
  rintro e w2 ⟨rfl, b2⟩
  rw [HZ.out]
  go_wp2_with fail
  refine (toObS_any _ _ _ z0 w2 (w0.1.mono b2) hn).mono ?_
  rintro e w3 ⟨g3, rfl, -, hr3, b3⟩
  have B3 := belowCall b2 b3
  go_wp2_with fail
  refine (toIntO_any _ _ _ zs w3 (hz1.mono B3) hn1).mono ?_
  rintro e w4 ⟨g4, rfl, hi4, b4⟩
  have B4 := belowCall B3 b4
  go_wp2_with fail
  refine (sApply_any _ _ _ _ _ _ z0 zs w4 ((ObL.of_row w0.1.1 hr3).mono b4) (Lst.of_own hi4) hn hn1).mono ?_
  rintro e w5 ⟨hA5, b5⟩
  obtain ⟨L', aw, cw, hL', rfl, hLw⟩ := hA5.opened (m := 1)
  obtain rfl : L = L' := HL.out.trans hL'.symm
  rw [HK.out]
  clear hA5 hL'
  have B5 := belowCall B4 b5
  have hLw5 := hLw.toL.toB
  go_wp2_with fail
  refine (toObS_any _ _ _ z0 w5 (w0.1.mono B5) hn).mono ?_
  rintro e w6 ⟨g6, rfl, hg6, hr6, b6⟩
  have B6 := belowCall B5 b6
  go_wp2_with fail
  refine (toIntO_any _ _ _ zs w6 (hz1.mono B6) hn1).mono ?_
  rintro e w7 ⟨g7, rfl, hi7, b7⟩
  have B7 := belowCall B6 b7
  have hr7 := rowB hr6 b7
  have hg7 := (hi7.lt g7 rfl).1
  have hg7l := (hi7.lt g7 rfl).2
  have hg6l := hr6.lt
  go_wp2_with fail
  refine (iApply_any _ _ _ _ _ _ z0 zs w7 (ObL.of_row w0.1.1 hr7) (Lst.of_own hi7) hn hn1).mono ?_
  rintro e w8 ⟨hA8, b8⟩
  obtain ⟨L', ag, cg, hL', rfl, hMg⟩ := hA8.opened (m := 1)
  obtain rfl : L = L' := HL.out.trans hL'.symm
  rw [HK.out]
  clear hA8 hL'
  have B8 := belowCall B7 b8
  have z5 := b5.size
  have z6 := b6.size
  have z7 := b7.size
  have z8 := b8.size
  have b58 := belowCall (belowCall b6 b7) b8
  have hLw8 := hLw5.below b58 (Nat.le_refl _)
  have hr8 := rowB hr7 b8
  have hi8 := (SMG.of_ints (m := 1 + 2 * len0) hi7).below b8
  have hL8 := (Lst.of_own hi7).mono b8
  go_wp2_with fail
  refine (eqObS_self ag aw _ _ _ L w8 hMg.toL hLw8.toL hLn).mono ?_
  rintro e w9 ⟨rfl, b9⟩
  have z9 := b9.size
  have B9 := belowCall B8 b9
  go_wp2_with fail
  refine (toObS_any _ _ _ z0 w9 (w0.1.mono B9) hn).mono ?_
  rintro e wa ⟨ga, rfl, -, hra, ba⟩
  have za := ba.size
  have Ba := belowCall B9 ba
  go_wp2_with fail
  refine (eqObS_self _ _ _ _ _ z0 wa (((ObL.of_row w0.1.1 hr8).mono b9).mono ba) (ObL.of_row w0.1.1 hra) hn).mono ?_
  rintro e wb ⟨rfl, bb⟩
  have zb := bb.size
  have Bb := belowCall Ba bb
  go_wp2_with fail
  refine (toIntO_any _ _ _ zs wb (hz1.mono Bb) hn1).mono ?_
  rintro e wc ⟨gc, rfl, hic, bc⟩
  have zc := bc.size
  have Bc := belowCall Bb bc
  have b8c := belowCall (belowCall (belowCall b9 ba) bb) bc
  go_wp2_with fail
  refine (eqI_self _ _ _ _ _ zs wc (hL8.mono b8c) (Lst.of_own hic) hn1).mono ?_
  rintro e wd ⟨rfl, bd⟩
  have zd := bd.size
  have Bd := belowCall Bc bd
  have b8d := belowCall b8c bd
  have hrd := rowB hr8 b8d
  have hid := hi8.below b8d
  have hMd := hMg.below b8d
  have hLwd := hLw8.below b8d (by omega)
  go_wp2_with fail
  refine (markObS_f g6 _ 1 _ wd (SMG.of_row hrd (by intro j; simp [mfOb])) hn (by omega) (by omega)).mono ?_
  rintro e we ⟨rfl, -, he⟩
  have ze := he.size
  have hie := hid.far he (by omega)
  have hMe := hMd.far he (by omega)
  have hLwe := hLwd.grown he hg6
  have Be : Below w.heap.size w we := Bd.grown he Bd.size (fun k e => by cases e; have := B5.size; omega)
  go_wp2_with fail
  refine (markI_f g7 _ (1 + 2 * len0) _ we hie hn1 (by omega) (by omega)).mono ?_
  rintro e wf ⟨rfl, -, hf⟩
  have zf := hf.size
  have hMf := hMe.far hf (by omega)
  have hLwf := hLwe.grown hf (by omega)
  have Bf : Below w.heap.size w wf := Be.grown hf Be.size (fun k e => by cases e; have := B5.size; omega)
  have hkf : ¬ ((1 + 2 * len0 + len1 : Nat) : Int) < 0 := by omega
  go_wp2_with fail
  refine (eqObS_self ag aw _ _ _ L wf hMf.toL hLwf.toL hLn).mono ?_
  rintro e wg ⟨rfl, bg⟩
  have zg := bg.size
  have hMg' := hMf.below bg
  have hLwg := hLwf.below bg (by omega)
  have Bg := belowCall Bf bg
  go_wp2_with fail
  refine (markObS_o ag _ 1 _ _ _ wg wg (Below.refl _ _) (by omega) hMg' hLn (by omega) (by omega)).mono ?_
  rintro e wh ⟨rfl, hMh, bh⟩
  have zh := bh.size
  have Bh : Below w.heap.size w wh := Bg.trans (bh.mono (by have := B7.size; omega))
  have hLwh := hLwg.below bh (by omega)
  go_wp2_with fail
  refine (heldObS_o ag _ 1 _ _ _ wh hMh hLn (by omega) (by omega)).mono ?_
  rintro e wi ⟨rfl, bi⟩
  have zi := bi.size
  have hMi := hMh.below bi
  have hLwi := hLwh.below bi (by omega)
  have hq0 : ¬ ((1 + 2 * L.length : Nat) : Int) < 0 := by omega
  have Bi := belowCall Bh bi
  go_wp2_with fail
  refine (toObS_any _ _ _ z0 wi (w0.1.mono Bi) hn).mono ?_
  rintro e wj ⟨gj, rfl, -, hrj, bj⟩
  have Bj := belowCall Bi bj
  go_wp2_with fail
  refine (toIntO_any _ _ _ zs wj (hz1.mono Bj) hn1).mono ?_
  rintro e wk ⟨gk, rfl, hik, bk⟩
  have Bk := belowCall Bj bk
  have hrk := rowB hrj bk
  go_wp2_with fail
  refine (iApply_any _ _ _ _ _ _ z0 zs wk (ObL.of_row w0.1.1 hrk) (Lst.of_own hik) hn hn1).mono ?_
  rintro e wl ⟨hAl, bl⟩
  obtain ⟨L', ah, ch, hL', rfl, hMl⟩ := hAl.opened (m := 1)
  obtain rfl : L = L' := HL.out.trans hL'.symm
  rw [HK.out]
  clear hAl hL'
  have zj := bj.size
  have zk := bk.size
  have zl := bl.size
  have bil := belowCall (belowCall bj bk) bl
  have hMl' := hMi.below bil
  have hLwl := hLwi.below bil (by omega)
  have Bl := belowCall Bk bl
  go_wp2_with fail
  refine (eqObS_self ah aw _ _ _ _ wl hMl.toL hLwl.toL hLn).mono ?_
  rintro e wm ⟨rfl, bm⟩
  go_wp2_with fail
  refine (heldObS_o ag _ 1 _ _ _ wm (hMl'.below bm) hLn (by omega) (by omega)).mono ?_
  rintro e wn ⟨rfl, bn⟩
  go_wp2_with fail
  go_ret
  exact ⟨rfl, belowCall (belowCall Bl bm) bn⟩

set_option maxRecDepth 100000 in
theorem lifted (os : Os) (started : os.Started) (H : Type) (enc : TypeId × Value → H) :
    ReturnsInHanded {} Try.checked os 3 .any (Rows.fnExactApplyShiftsSpec.pre6 enc Try.prog Try.f3 Rows.fnExactApplyShiftsRow.domain false) (Rows.fnExactApplyShiftsSpec.post enc Try.prog Try.f3 false true false false) := by
  refine returnsInHanded_of_change (C := Try.checked) own started (by kernel_rfl) Try.func3
    (ChangeSpec.witness6 (enc := enc) (C := Try.checked) false ⟨#[], #[.slice none 0 0, .slice none 0 0], []⟩ 8 (by kernel_rfl) (by kernel_rfl) (by kernel_rfl) (by kernel_rfl)) ?_
  intro W base args ds gs before hval0 hW hcnd _
  have hval : ∀ (j : Nat) t v, Try.f3.params[j]? = some t → args[j]? = some v → Value.okWide Try.prog W .any base t v := hval0
  have hW' := hW
  obtain ⟨p, q, hA0, hV, rfl, hfz, hnd⟩ := hW
  have hA : DataW.TrodAll enc Try.prog W 0 (fun _ => true) true Try.f3.params.toList args.toList ds p := hA0
  rw [Try.params3] at hA hval
  obtain ⟨v0, vs0, d0, ds0, p0, q0, hargs, rfl, rfl, h0, r0⟩ := trodAll_cons hA
  obtain ⟨v1, vs1, d1, ds1, p1, q1, rfl, rfl, rfl, h1, r1⟩ := trodAll_cons r0
  obtain ⟨rfl, rfl, rfl⟩ := trodAll_nil r1
  obtain rfl : args = #[v0, v1] := by cases args; simp_all
  obtain ⟨rfl, rfl⟩ := trodVars_none hV
  have k0 := h0
  have lt0 : ∀ x ∈ p0, x.block < W.heap.size := by obtain ⟨m, hm⟩ := k0; exact DataW.trod_lt m _ _ _ hm
  obtain ⟨a0, len0, cap0, rfl⟩ := okWide_slice Try.underlying22 (hval 0 22 v0 rfl rfl)
  obtain ⟨z0, w0⟩ : ∃ zs, IsOb W a0 len0 cap0 zs := by
    obtain ⟨fuel, hf⟩ := h0
    exact obs_of Try.underlying22 Try.underlying51 (by kernel_rfl) (show Try.prog.cellsOf 51 = 2 by kernel_rfl) Try.underlying9 Try.underlying2 (by simpa [Value.cells] using hf)
  have k1 := h1
  have lt1 : ∀ x ∈ p1, x.block < W.heap.size := by obtain ⟨m, hm⟩ := k1; exact DataW.trod_lt m _ _ _ hm
  obtain ⟨a1, len1, cap1, rfl⟩ := okWide_slice Try.underlying23 (hval 1 23 v1 rfl rfl)
  obtain ⟨z1, w1⟩ : ∃ zs, IsRow .i64 W a1 len1 cap1 zs := by
    obtain ⟨fuel, hf⟩ := h1
    rcases open_ints Try.underlying23 Try.underlying2 (by kernel_rfl) hf with ⟨hcs, _⟩ | ⟨x, l, c, zs, hcs, _, hl, hm, hz, _, hcell, hwz⟩
    · simp [Value.cells] at hcs
      obtain ⟨rfl, rfl, rfl⟩ := hcs
      exact ⟨[], .inl ⟨rfl, rfl, rfl, rfl⟩⟩
    · simp [Value.cells] at hcs
      obtain ⟨rfl, rfl, rfl⟩ := hcs
      exact ⟨zs, .inr ⟨_, rfl, hl, hm, by simpa using hz, hcell, hwz⟩⟩
  clear hA0 hval0
  refine (walk a0 len0 cap0 z0 a1 len1 cap1 z1 W w0 w1).mono fun e W' ⟨he, bel⟩ => ?_
  subst he
  exact ⟨_, rfl, _, _, _, [], _, [], hW', trodAll_mk1 (shut_bool Try.underlying4 _), (trodAll_cons_mk (Below.trod laidOut (by kernel_rfl) (of_decide_eq_true (by kernel_rfl)) k0 bel lt0) (trodAll_cons_mk (Below.trod laidOut (by kernel_rfl) (of_decide_eq_true (by kernel_rfl)) k1 bel lt1) trodAll_mk0)), rfl, bel.frame _, fun h => by cases h⟩

theorem over : Rows.fnExactApplyShiftsRow.holds Try.pinned (OpenSpec.ofChange Rows.fnExactApplyShiftsSpec) :=
  OpenClaim.holds_of_wide 3 Try.f3 rfl rfl rfl rfl rfl rfl rfl ⟨rfl, rfl, rfl, rfl, rfl⟩ rfl rfl rfl rfl rfl (by kernel_rfl) Try.func3 (by kernel_rfl)
    (of_decide_eq_true (by kernel_rfl)) (by unfold Func.isWrapper; first | (rw [if_pos (by decide +kernel)]; kernel_rfl) | (rw [if_neg (by decide +kernel)]; exact ⟨rfl, rfl⟩))
    (fun os started H enc _ => lifted os started H enc)

theorem proved : Rows.FnExactApplyShiftsSaid := over
#print axioms proved
end Go.Proofs.Ytiogffjhhhpolac.fnExactApplyShifts
