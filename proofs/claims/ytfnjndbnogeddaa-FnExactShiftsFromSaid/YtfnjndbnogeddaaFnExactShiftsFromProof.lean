/- FnExactShiftsFrom: for every number, every slice of common estimates (that holds no more than the law's bound) and every observer the program's ShiftsFrom (maps, a queue of rounds, medians by quickselect) answers as the model's, writes into no argument, and its answer owns its memory: it holds the law's marks through another call. -/
import Derived.Test.YtfnjndbnogeddaaB1
import Derived.Test.YtfnjndbnogeddaaLS
import Derived.Test.YtfnjndbnogeddaaL6
import Derived.Test.YtfnjndbnogeddaaGI
import Derived.Test.YtfnjndbnogeddaaGR
import Derived.ChangeOld
import Derived.Lib.SmallJoins
namespace Go.Proofs.Ytfnjndbnogeddaa.fnExactShiftsFrom
open Go.ChangeShapes Go.WideShapes Go.ChangeAt Go.RowKit
open Go.ChangeMaps (open_string shut_string)
set_option linter.unusedVariables false

theorem own : ownKnob Try.prog.godebug = none := by kernel_rfl
theorem laidOut : laidOutB Try.prog = true := by kernel_rfl
set_option maxHeartbeats 8000000 in

theorem walk (a0 : Int) (a1 : Option Addr) (len1 cap1 : Nat) (z1 : List Cm) (a2 : Int) (w : World) (w0 : (Lit.int .i64 a0).wf = true) (w1 : IsCm w a1 len1 cap1 z1) (w2 : (Lit.int .i64 a2).wf = true) :
    Calls Try.prog 5 #[.int .i64 a0, .slice a1 len1 cap1, .int .i64 a2] w fun e w' => e = .returned (.bool true) ∧ Below w.heap.size w w' := by
  by_cases hbig : (1048576 : Int) < totCm z1
  · have HZ := Lib.hid (szQ_no hbig)
    go_enter Try.func5, Try.ntmps5
    go_wp2_with fail
    refine (szCmS_any _ _ _ z1 1048576 _ w1 (by omega) (by omega)).mono ?_
    rintro e v1 ⟨rfl, b1⟩
    rw [HZ.out]
    go_wp2
    go_ret
    exact ⟨rfl, b1⟩
  have HZ := Lib.hid (szQ_yes hbig)
  have hn : len1 ≤ 1048576 := by have h1 := totCm_nonneg z1; have h2 := w1.1.1; omega
  have hn0 : ¬ (1048576 : Int) - totCm z1 < 0 := by omega
  obtain ⟨L, hL⟩ : ∃ L, L = numL (ckC a0 a2 z1) (shfL a0 a2 z1) := ⟨_, rfl⟩
  have hLn : L.length ≤ 1048576 := by rw [hL]; exact (shf_num a0 a2 z1)
  have HL := Lib.hid hL
  obtain ⟨code, hcode⟩ : ∃ k, ckC a0 a2 z1 = k := ⟨_, rfl⟩
  have HK := Lib.hid hcode
  clear hL hcode
  have hneq : (code != code) = false := by simp
  go_enter Try.func5, Try.ntmps5
  go_wp2_with fail
  refine (szCmS_any _ _ _ z1 1048576 _ w1 (by omega) (by omega)).mono ?_
  rintro e w2 ⟨rfl, b2⟩
  rw [HZ.out]
  go_wp2_with fail
  refine (toCmS_any _ _ _ z1 w2 (w1.1.mono b2) hn).mono ?_
  rintro e w3 ⟨g3, rfl, -, hr3, b3⟩
  have hs3 := CmL.of_row w1.1.1 hr3
  have B3 := belowCall b2 b3
  go_wp2_with fail
  (refine (sShiftsFrom_any _ _ _ _ _ z1 w3 hs3 hn).mono ?_)
  rintro e w4 ⟨hch4, b4⟩
  obtain ⟨L', aw, cw, hL', rfl, hLw⟩ := hch4.opened 1
  obtain rfl : L = L' := HL.out.trans hL'.symm
  rw [HK.out]
  clear hch4 hL'
  have B4 : Below w.heap.size w w4 := belowCall B3 b4
  have hLw4 := hLw.toL.toB
  go_wp2_with fail
  refine (toCmS_any _ _ _ z1 w4 (w1.1.mono B4) hn).mono ?_
  rintro e w5 ⟨g5, rfl, hg5, hr5, b5⟩
  have hg5l := hr5.lt
  have hs5 := CmL.of_row w1.1.1 hr5
  have B5 := belowCall B4 b5
  go_wp2_with fail
  (refine (iShiftsFrom_any _ _ _ _ _ z1 w5 hs5 hn).mono ?_)
  rintro e w6 ⟨hch6, b6⟩
  obtain ⟨L', ag, cg, hL', rfl, hMg⟩ := hch6.opened 1
  obtain rfl : L = L' := HL.out.trans hL'.symm
  rw [HK.out]
  clear hch6 hL'
  have B6 : Below w.heap.size w w6 := belowCall B5 b6
  have z4 := b4.size
  have z45 := b5.size
  have z56 := b6.size
  have hLw6 := hLw4.below (belowCall b5 b6) (Nat.le_refl _)
  have hr6 := rowB hr5 b6
  go_wp2_with fail
  refine (eqI_self ag aw _ _ _ L w6 hMg.toL hLw6.toL hLn).mono ?_
  rintro e w7 ⟨rfl, b7⟩
  have z67 := b7.size
  have B7 : Below w.heap.size w w7 := belowCall B6 b7
  go_wp2_with fail
  refine (toCmS_any _ _ _ z1 w7 (w1.1.mono B7) hn).mono ?_
  rintro e w8 ⟨g8, rfl, -, hr8, b8⟩
  have z78 := b8.size
  have hs8 := CmL.of_row w1.1.1 hr8
  go_wp2_with fail
  refine (eqCmS_self _ _ _ _ _ z1 w8 (((hs5.mono b6).mono b7).mono b8) hs8 hn).mono ?_
  rintro e w9 ⟨rfl, b9⟩
  have z89 := b9.size
  have b69 := belowCall (belowCall b7 b8) b9
  have hr9 := rowB hr6 b69
  have hM9 := hMg.below b69
  have hLw9 := hLw6.below b69 (by omega)
  have B9 : Below w.heap.size w w9 := belowCall B6 b69
  go_wp2_with fail
  refine (markCmS_f g5 _ 1 _ w9 (SMG.of_row hr9 (by intro j; simp [mfCm])) hn (by omega) (by omega)).mono ?_
  rintro e wa ⟨rfl, -, ba⟩
  have z9a := ba.size
  have hMa := hM9.far ba hg5l
  have hLwa := hLw9.grown ba hg5
  have za0 := B4.size
  have hka : ¬ ((1 + 3 * len1 : Nat) : Int) < 0 := by omega
  have Ba : Below w.heap.size w wa := B9.grown ba B9.size (fun k e => by cases e; omega)
  go_wp2_with fail
  refine (eqI_self ag aw _ _ _ L wa hMa.toL hLwa.toL hLn).mono ?_
  rintro e wb ⟨rfl, bb⟩
  have zab := bb.size
  have hMb := hMa.below bb
  have hLwb := hLwa.below bb (by omega)
  have Bb := belowCall Ba bb
  go_wp2_with fail
  refine (markI_o ag _ 1 _ _ _ wb wb (Below.refl _ _) (by omega) hMb hLn (by omega) (by omega)).mono ?_
  rintro e wc ⟨rfl, hMc, bc⟩
  have zbc := bc.size
  have Bc : Below w.heap.size w wc := Bb.trans (bc.mono (by omega))
  have hLwc := hLwb.below bc (by omega)
  go_wp2_with fail
  refine (heldI_o ag _ 1 _ _ _ wc hMc hLn (by omega) (by omega)).mono ?_
  rintro e wd ⟨rfl, bd⟩
  have zcd := bd.size
  have hMd := hMc.below bd
  have hLwd := hLwc.below bd (by omega)
  have hq0 : ¬ ((1 + L.length : Nat) : Int) < 0 := by omega
  have Bd : Below w.heap.size w wd := belowCall Bc bd
  go_wp2_with fail
  refine (toCmS_any _ _ _ z1 wd (w1.1.mono Bd) hn).mono ?_
  rintro e w12 ⟨g12, rfl, -, hr12, b12⟩
  have zde := b12.size
  have hs12 := CmL.of_row w1.1.1 hr12
  go_wp2_with fail
  (refine (iShiftsFrom_any _ _ _ _ _ z1 w12 hs12 hn).mono ?_)
  rintro e w13 ⟨hch13, b13⟩
  obtain ⟨L', ah, ch, hL', rfl, hMh⟩ := hch13.opened 1
  obtain rfl : L = L' := HL.out.trans hL'.symm
  rw [HK.out]
  clear hch13 hL'
  have zef := b13.size
  have hM13 := (hMd.below b12).below b13
  have hLw13 := (hLwd.below b12 (by omega)).below b13 (by omega)
  go_wp2_with fail
  refine (eqI_self ah aw _ _ _ L w13 hMh.toL hLw13.toL hLn).mono ?_
  rintro e w14 ⟨rfl, b14⟩
  go_wp2_with fail
  refine (heldI_o ag _ 1 _ _ _ w14 (hM13.below b14) hLn (by omega) (by omega)).mono ?_
  rintro e w15 ⟨rfl, b15⟩
  go_wp2_with fail
  go_ret
  exact ⟨rfl, belowCall (belowCall (belowCall (belowCall Bd b12) b13) b14) b15⟩

set_option maxRecDepth 100000 in
theorem lifted (os : Os) (started : os.Started) (H : Type) (enc : TypeId × Value → H) :
    ReturnsInHanded {} Try.checked os 5 .any (Rows.fnExactShiftsFromSpec.pre6 enc Try.prog Try.f5 Rows.fnExactShiftsFromRow.domain false) (Rows.fnExactShiftsFromSpec.post enc Try.prog Try.f5 false true false false) := by
  refine returnsInHanded_of_change (C := Try.checked) own started (by kernel_rfl) Try.func5
    (ChangeSpec.witness6 (enc := enc) (C := Try.checked) false ⟨#[], #[.int .i64 0, .slice none 0 0, .int .i64 0], []⟩ 8 (by kernel_rfl) (by kernel_rfl) (by kernel_rfl) (by kernel_rfl)) ?_
  intro W base args ds gs before hval0 hW hcnd _
  have hval : ∀ (j : Nat) t v, Try.f5.params[j]? = some t → args[j]? = some v → Value.okWide Try.prog W .any base t v := hval0
  have hW' := hW
  obtain ⟨p, q, hA0, hV, rfl, hfz, hnd⟩ := hW
  have hA : DataW.TrodAll enc Try.prog W 0 (fun _ => true) true Try.f5.params.toList args.toList ds p := hA0
  rw [Try.params5] at hA hval
  obtain ⟨v0, vs0, d0, ds0, p0, q0, hargs, rfl, rfl, h0, r0⟩ := trodAll_cons hA
  obtain ⟨v1, vs1, d1, ds1, p1, q1, rfl, rfl, rfl, h1, r1⟩ := trodAll_cons r0
  obtain ⟨v2, vs2, d2, ds2, p2, q2, rfl, rfl, rfl, h2, r2⟩ := trodAll_cons r1
  obtain ⟨rfl, rfl, rfl⟩ := trodAll_nil r2
  obtain rfl : args = #[v0, v1, v2] := by cases args; simp_all
  obtain ⟨rfl, rfl⟩ := trodVars_none hV
  obtain ⟨a0, rfl, rfl, rfl, w0⟩ := open_int Try.underlying2 (hval 0 2 v0 rfl rfl) h0
  have k1 := h1
  have lt1 : ∀ x ∈ p1, x.block < W.heap.size := by obtain ⟨m, hm⟩ := k1; exact DataW.trod_lt m _ _ _ hm
  obtain ⟨a1, len1, cap1, rfl⟩ := okWide_slice Try.underlying36 (hval 1 36 v1 rfl rfl)
  obtain ⟨z1, w1⟩ : ∃ zs, IsCm W a1 len1 cap1 zs := by
    obtain ⟨fuel, hf⟩ := h1
    exact cms_of Try.underlying36 Try.underlying69 (by kernel_rfl) (show Try.prog.cellsOf 69 = 3 by kernel_rfl) Try.underlying2 Try.underlying2 Try.underlying2 (by simpa [Value.cells] using hf)
  obtain ⟨a2, rfl, rfl, rfl, w2⟩ := open_int Try.underlying2 (hval 2 2 v2 rfl rfl) h2
  clear hA0 hval0
  refine (walk a0 a1 len1 cap1 z1 a2 W w0 w1 w2).mono fun e W' ⟨he, bel⟩ => ?_
  subst he
  exact ⟨_, rfl, _, _, _, [], _, [], hW', trodAll_mk1 (shut_bool Try.underlying4 _), (trodAll_cons_mk (shut_int Try.underlying2 w0) (trodAll_cons_mk (Below.trod laidOut (by kernel_rfl) (of_decide_eq_true (by kernel_rfl)) k1 bel lt1) (trodAll_cons_mk (shut_int Try.underlying2 w2) trodAll_mk0))), rfl, bel.frame _, fun h => by cases h⟩

theorem over : Rows.fnExactShiftsFromRow.holds Try.pinned (OpenSpec.ofChange Rows.fnExactShiftsFromSpec) :=
  OpenClaim.holds_of_wide 5 Try.f5 rfl rfl rfl rfl rfl rfl rfl ⟨rfl, rfl, rfl, rfl, rfl⟩ rfl rfl rfl rfl rfl (by kernel_rfl) Try.func5 (by kernel_rfl)
    (of_decide_eq_true (by kernel_rfl)) (by unfold Func.isWrapper; first | (rw [if_pos (by decide +kernel)]; kernel_rfl) | (rw [if_neg (by decide +kernel)]; exact ⟨rfl, rfl⟩))
    (fun os started H enc _ => lifted os started H enc)

theorem proved : Rows.FnExactShiftsFromSaid := over
#print axioms proved
end Go.Proofs.Ytfnjndbnogeddaa.fnExactShiftsFrom
