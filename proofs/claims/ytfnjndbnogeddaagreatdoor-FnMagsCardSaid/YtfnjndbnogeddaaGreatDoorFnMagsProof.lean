/- FnMags: for every input the law returns true: a magnitude between two stars is between theirs, the mean and the median lie between the least and the greatest, no more than half of all are below the median and no more above it, and a magnitude is read back from its text. The card: the library's tables and sentinels that its road names stand as their initialisers lay them. -/
import Derived.Test.YtfnjndbnogeddaaGreatDoorB1
import Derived.Test.YtfnjndbnogeddaaGreatDoorB9
import Derived.Test.YtfnjndbnogeddaaGreatDoorM7
import Derived.Test.YtfnjndbnogeddaaGreatDoorMG
import Derived.Test.YtfnjndbnogeddaaGreatDoorB2
import Derived.Test.YtfnjndbnogeddaaGreatDoorB5
import Derived.Test.YtfnjndbnogeddaaGreatDoorD5
import Derived.Test.YtfnjndbnogeddaaGreatDoorR8
import Derived.Test.YtfnjndbnogeddaaGreatDoorB8
import Derived.Test.YtfnjndbnogeddaaGreatDoorCards
import Derived.Test.YtfnjndbnogeddaaGreatDoorTie
import Derived.Deep.DeepHandedRow
import Derived.Lib.LaidTab
import Derived.ChangeOld
import Derived.Lib.SmallJoins
import Derived.LaidSub
import Derived.Stop.LaidErr
namespace Go.Proofs.YtfnjndbnogeddaaGreatDoor.fnMags
open Go.ChangeShapes Go.WideShapes Go.ChangeAt Go.RowKit
open Go.ChangeMaps (open_string shut_string)
set_option linter.unusedVariables false

theorem own : ownKnob Tryz.prog.godebug = none := by kernel_rfl
theorem laidOut : laidOutB Tryz.prog = true := by kernel_rfl
theorem pow_of {W : World} (h : laidMetH Tryz.prog Rows.fnMagsRow.laid W) : Pow W := by
  have h' : laidMetH Tryz.prog [("internal/strconv.uint64pow10", Rows.laid_internal_strconv_uint64pow10)] W := laidMetH.filter (fun x => x.1 == "internal/strconv.uint64pow10") h
  exact Lib.tabIs_of_head (rest := []) pow_global pow_type Tryz.underlying205 Tryz.underlying90 (by kernel_rfl) (by kernel_rfl) h'
theorem star : "*" ++ "errors.errorString" = "*errors.errorString" := by decide
theorem rowStar (u : TypeId) (h : Tryz.prog.typeName? 3 u = some "*errors.errorString") : u = 199 :=
  typeName_ptr_named (nm := "errors.errorString") (by rw [star]; kernel_rfl) (by kernel_rfl) (by decide) u (by rw [star]; exact h)
theorem errs_of {W : World} (h : laidMetH Tryz.prog Rows.fnMagsRow.laid W) : Errs W := by
  have h1 : laidMetH Tryz.prog [("strconv.ErrSyntax", Rows.laid_strconv_ErrSyntax)] W := laidMetH.filter (fun x => x.1 == "strconv.ErrSyntax") h
  have h2 : laidMetH Tryz.prog [("strconv.ErrRange", Rows.laid_strconv_ErrRange)] W := laidMetH.filter (fun x => x.1 == "strconv.ErrRange") h
  obtain ⟨a0, s0, hv0, -, -, -⟩ := laid_sentinel (r := []) h1 syn_global (show (Tryz.prog.globals[1]?).map (·.type) = some 76 by kernel_rfl) Tryz.underlying76 rowStar Tryz.underlying199 Tryz.underlying201 rfl rfl Tryz.underlying9 (by kernel_rfl) (by kernel_rfl)
  obtain ⟨a1, s1, hv1, -, -, -⟩ := laid_sentinel (r := []) h2 rng_global (show (Tryz.prog.globals[2]?).map (·.type) = some 76 by kernel_rfl) Tryz.underlying76 rowStar Tryz.underlying199 Tryz.underlying201 rfl rfl Tryz.underlying9 (by kernel_rfl) (by kernel_rfl)
  exact ⟨⟨_, _, hv0⟩, _, _, hv1⟩
theorem magP_len9 {m : Int} (h : magB m = true) : (magP m).length ≤ 82 := by
  obtain ⟨m1, m2⟩ := magB_iff.1 h
  have h1 := itoa_len ((m.natAbs / 1000 : Nat) : Int) (by omega) (by omega)
  have h2 := three_len ((m.natAbs % 1000 : Nat) : Int) (by omega) (by omega)
  rw [magP_is, magL]
  split <;> simp only [List.length_append, List.length_cons, List.length_nil] <;> omega
set_option maxRecDepth 100000 in
set_option maxHeartbeats 8000000 in

theorem walk (a0 : Option Addr) (len0 cap0 : Nat) (z0 : List Int) (a1 : Option Addr) (len1 cap1 : Nat) (z1 : List Int) (w : World) (w0 : IsRow .u8 w a0 len0 cap0 z0) (w1 : IsRow .u8 w a1 len1 cap1 z1) (hL : laidMetH Tryz.prog Rows.fnMagsRow.laid w) (hSh : w.ShapedOpen Tryz.prog) :
    Calls Tryz.prog 4 #[.slice a0 len0 cap0, .slice a1 len1 cap1] w fun e w' => e = .returned (.bool true) ∧ Below w.heap.size w w' := by
  have hP := pow_of hL
  have hE := errs_of hL
  clear hL
  have hb0 := LstB.of_row w0
  have hb1 := LstB.of_row w1
  clear w0 w1
  cases hlong : (decide (3000 < (len0 : Int)) || decide (3000 < (len1 : Int)))
  case true =>
    have HL := Lib.hid hlong
    clear hlong
    go_enter Tryz.func4, Tryz.ntmps4
    go_wp2_with fail
    refine (a2Long_any _ _ _ _ _ _ _).mono ?_
    rintro e w' ⟨rfl, rfl⟩
    rw [HL.out]
    go_wp2
    go_ret
    exact ⟨rfl, Below.refl _ _⟩
  have HL := Lib.hid hlong
  have hl0 : len0 ≤ 3000 := by simp at hlong; omega
  have hl1 : len1 ≤ 3000 := by simp at hlong; omega
  clear hlong
  go_enter Tryz.func4, Tryz.ntmps4
  go_wp2_with fail
  refine (a2Long_any _ _ _ _ _ _ _).mono ?_
  rintro e w' ⟨rfl, rfl⟩
  rw [HL.out]
  go_wp2_with fail
  refine (A2Mags_any a0 len0 cap0 w hb0 (by omega)).mono ?_
  rintro e w1 ⟨la, n, c, xs, rfl, hL1, hok, hn1, hn8, hB1⟩
  have hb1 := hb1.below hB1
  obtain ⟨g, o, rfl, hg0, hc0⟩ := hL1.2 0 hn1
  obtain ⟨g', o', he, hg1, hcl⟩ := hL1.2 (n - 1) (by omega)
  cases he
  rw [Nat.add_zero] at hc0
  have hxl := hL1.1
  have hma : magB (xs[0]?.getD 0) = true := magB_iff.2 (okMags_at hok 0 (by omega))
  have hmb : magB (xs[n - 1]?.getD 0) = true := magB_iff.2 (okMags_at hok (n - 1) (by omega))
  have hnz : (0 : Int) < (n : Int) := by omega
  have hn1' : IntKind.i64.wrap ((n : Int) - 1) = ((n - 1 : Nat) : Int) := by rw [IntWalk.i64_in _ (by omega)]; omega
  have hn2' : ((n - 1 : Nat) : Int) < (n : Int) := by omega
  obtain ⟨av, hav⟩ : ∃ a, xs[0]?.getD 0 = a := ⟨_, rfl⟩
  obtain ⟨bv, hbv⟩ : ∃ a, xs[n - 1]?.getD 0 = a := ⟨_, rfl⟩
  rw [hav] at hc0 hma
  rw [hbv] at hcl hmb
  have HAV := Lib.hid hav
  clear hav hbv
  obtain ⟨ma1, ma2⟩ := magB_iff.1 hma
  obtain ⟨mb1, mb2⟩ := magB_iff.1 hmb
  have HMA := Lib.hid hma
  have HMB := Lib.hid hmb
  clear hma hmb
  go_wp2_with fail
  refine (a2At_any _ a1 len1 cap1 0 10 w1 hb1 (by omega) (by decide) (by decide)).mono ?_
  rintro e w2 ⟨p, rfl, p0, p1, rfl⟩
  go_wp2_with fail
  refine (a2At_any _ a1 len1 cap1 1 10 w1 hb1 (by omega) (by decide) (by decide)).mono ?_
  rintro e w2 ⟨u, rfl, u0, u1, rfl⟩
  have hq : IntKind.i64.wrap (1 + u) = 1 + u := IntWalk.i64_in _ (by omega)
  obtain ⟨q, hqq⟩ : ∃ q, 1 + u = q := ⟨_, rfl⟩
  rw [hqq] at hq
  obtain ⟨m, hm, m1, m2⟩ := btw_rng (p := p) (q := q) HMA.out HMB.out p0 (by omega) (by omega) (by omega) (by omega)
  have HB1 := Lib.hid (show btw av bv p q = .tuple #[.int .i64 m, .int .i64 0] from hm)
  have HB2 := Lib.hid (show btw av bv 0 q = .tuple #[.int .i64 av, .int .i64 0] from btw_left HMA.out HMB.out (by omega) (by omega))
  have HB3 := Lib.hid (show btw av bv q 0 = .tuple #[.int .i64 bv, .int .i64 0] from btw_right HMA.out HMB.out (by omega) (by omega))
  have hmm : magB m = true := magB_iff.2 (by omega)
  have HMM := Lib.hid hmm
  clear hm hmm
  have q1 : ¬ m < (if bv < av then bv else av) := by split <;> omega
  have q2 : ¬ (if av < bv then bv else av) < m := by split <;> omega
  have q3 : (av != av) = false := by simp
  have q4 : (bv != bv) = false := by simp
  go_wp2_with fail
  refine (iBetween_any av bv p q _).mono ?_
  rintro e w3 ⟨rfl, b3⟩
  rw [HB1.out]
  go_wp2_with fail
  refine (iBetween_any av bv 0 q _).mono ?_
  rintro e w4 ⟨rfl, b4⟩
  rw [HB2.out]
  go_wp2_with fail
  refine (iBetween_any av bv q 0 _).mono ?_
  rintro e w5 ⟨rfl, b5⟩
  rw [HB3.out]
  have B5 : Below w.heap.size w w5 := belowCall (belowCall (belowCall hB1 b3) b4) b5
  have hL5 := ((hL1.mono b3).mono b4).mono b5
  obtain ⟨mean, hmean, e1, e2⟩ := mean_rng hxl (by omega) hok
  have HRG := Lib.hid (show rangeV xs = .tuple #[.int .i64 (mnTo xs n), .int .i64 (mxTo xs n), .int .i64 0] from range_is hxl (by omega) hok)
  have HMN := Lib.hid (show meanV xs = .tuple #[.int .i64 mean, .int .i64 0] from hmean)
  have HMD := Lib.hid (fun v (hv : medS xs v) => med_rng hxl (show 0 < n by omega) hok hv)
  have HTX := Lib.hid (magV_yes HMA.out)
  clear hmean
  generalize mnTo xs n = low at e1 HRG HMD
  generalize mxTo xs n = high at e2 HRG HMD
  go_wp2_with fail
  refine (iRange3_any _ n c xs w5 hL5 (by omega)).mono ?_
  rintro e w6 ⟨rfl, b6⟩
  rw [HRG.out]
  have hL6 := hL5.mono b6
  have B6 := belowCall B5 b6
  go_wp2_with fail
  refine (iMean_any _ n c xs w6 hL6 (by omega)).mono ?_
  rintro e w7 ⟨rfl, b7⟩
  rw [HMN.out]
  have hL7 := hL6.mono b7
  have B7 := belowCall B6 b7
  go_wp2_with fail
  refine (iMedianMag_any _ _ n c xs w7 hL7 (by omega)).mono ?_
  rintro e w8 ⟨v8, rfl, hv8, b8⟩
  obtain ⟨md, rfl, d1, d2, d3, d4⟩ := HMD.out v8 hv8
  clear hv8
  have hL8 := hL7.mono b8
  have B8 := belowCall B7 b8
  go_wp2_with fail
  refine (iMagText_any av w8 (hP.mono B8)).mono ?_
  rintro e w9 ⟨rfl, b9⟩
  rw [HTX.out, strV]
  have hL9 := hL8.mono b9
  have B9 := belowCall B8 b9
  go_wp2_with fail
  refine (iReadMag_any ⟨(magP av).toArray⟩ w9 (by show (magP av).toArray.size ≤ 1048576; rw [List.size_toArray]; have := magP_len9 HMA.out; omega) (hE.mono B9) (hP.mono B9) (shapedBelow hSh B9)).mono ?_
  rintro e w10 ⟨v10, rfl, hv10, b10⟩
  obtain rfl := mag_back HMA.out hv10
  clear hv10
  have hL10 := hL9.mono b10
  have B10 := belowCall B9 b10
  have r1 : ¬ mean < low := by omega
  have r2 : ¬ high < mean := by omega
  have r3 : ¬ md < low := by omega
  have r4 : ¬ high < md := by omega
  go_wp2_with (go_at_call 24; refine (iValidMag_any _ _).mono ?_; rintro e w' ⟨rfl, rfl⟩; rw [HMM.out])
  go_loopw [25, 26, 27] (fun sl sg i wr => ∃ k : Nat, k ≤ n ∧ i = .int .i64 k ∧ sl = .int .i64 (cntL xs md k : Nat) ∧ sg = .int .i64 (cntG xs md k : Nat) ∧ wr = w10) (fun _ _ i _ => n - (Go.RowKit.intOf i).toNat)
  case atStart => exact ⟨0, Nat.zero_le _, rfl, by simp [cntL], by simp [cntG], rfl⟩
  case round =>
    obtain ⟨k, hk, rfl, rfl, rfl, rfl⟩ := hrel
    have l1 : cntL xs md k ≤ k := cnt_le xs k
    have l2 : cntG xs md k ≤ k := cnt_le xs k
    by_cases hlt : k < n
    · obtain ⟨b1, o1, he1, hbz, hc⟩ := hL10.2 k hlt
      cases he1
      obtain ⟨x, hx⟩ : ∃ x, xs[k]?.getD 0 = x := ⟨_, rfl⟩
      have HSL := Lib.hid (cntL_step (m := md) hxl hlt hx)
      have HSG := Lib.hid (cntG_step (m := md) hxl hlt hx)
      rw [hx] at hc
      clear hx
      have hkk : (k : Int) < (n : Int) := by omega
      generalize cntL xs md k = L at l1 HSL ⊢
      generalize cntG xs md k = G at l2 HSG ⊢
      by_cases g1 : x < md
      · have g2 : ¬ md < x := by omega
        have g3 : decide (x < md) = true := by simpa using g1
        have g4 : decide (md < x) = false := by simpa using g2
        go_wp2
        go_roundw
        case rel => exact ⟨k + 1, by omega, by go_num, by rw [HSL.out, if_pos g1]; go_num, by rw [HSG.out, if_neg g2]; go_num, by first | rfl | trivial⟩
        case measure => simp [Go.RowKit.intOf]; omega
      · have g3 : decide (x < md) = false := by simpa using g1
        by_cases g2 : md < x
        · have g4 : decide (md < x) = true := by simpa using g2
          go_wp2
          go_roundw
          case rel => exact ⟨k + 1, by omega, by go_num, by rw [HSL.out, if_neg g1]; go_num, by rw [HSG.out, if_pos g2]; go_num, by first | rfl | trivial⟩
          case measure => simp [Go.RowKit.intOf]; omega
        · have g4 : decide (md < x) = false := by simpa using g2
          go_wp2
          go_roundw
          case rel => exact ⟨k + 1, by omega, by go_num, by rw [HSL.out, if_neg g1]; go_num, by rw [HSG.out, if_neg g2]; go_num, by first | rfl | trivial⟩
          case measure => simp [Go.RowKit.intOf]; omega
    · obtain rfl : k = n := by omega
      generalize cntL xs md k = L at l1 d3 ⊢
      generalize cntG xs md k = G at l2 d4 ⊢
      have w1' : IntKind.i64.wrap (2 * (L : Int)) = 2 * (L : Int) := IntWalk.i64_in _ (by omega)
      have w2' : IntKind.i64.wrap (2 * (G : Int)) = 2 * (G : Int) := IntWalk.i64_in _ (by omega)
      have z1 : (2 * (L : Int)) ≤ (k : Int) := by omega
      have z2 : (2 * (G : Int)) ≤ (k : Int) := by omega
      have z3 : 2 * L ≤ k := d3
      have z4 : 2 * G ≤ k := d4
      go_wp2
      go_ret
      exact ⟨rfl, B10⟩

set_option maxRecDepth 100000 in
theorem contract (H : Type) (enc : TypeId × Value → H) (W : World) (base : Nat) (args : Array Value) (ds gs : List (DataW H)) (before : List MemPlace)
    (hval : ∀ (j : Nat) t v, Tryz.f4.params[j]? = some t → args[j]? = some v → Value.okWide Tryz.prog W .any base t v)
    (hW : DataW.Whole enc Tryz.prog Tryz.f4.params.toList Rows.fnMagsSpec.vars false W args.toList ds gs before) (hL : laidMetH Tryz.prog Rows.fnMagsRow.laid W) (hSh : W.ShapedOpen Tryz.prog) :
    Calls Tryz.prog 4 args W fun e W' => ∃ v, e = .returned v ∧ Rows.fnMagsSpec.post enc Tryz.prog Tryz.f4 false true false false W args v W' := by
  have hW' := hW
  obtain ⟨p, q, hA0, hV, rfl, hfz, hnd⟩ := hW
  have hA : DataW.TrodAll enc Tryz.prog W 0 (fun _ => true) true Tryz.f4.params.toList args.toList ds p := hA0
  rw [Tryz.params4] at hA hval
  obtain ⟨v0, vs0, d0, ds0, p0, q0, hargs, rfl, rfl, h0, r0⟩ := trodAll_cons hA
  obtain ⟨v1, vs1, d1, ds1, p1, q1, rfl, rfl, rfl, h1, r1⟩ := trodAll_cons r0
  obtain ⟨rfl, rfl, rfl⟩ := trodAll_nil r1
  obtain rfl : args = #[v0, v1] := by cases args; simp_all
  obtain ⟨rfl, rfl⟩ := trodVars_none hV
  have k0 := h0
  have lt0 : ∀ x ∈ p0, x.block < W.heap.size := by obtain ⟨m, hm⟩ := k0; exact DataW.trod_lt m _ _ _ hm
  obtain ⟨a0, len0, cap0, rfl⟩ := okWide_slice Tryz.underlying22 (hval 0 22 v0 rfl rfl)
  obtain ⟨z0, w0⟩ : ∃ zs, IsRow .u8 W a0 len0 cap0 zs := by
    obtain ⟨fuel, hf⟩ := h0
    rcases open_ints Tryz.underlying22 Tryz.underlying5 (by kernel_rfl) hf with ⟨hcs, _⟩ | ⟨x, l, c, zs, hcs, _, hl, hm, hz, _, hcell, hwz⟩
    · simp [Value.cells] at hcs
      obtain ⟨rfl, rfl, rfl⟩ := hcs
      exact ⟨[], .inl ⟨rfl, rfl, rfl, rfl⟩⟩
    · simp [Value.cells] at hcs
      obtain ⟨rfl, rfl, rfl⟩ := hcs
      exact ⟨zs, .inr ⟨_, rfl, hl, hm, by simpa using hz, hcell, hwz⟩⟩
  have k1 := h1
  have lt1 : ∀ x ∈ p1, x.block < W.heap.size := by obtain ⟨m, hm⟩ := k1; exact DataW.trod_lt m _ _ _ hm
  obtain ⟨a1, len1, cap1, rfl⟩ := okWide_slice Tryz.underlying22 (hval 1 22 v1 rfl rfl)
  obtain ⟨z1, w1⟩ : ∃ zs, IsRow .u8 W a1 len1 cap1 zs := by
    obtain ⟨fuel, hf⟩ := h1
    rcases open_ints Tryz.underlying22 Tryz.underlying5 (by kernel_rfl) hf with ⟨hcs, _⟩ | ⟨x, l, c, zs, hcs, _, hl, hm, hz, _, hcell, hwz⟩
    · simp [Value.cells] at hcs
      obtain ⟨rfl, rfl, rfl⟩ := hcs
      exact ⟨[], .inl ⟨rfl, rfl, rfl, rfl⟩⟩
    · simp [Value.cells] at hcs
      obtain ⟨rfl, rfl, rfl⟩ := hcs
      exact ⟨zs, .inr ⟨_, rfl, hl, hm, by simpa using hz, hcell, hwz⟩⟩
  clear hA0
  refine (walk a0 len0 cap0 z0 a1 len1 cap1 z1 W w0 w1 hL hSh).mono fun e W' ⟨he, bel⟩ => ?_
  subst he
  exact ⟨_, rfl, _, _, _, [], _, [], hW', trodAll_mk1 (shut_bool Tryz.underlying4 _), (trodAll_cons_mk (Below.trod laidOut (by kernel_rfl) (of_decide_eq_true (by kernel_rfl)) k0 bel lt0) (trodAll_cons_mk (Below.trod laidOut (by kernel_rfl) (of_decide_eq_true (by kernel_rfl)) k1 bel lt1) trodAll_mk0)), rfl, bel.frame _, fun h => by cases h⟩
noncomputable def low : Nat := (World.holding Tryz.prog default ⟨#[], #[], []⟩).heap.size
/-- a world for the witness: the settled one, the listed variables holding what their initialisers lay -/
noncomputable def laidCells : Nat → Obj → Obj
  | 7, .cells _ t frozen => .cells #[.int .u8 0, .int .u8 1, .int .u8 28, .int .u8 2, .int .u8 29, .int .u8 14, .int .u8 24, .int .u8 3, .int .u8 30, .int .u8 22, .int .u8 20, .int .u8 15, .int .u8 25, .int .u8 17, .int .u8 4, .int .u8 8, .int .u8 31, .int .u8 27, .int .u8 13, .int .u8 23, .int .u8 21, .int .u8 19, .int .u8 16, .int .u8 7, .int .u8 26, .int .u8 12, .int .u8 18, .int .u8 6, .int .u8 11, .int .u8 5, .int .u8 10, .int .u8 9] t frozen
  | 8, .cells _ t frozen => .cells #[.int .u8 0, .int .u8 1, .int .u8 56, .int .u8 2, .int .u8 57, .int .u8 49, .int .u8 28, .int .u8 3, .int .u8 61, .int .u8 58, .int .u8 42, .int .u8 50, .int .u8 38, .int .u8 29, .int .u8 17, .int .u8 4, .int .u8 62, .int .u8 47, .int .u8 59, .int .u8 36, .int .u8 45, .int .u8 43, .int .u8 51, .int .u8 22, .int .u8 53, .int .u8 39, .int .u8 33, .int .u8 30, .int .u8 24, .int .u8 18, .int .u8 12, .int .u8 5, .int .u8 63, .int .u8 55, .int .u8 48, .int .u8 27, .int .u8 60, .int .u8 41, .int .u8 37, .int .u8 16, .int .u8 46, .int .u8 35, .int .u8 44, .int .u8 21, .int .u8 52, .int .u8 32, .int .u8 23, .int .u8 11, .int .u8 54, .int .u8 26, .int .u8 40, .int .u8 15, .int .u8 34, .int .u8 20, .int .u8 31, .int .u8 10, .int .u8 25, .int .u8 14, .int .u8 19, .int .u8 9, .int .u8 13, .int .u8 8, .int .u8 7, .int .u8 6] t frozen
  | 6, .cells _ t frozen => .cells #[.int .u64 1, .int .u64 10, .int .u64 100, .int .u64 1000, .int .u64 10000, .int .u64 100000, .int .u64 1000000, .int .u64 10000000, .int .u64 100000000, .int .u64 1000000000, .int .u64 10000000000, .int .u64 100000000000, .int .u64 1000000000000, .int .u64 10000000000000, .int .u64 100000000000000, .int .u64 1000000000000000, .int .u64 10000000000000000, .int .u64 100000000000000000, .int .u64 1000000000000000000, .int .u64 10000000000000000000] t frozen
  | 5, .cells _ t frozen => .cells #[.int .u8 128, .int .u8 191, .int .u8 160, .int .u8 191, .int .u8 128, .int .u8 159, .int .u8 144, .int .u8 191, .int .u8 128, .int .u8 143, .int .u8 0, .int .u8 0, .int .u8 0, .int .u8 0, .int .u8 0, .int .u8 0, .int .u8 0, .int .u8 0, .int .u8 0, .int .u8 0, .int .u8 0, .int .u8 0, .int .u8 0, .int .u8 0, .int .u8 0, .int .u8 0, .int .u8 0, .int .u8 0, .int .u8 0, .int .u8 0, .int .u8 0, .int .u8 0] t frozen
  | 2, .cells _ t frozen => .cells #[.iface 199 (.pointer (some ⟨low + 0, 0, none⟩))] t frozen
  | 1, .cells _ t frozen => .cells #[.iface 199 (.pointer (some ⟨low + 1, 0, none⟩))] t frozen
  | 4, .cells _ t frozen => .cells #[.int .u8 240, .int .u8 240, .int .u8 240, .int .u8 240, .int .u8 240, .int .u8 240, .int .u8 240, .int .u8 240, .int .u8 240, .int .u8 240, .int .u8 240, .int .u8 240, .int .u8 240, .int .u8 240, .int .u8 240, .int .u8 240, .int .u8 240, .int .u8 240, .int .u8 240, .int .u8 240, .int .u8 240, .int .u8 240, .int .u8 240, .int .u8 240, .int .u8 240, .int .u8 240, .int .u8 240, .int .u8 240, .int .u8 240, .int .u8 240, .int .u8 240, .int .u8 240, .int .u8 240, .int .u8 240, .int .u8 240, .int .u8 240, .int .u8 240, .int .u8 240, .int .u8 240, .int .u8 240, .int .u8 240, .int .u8 240, .int .u8 240, .int .u8 240, .int .u8 240, .int .u8 240, .int .u8 240, .int .u8 240, .int .u8 240, .int .u8 240, .int .u8 240, .int .u8 240, .int .u8 240, .int .u8 240, .int .u8 240, .int .u8 240, .int .u8 240, .int .u8 240, .int .u8 240, .int .u8 240, .int .u8 240, .int .u8 240, .int .u8 240, .int .u8 240, .int .u8 240, .int .u8 240, .int .u8 240, .int .u8 240, .int .u8 240, .int .u8 240, .int .u8 240, .int .u8 240, .int .u8 240, .int .u8 240, .int .u8 240, .int .u8 240, .int .u8 240, .int .u8 240, .int .u8 240, .int .u8 240, .int .u8 240, .int .u8 240, .int .u8 240, .int .u8 240, .int .u8 240, .int .u8 240, .int .u8 240, .int .u8 240, .int .u8 240, .int .u8 240, .int .u8 240, .int .u8 240, .int .u8 240, .int .u8 240, .int .u8 240, .int .u8 240, .int .u8 240, .int .u8 240, .int .u8 240, .int .u8 240, .int .u8 240, .int .u8 240, .int .u8 240, .int .u8 240, .int .u8 240, .int .u8 240, .int .u8 240, .int .u8 240, .int .u8 240, .int .u8 240, .int .u8 240, .int .u8 240, .int .u8 240, .int .u8 240, .int .u8 240, .int .u8 240, .int .u8 240, .int .u8 240, .int .u8 240, .int .u8 240, .int .u8 240, .int .u8 240, .int .u8 240, .int .u8 240, .int .u8 240, .int .u8 240, .int .u8 240, .int .u8 240, .int .u8 241, .int .u8 241, .int .u8 241, .int .u8 241, .int .u8 241, .int .u8 241, .int .u8 241, .int .u8 241, .int .u8 241, .int .u8 241, .int .u8 241, .int .u8 241, .int .u8 241, .int .u8 241, .int .u8 241, .int .u8 241, .int .u8 241, .int .u8 241, .int .u8 241, .int .u8 241, .int .u8 241, .int .u8 241, .int .u8 241, .int .u8 241, .int .u8 241, .int .u8 241, .int .u8 241, .int .u8 241, .int .u8 241, .int .u8 241, .int .u8 241, .int .u8 241, .int .u8 241, .int .u8 241, .int .u8 241, .int .u8 241, .int .u8 241, .int .u8 241, .int .u8 241, .int .u8 241, .int .u8 241, .int .u8 241, .int .u8 241, .int .u8 241, .int .u8 241, .int .u8 241, .int .u8 241, .int .u8 241, .int .u8 241, .int .u8 241, .int .u8 241, .int .u8 241, .int .u8 241, .int .u8 241, .int .u8 241, .int .u8 241, .int .u8 241, .int .u8 241, .int .u8 241, .int .u8 241, .int .u8 241, .int .u8 241, .int .u8 241, .int .u8 241, .int .u8 241, .int .u8 241, .int .u8 2, .int .u8 2, .int .u8 2, .int .u8 2, .int .u8 2, .int .u8 2, .int .u8 2, .int .u8 2, .int .u8 2, .int .u8 2, .int .u8 2, .int .u8 2, .int .u8 2, .int .u8 2, .int .u8 2, .int .u8 2, .int .u8 2, .int .u8 2, .int .u8 2, .int .u8 2, .int .u8 2, .int .u8 2, .int .u8 2, .int .u8 2, .int .u8 2, .int .u8 2, .int .u8 2, .int .u8 2, .int .u8 2, .int .u8 2, .int .u8 19, .int .u8 3, .int .u8 3, .int .u8 3, .int .u8 3, .int .u8 3, .int .u8 3, .int .u8 3, .int .u8 3, .int .u8 3, .int .u8 3, .int .u8 3, .int .u8 3, .int .u8 35, .int .u8 3, .int .u8 3, .int .u8 52, .int .u8 4, .int .u8 4, .int .u8 4, .int .u8 68, .int .u8 241, .int .u8 241, .int .u8 241, .int .u8 241, .int .u8 241, .int .u8 241, .int .u8 241, .int .u8 241, .int .u8 241, .int .u8 241, .int .u8 241] t frozen
  | _, o => o
noncomputable def laidWorld (os : Os) : World :=
  { World.holding Tryz.prog os ⟨#[.cells #[.string ⟨#[118, 97, 108, 117, 101, 32, 111, 117, 116, 32, 111, 102, 32, 114, 97, 110, 103, 101]⟩] 201, .cells #[.string ⟨#[105, 110, 118, 97, 108, 105, 100, 32, 115, 121, 110, 116, 97, 120]⟩] 201], #[], []⟩ with heap := (World.holding Tryz.prog os ⟨#[.cells #[.string ⟨#[118, 97, 108, 117, 101, 32, 111, 117, 116, 32, 111, 102, 32, 114, 97, 110, 103, 101]⟩] 201, .cells #[.string ⟨#[105, 110, 118, 97, 108, 105, 100, 32, 115, 121, 110, 116, 97, 120]⟩] 201], #[], []⟩).heap.mapIdx laidCells }
set_option maxRecDepth 100000 in
theorem laid_met (os : Os) : laidMet Tryz.prog Rows.fnMagsRow.laid ((laidWorld os).forCall (fun _ _ => 0) ⟨#[], #[.slice none 0 0, .slice none 0 0], []⟩).memory :=
  laidMet_of_run' 8 (by kernel_rfl) (by kernel_rfl)
set_option maxRecDepth 100000 in
theorem reads (os : Os) {H : Type} (enc : TypeId × Value → H) : ∃ places, DataW.whole enc Tryz.prog ((laidWorld os).forCall (fun _ _ => 0) ⟨#[], #[.slice none 0 0, .slice none 0 0], []⟩).memory Tryz.f4.params.toList Rows.fnMagsSpec.vars false (#[.slice none 0 0, .slice none 0 0] : Array Value).toList 8 = some ([.nil, .nil], [], places) :=
  ⟨((DataW.whole enc Tryz.prog ((laidWorld os).forCall (fun _ _ => 0) ⟨#[], #[.slice none 0 0, .slice none 0 0], []⟩).memory Tryz.f4.params.toList Rows.fnMagsSpec.vars false (#[.slice none 0 0, .slice none 0 0] : Array Value).toList 8).getD ([], [], [])).2.2, by kernel_rfl⟩
set_option maxRecDepth 100000 in
theorem lifted (os : Os) (started : os.Started) (H : Type) (enc : TypeId × Value → H) (F : Stop.Interp) :
    ReturnsInHanded {} Tryz.checked os 4 .any ((OpenSpec.ofChange Rows.fnMagsSpec).preRow enc Tryz.prog Tryz.f4 Rows.fnMagsRow.domain false Rows.fnMagsRow.laid) (((OpenSpec.ofChange Rows.fnMagsSpec).at F).post enc Tryz.prog Tryz.f4 false true false false) := by
  obtain ⟨places, hx⟩ := reads os enc
  refine returnsInHanded_of_row (C := Tryz.checked) (s := OpenSpec.ofChange Rows.fnMagsSpec) own started (by kernel_rfl) Tryz.func4
    (witness_row_at (enc := enc) (C := Tryz.checked) false (laidWorld os) #[.slice none 0 0, .slice none 0 0] rfl (by kernel_rfl) (by kernel_rfl) (by kernel_rfl)
      (OpenSpec.preRow_of_cond 8 hx (by kernel_rfl) (fun k hk => by cases hk) (by kernel_rfl) (laid_met os))) ?_
  intro W base args ds gs before hval hW _ _ _ hL hSh _
  exact contract H enc W base args ds gs before hval hW hL hSh
theorem said : Rows.FnMagsSaid :=
  OpenClaim.holds_of_cond 4 Tryz.f4 rfl rfl rfl rfl rfl rfl rfl ⟨rfl, rfl, rfl, rfl, rfl⟩ rfl rfl rfl rfl rfl (by kernel_rfl) Tryz.func4 (by kernel_rfl)
    (of_decide_eq_true (by kernel_rfl)) (by unfold Func.isWrapper; first | (rw [if_pos (by decide +kernel)]; kernel_rfl) | (rw [if_neg (by decide +kernel)]; exact ⟨rfl, rfl⟩))
    (fun os started H enc _ F => by rw [OpenClaim.pre_eq_preRow]; exact lifted os started H enc F)
theorem plain (f : FuncId) (fn : Func) (hf : Tryz.pinned.checked.prog.funcNamed "loop.example/g01026/laws.FnMags" = some f) (hfn : Tryz.pinned.checked.prog.funcs[f]? = some fn) :
    true = Tryz.pinned.checked.prog.looks [] ∧ ∀ (j : Nat) t, fn.params[j]? = some t → Tryz.pinned.checked.prog.wantsStandIn t = false := by
  obtain rfl : f = 4 := Option.some.inj ((show Tryz.prog.funcNamed "loop.example/g01026/laws.FnMags" = some 4 by kernel_rfl).symm.trans hf) |>.symm
  obtain rfl : fn = Tryz.f4 := (Option.some.inj (Tryz.func4.symm.trans hfn)).symm
  refine ⟨by kernel_rfl, fun j t ht => ?_⟩
  rw [Tryz.params4] at ht
  have hm := Array.mem_of_getElem? ht
  simp at hm
  subst hm
  exact (show Tryz.prog.wantsStandIn 22 = false by kernel_rfl)
theorem proved : Rows.FnMagsCardSaid :=
  Claim7.holds_tied_plain_at .later [] _ _ _ _ said (fun _ h => by cases h) (by kernel_rfl) (fun _ h => by cases h) fnMags_row_tie rfl ⟨rfl, rfl⟩ (by kernel_rfl) rfl plain (by kernel_rfl)
#print axioms proved
end Go.Proofs.YtfnjndbnogeddaaGreatDoor.fnMags
