/- FnSlopes: for every input the law returns true: points that are all fainter by the same have the same slope, and points on a line have that of the line. -/
import Derived.Test.YtiogffjhhhpolaaB1
import Derived.Test.YtiogffjhhhpolaaKE
import Derived.Test.YtiogffjhhhpolaaKD
import Derived.ChangeOld
import Derived.Lib.SmallJoins
namespace Go.Proofs.Ytiogffjhhhpolaa.fnSlopes
open Go.ChangeShapes Go.WideShapes Go.ChangeAt Go.RowKit
open Go.ChangeMaps (open_string shut_string)
set_option linter.unusedVariables false

theorem own : ownKnob Try.prog.godebug = none := by kernel_rfl
theorem laidOut : laidOutB Try.prog = true := by kernel_rfl
set_option maxRecDepth 100000 in
set_option maxHeartbeats 8000000 in

theorem walk (a0 : Option Addr) (len0 cap0 : Nat) (z0 : List Int) (a1 : Option Addr) (len1 cap1 : Nat) (z1 : List Int) (w : World) (w0 : IsRow .u8 w a0 len0 cap0 z0) (w1 : IsRow .u8 w a1 len1 cap1 z1) :
    Calls Try.prog 5 #[.slice a0 len0 cap0, .slice a1 len1 cap1] w fun e w' => e = .returned (.bool true) ∧ Below w.heap.size w w' := by
  have hb0 := LstB.of_row w0
  have hb1 := LstB.of_row w1
  clear w0 w1
  cases hlong : (decide (3000 < (len0 : Int)) || decide (3000 < (len1 : Int)))
  case true =>
    have HL := Lib.hid hlong
    clear hlong
    go_enter Try.func5, Try.ntmps5
    go_wp2_with fail
    refine (a2Long_any _ _ _ _ _ _ _).mono ?_
    rintro e w' ⟨rfl, rfl⟩
    rw [HL.out]
    go_wp2
    go_ret
    exact ⟨rfl, Below.refl _ _⟩
  have HL := Lib.hid hlong
  have hl0 : len0 ≤ 3000 := by simp at hlong; omega
  have hl1 : len1 ≤ 3000 := by simp at hlong; omega
  clear hlong
  obtain ⟨i0, hi, hz0, hz1, hz2⟩ := info_parts Pt_info
  go_enter Try.func5, Try.ntmps5
  go_wp2_with fail
  refine (a2Long_any _ _ _ _ _ _ _).mono ?_
  rintro e w' ⟨rfl, rfl⟩
  rw [HL.out]
  go_wp2_with fail
  refine (A2Curve_any a0 len0 cap0 w hb0 (by omega)).mono ?_
  rintro e w1 ⟨a, n, c, xs, rfl, hL1, hok, hn12, hnc, hdr, hB1⟩
  have hb1' := hb1.below hB1
  have HN := Lib.hid hL1.1
  have HOK := Lib.hid hok
  have HDR := Lib.hid hdr
  obtain ⟨-, hbd, -⟩ := okP_num hL1.1 hok
  have HBD := Lib.hid hbd
  have hnn : (n : Int) ≤ 12 := by omega
  clear hb0 hb1 hok hdr hbd
  go_wp2_with fail
  refine (iSlope_any (some ⟨a, 0, none⟩) n c xs w1 hL1 (by omega)).mono ?_
  rintro e w2 ⟨⟨s0, s1, sc, hsl, rfl⟩, b2⟩
  have HSL := Lib.hid hsl
  have B2 := belowCall hB1 b2
  have hL2 := hL1.mono b2
  have hb2 := hb1'.below (b2.mono hB1.size)
  clear hsl hb1' hL1
  by_cases hn2 : n < 2
  · have hsc : sc = 3 := by
      have h1 := sl_3 HN.out HOK.out hn2
      rw [HSL.out] at h1
      cases h1
      rfl
    subst hsc
    have hl2 : (n : Int) < 2 := by omega
    go_wp2
    go_ret
    exact ⟨rfl, B2.alloc B2.size _⟩
  have hl2 : ¬ (n : Int) < 2 := by omega
  have h0 := sl_0 HN.out HOK.out hn2
  rw [HSL.out] at h0
  have hsc : sc = 0 := by cases h0; rfl
  have hs1 : 1 ≤ s1 := by
    obtain ⟨-, hD, -⟩ := sl_bd HN.out HOK.out hn2
    have := lowD_pos (a := 10000 * slN xs) hD
    have e : s1 = lowD (10000 * slN xs) (slD xs) := by injection h0 with _ h0; injection h0
    rw [e]; exact this
  subst hsc
  clear h0
  have q0 := FrC.fresh w2 43 s0 s1
  have B3 : Below w2.heap.size w2 (w2.alloc (.cells #[.int .i64 s0, .int .i64 s1] 43)) := by (repeat (first | assumption | exact Below.refl _ _ | refine belowDN ?_ _ | refine Below.drew ?_ | refine Below.setCell ?_ (by first | omega | (simp <;> omega)) _ | refine Below.alloc ?_ (by first | omega | (simp <;> omega)) _ | refine belowCall ?_ (by assumption)))
  have hL3 := hL2.mono B3
  have hb3 := hb2.below (B3.mono B2.size)
  have hz3 : (w2.alloc (.cells #[.int .i64 s0, .int .i64 s1] 43)).heap.size = w2.heap.size + 1 := by simp
  go_wp2_with fail
  generalize w2.alloc (.cells #[.int .i64 s0, .int .i64 s1] 43) = w3 at q0 B3 hL3 hb3 hz3 ⊢
  clear hz3
  refine (a2At_any w.heap.size a1 len1 cap1 0 100 w3 hb3 (by omega) (by omega) (by omega)).mono ?_
  rintro e w3' ⟨rr, rfl, rr0, rr1, rfl⟩
  obtain ⟨r, hr⟩ : ∃ r, rr - 50 = r := ⟨_, rfl⟩
  have hr1 : -50 ≤ r ∧ r ≤ 49 := by omega
  have hlitf : (w3.alloc (.cells #[] 37)).ownsRow w3.heap.size 37 2 (.slice (some ⟨w3.heap.size, 0, none⟩) 0 0) 0 [] := World.ownsRow_lit w3 #[] 0 (Nat.le_refl _) (by unfold maxLen; omega) rfl
  have hlitl : ((w3.alloc (.cells #[] 37)).alloc (.cells #[] 37)).ownsRow w3.heap.size 37 2 (.slice (some ⟨(w3.alloc (.cells #[] 37)).heap.size, 0, none⟩) 0 0) 0 [] := ownLow (World.ownsRow_lit _ #[] 0 (Nat.le_refl _) (by unfold maxLen; omega) rfl) (by simp)
  have hn0 : 0 < n := by omega
  obtain ⟨⟨t0, m0⟩, ht0⟩ : ∃ x, xs[0]?.getD pt0 = x := ⟨_, rfl⟩
  have hbt := HBD.out 0 hn0
  rw [ht0] at hbt
  have htm : t0 % 100 = 0 := by have := HDR.out 0 hn0; rw [ht0] at this; exact this.1
  have HT0 := Lib.hid ht0
  have B32 := belowCall B2 B3
  go_wp2
  (try rw [hr])
  clear hr rr0 rr1
  go_loopw [9, 10, 11] (fun of ol i wr => ∃ (k gf cf gl cl : Nat), k ≤ n ∧ i = .int .i64 k ∧ of = .slice (some ⟨gf, 0, none⟩) k cf ∧ ol = .slice (some ⟨gl, 0, none⟩) k cl ∧ gf ≠ gl ∧ wr.ownsRow w3.heap.size 37 2 (.slice (some ⟨gf, 0, none⟩) k cf) k (flatPt ((fnt xs).take k)) ∧ wr.ownsRow w3.heap.size 37 2 (.slice (some ⟨gl, 0, none⟩) k cl) k (flatPt ((lin xs t0 r).take k)) ∧ Below w3.heap.size w3 wr) (fun _ _ i _ => n - (Go.RowKit.intOf i).toNat)
  case atStart => exact ⟨0, w3.heap.size, 0, w3.heap.size + 1, 0, Nat.zero_le _, rfl, rfl, by simp, by omega, hlitf.alloc _, by simpa [flatPt] using hlitl, by (repeat (first | assumption | exact Below.refl _ _ | refine belowDN ?_ _ | refine Below.drew ?_ | refine Below.setCell ?_ (by first | omega | (simp <;> omega)) _ | refine Below.alloc ?_ (by first | omega | (simp <;> omega)) _ | refine belowCall ?_ (by assumption)))⟩
  case round =>
    obtain ⟨k, gf, cf, gl, cl, hk, rfl, rfl, rfl, hfl, hownf, hownl, hB⟩ := hrel
    clear hlitf hlitl
    have hsz := hB.size
    by_cases hlt : k < n
    · obtain ⟨⟨x0, x1⟩, hx⟩ : ∃ x, xs[k]?.getD pt0 = x := ⟨_, rfl⟩
      have hbx := HBD.out k hlt
      rw [hx] at hbx
      obtain ⟨p0, p1⟩ := (hL3.mono hB).get hlt hx
      have HSF := Lib.hid (fnt_step HN.out hlt hx)
      have HSL2 := Lib.hid (lin_step (t0 := t0) (r := r) HN.out hlt hx)
      have hgf := hownf.lt gf rfl
      have hgl := hownl.lt gl rfl
      have hkk : (k : Int) < (n : Int) := by omega
      have hab : a < wr.heap.size := World.block_lt_of_cell? wr _ p0
      have u1 := absMul (a := r) (b := x0 - t0) (A := 50) (B := 10000000) (by omega) (by omega) (by omega) (by omega)
      have u2 := tdiv_bd (r * (x0 - t0)) 100 500000000 (by omega) (by omega)
      have hwx : IntKind.i64.wrap (x1 + 500) = x1 + 500 := IntWalk.i64_in _ (by omega)
      have hw1 : IntKind.i64.wrap (x0 - t0) = x0 - t0 := IntWalk.i64_in _ (by omega)
      have hw2 : IntKind.i64.wrap (r * (x0 - t0)) = r * (x0 - t0) := IntWalk.i64_in _ (by omega)
      have hw3 : IntKind.i64.wrap ((r * (x0 - t0)).tdiv 100) = (r * (x0 - t0)).tdiv 100 := IntWalk.i64_in _ (by omega)
      have hw4 : IntKind.i64.wrap (9000 + (r * (x0 - t0)).tdiv 100) = 9000 + (r * (x0 - t0)).tdiv 100 := IntWalk.i64_in _ (by omega)
      generalize flatPt ((fnt xs).take k) = LF at hownf HSF
      generalize flatPt ((lin xs t0 r).take k) = LL at hownl HSL2
      go_wp2_with fail
      go_region_held3 (fun W' => W'.cell? ⟨a, k * 2, none⟩ = some (.int .i64 x0) ∧ W'.cell? ⟨a, k * 2 + 1, none⟩ = some (.int .i64 x1)) (refine ⟨?_, ?_⟩ <;> first | assumption | go_keep) (first | (refine Go.step_append_lies _ rfl (.tmp 42) (.tmp 55) 24 rfl w3.heap.size 37 i0 _ 2 16 Try.underlying24 hi hz0 hz1 hz2 rfl (by decide) (.slice (some ⟨gf, 0, none⟩) k cf) k LF (by simp [Act.eval]) ((ownKeepJ hownf (show Below wr.heap.size wr wr.drew by (repeat (first | assumption | exact Below.refl _ _ | refine belowDN ?_ _ | refine Below.drew ?_ | refine Below.setCell ?_ (by first | omega | (simp <;> omega)) _ | refine Below.alloc ?_ (by first | omega | (simp <;> omega)) _ | refine belowCall ?_ (by assumption))))).alloc _) ⟨wr.heap.size, 0, none⟩ 1 1 [.int .i64 x0, .int .i64 (x1 + 500)] (by simp [Act.eval]) rfl (cellsPt wr.drew _ _ _) (by intro u hu; simp at hu; rcases hu with rfl | rfl <;> rfl) (by decide) (by unfold maxLen; omega) (by omega) (by first | (simp; omega) | omega) _ rfl ?_; intro gf2 cf2 wb hownf2 hgb hlies hglt; have hbb : Below w3.heap.size w3 wb := (hB.drew.alloc hsz (.cells #[.int .i64 x0, .int .i64 (x1 + 500)] 37)).grown hgb (by first | (simp; omega) | omega) (fun kk hk => (hownf.lt kk hk).1); obtain ⟨s0, s1⟩ := (hL3.mono hbb).get hlt hx))
      all_goals
        have hszb := hbb.size
        have hownl2 := ((ownKeepJ hownl (show Below wr.heap.size wr wr.drew by (repeat (first | assumption | exact Below.refl _ _ | refine belowDN ?_ _ | refine Below.drew ?_ | refine Below.setCell ?_ (by first | omega | (simp <;> omega)) _ | refine Below.alloc ?_ (by first | omega | (simp <;> omega)) _ | refine belowCall ?_ (by assumption))))).alloc (.cells #[.int .i64 x0, .int .i64 (x1 + 500)] 37)).kept hgb (.inr (show (some gl : Option Nat) ≠ some gf from fun e => hfl (Option.some.inj e).symm))
        have hgf2 : gf2 ≠ gl := by
          rcases hlies with e | e
          · have e' : (some gf : Option Nat) = some gf2 := e
            cases e'
            exact hfl
          · have e' : gf2 = wr.heap.size + 1 := by simpa using e
            omega
        have hgl2 := (hownl2.lt gl rfl).2
        obtain ⟨y0, -⟩ := (hL3.mono hbb).get hn0 HT0.out
        rw [Nat.zero_mul] at y0
        have HOF := Lib.hid hownf2
        clear hownf hownl hgb hlies hownf2 p0 p1
        go_wp2_with fail
        go_region_held3 (fun W' => W'.cell? ⟨a, k * 2, none⟩ = some (.int .i64 x0) ∧ W'.cell? ⟨a, 0, none⟩ = some (.int .i64 t0)) (refine ⟨?_, ?_⟩ <;> first | assumption | go_keep) (first | (refine Go.step_append_lies _ rfl (.tmp 57) (.tmp 78) 24 rfl w3.heap.size 37 i0 _ 2 16 Try.underlying24 hi hz0 hz1 hz2 rfl (by decide) (.slice (some ⟨gl, 0, none⟩) k cl) k LL (by simp [Act.eval]) ((ownKeepJ hownl2 (show Below wb.heap.size wb wb.drew by (repeat (first | assumption | exact Below.refl _ _ | refine belowDN ?_ _ | refine Below.drew ?_ | refine Below.setCell ?_ (by first | omega | (simp <;> omega)) _ | refine Below.alloc ?_ (by first | omega | (simp <;> omega)) _ | refine belowCall ?_ (by assumption))))).alloc _) ⟨wb.heap.size, 0, none⟩ 1 1 [.int .i64 x0, .int .i64 (9000 + (r * (x0 - t0)).tdiv 100)] (by simp [Act.eval]) rfl (cellsPt wb.drew _ _ _) (by intro u hu; simp at hu; rcases hu with rfl | rfl <;> rfl) (by decide) (by unfold maxLen; omega) (by omega) (by first | (simp; omega) | omega) _ rfl ?_; intro gl2 cl2 wc hownl3 hgc hliel hgll; have hbc : Below w3.heap.size w3 wc := (hbb.drew.alloc hszb (.cells #[.int .i64 x0, .int .i64 (9000 + (r * (x0 - t0)).tdiv 100)] 37)).grown hgc (by first | (simp; omega) | omega) (fun kk hk => (hownl2.lt kk hk).1); obtain ⟨v0, v1⟩ := (hL3.mono hbc).get hlt hx; obtain ⟨z0, -⟩ := (hL3.mono hbc).get hn0 ht0))
        all_goals
          have hownf3 := ((ownKeepJ HOF.out (show Below wb.heap.size wb wb.drew by (repeat (first | assumption | exact Below.refl _ _ | refine belowDN ?_ _ | refine Below.drew ?_ | refine Below.setCell ?_ (by first | omega | (simp <;> omega)) _ | refine Below.alloc ?_ (by first | omega | (simp <;> omega)) _ | refine belowCall ?_ (by assumption))))).alloc (.cells #[.int .i64 x0, .int .i64 (9000 + (r * (x0 - t0)).tdiv 100)] 37)).kept hgc (.inr (show (some gf2 : Option Nat) ≠ some gl from fun e => hgf2 (Option.some.inj e)))
          have hgfl : gf2 ≠ gl2 := by
            rcases hliel with e | e
            · have e' : (some gl : Option Nat) = some gl2 := e
              cases e'
              exact hgf2
            · have e' : gl2 = wb.heap.size + 1 := by simpa using e
              omega
          have HOF3 := Lib.hid hownf3
          have HOL := Lib.hid hownl3
          clear hownf3 hownl3 hgc hliel hownl2 HOF
          go_wp2
          go_roundw
          case rel => exact ⟨k + 1, gf2, cf2, gl2, cl2, by omega, by go_num, rfl, rfl, hgfl, by rw [HSF.out]; exact HOF3.out, by rw [HSL2.out]; exact HOL.out, hbc⟩
          case measure => simp [Go.RowKit.intOf]; omega
    · obtain rfl : k = n := by omega
      have hfl2 : (fnt xs).length = k := by rw [fnt_len, HN.out]
      have hll2 : (lin xs t0 r).length = k := by rw [lin_len, HN.out]
      rw [List.take_of_length_le (by rw [hfl2]; exact Nat.le_refl _)] at hownf
      rw [List.take_of_length_le (by rw [hll2]; exact Nat.le_refl _)] at hownl
      have hF := PtL.of_own hownf hfl2
      have hLn := PtL.of_own hownl hll2
      have HSF := Lib.hid (fnt_sl HN.out HOK.out HDR.out)
      have HSLN := Lib.hid (fun e => lin_sl (t0 := t0) (r := r) HN.out HDR.out htm hn2 e)
      have k0 := (q0.mono hB).parts
      obtain ⟨-, k0, k1⟩ := k0
      rw [Nat.zero_add] at k1
      have q1 := q0.mono hB
      clear hownf hownl
      go_wp2_with fail
      refine (iSlope_any _ k cf (fnt xs) wr hF (by omega)).mono ?_
      rintro e w5 ⟨⟨u0, u1, uc, husl, rfl⟩, b5⟩
      have hq := (HSL.out.symm.trans HSF.out.symm).trans husl
      cases hq
      have B5 := hB.trans (b5.mono hB.size)
      have q2 := (q0.mono B5)
      have hL5 := hLn.mono b5
      have B6 : Below w5.heap.size w5 (w5.alloc (.cells #[.int .i64 s0, .int .i64 s1] 43)) := by (repeat (first | assumption | exact Below.refl _ _ | refine belowDN ?_ _ | refine Below.drew ?_ | refine Below.setCell ?_ (by first | omega | (simp <;> omega)) _ | refine Below.alloc ?_ (by first | omega | (simp <;> omega)) _ | refine belowCall ?_ (by assumption)))
      have q3 := (q2.mono B6).parts
      obtain ⟨-, f0, f1⟩ := q3
      rw [Nat.zero_add] at f1
      have q4 := (FrC.fresh w5 43 s0 s1).parts
      obtain ⟨-, g0, g1⟩ := q4
      rw [Nat.zero_add] at g1
      have hL6 := hL5.mono B6
      have B36 : Below w3.heap.size w3 (w5.alloc (.cells #[.int .i64 s0, .int .i64 s1] 43)) := B5.trans (B6.mono B5.size)
      clear husl k0 k1
      go_wp2_with fail
      generalize w5.alloc (.cells #[.int .i64 s0, .int .i64 s1] 43) = w6 at B6 f0 f1 g0 g1 hL6 B36 ⊢
      have hsd : decide (s1 < 1) = false := by simp; omega
      have hne := neq_Fr s0 s1 s0 s1
      rw [show FrE (s0, s1) (s0, s1) = true from FrE_self (s0, s1)] at hne
      go_wp2_with fail
      refine (sValidCv_any (some ⟨gl, 0, none⟩) k cl (lin xs t0 r) w6 hL6 (by omega)).mono ?_
      rintro e w7 ⟨rfl, b7⟩
      have B7 := hB1.trans (b2.mono hB1.size)
      have B8 := B7.trans (B3.mono B7.size)
      have B9 := B8.trans (B36.mono B8.size)
      have B10 := B9.trans (b7.mono B9.size)
      cases hlo : okP (lin xs t0 r)
      · go_wp2
        go_ret
        exact ⟨rfl, B10⟩
      · have HLS := Lib.hid (HSLN.out hlo)
        have hL7 := hL6.mono b7
        clear hlo
        go_wp2_with fail
        refine (iSlope_any (some ⟨gl, 0, none⟩) k cl (lin xs t0 r) w7 hL7 (by omega)).mono ?_
        rintro e w8 ⟨⟨v0, v1, vc, hvsl, rfl⟩, b8⟩
        have hv := HLS.out.symm.trans hvsl
        cases hv
        have hwr : IntKind.i64.wrap (100 * r) = 100 * r := IntWalk.i64_in _ (by omega)
        have heq : ∀ W : World, (binOp .eql 43 (.agg #[.int .i64 (100 * r), .int .i64 1]) (.agg #[.int .i64 (100 * r), .int .i64 1])).run Try.prog W = .ok (.bool true) W := fun W => by
          rw [run_eql_struct]
          simp [go_sem]
        have B11 := B10.trans (b8.mono B10.size)
        clear hvsl hne
        go_wp2
        go_ret
        exact ⟨rfl, B11.alloc B11.size _⟩

set_option maxRecDepth 100000 in
theorem lifted (os : Os) (started : os.Started) (H : Type) (enc : TypeId × Value → H) :
    ReturnsInHanded {} Try.checked os 5 .any (Rows.fnSlopesSpec.pre6 enc Try.prog Try.f5 Rows.fnSlopesRow.domain false) (Rows.fnSlopesSpec.post enc Try.prog Try.f5 false true false false) := by
  refine returnsInHanded_of_change (C := Try.checked) own started (by kernel_rfl) Try.func5
    (ChangeSpec.witness6 (enc := enc) (C := Try.checked) false ⟨#[], #[.slice none 0 0, .slice none 0 0], []⟩ 8 (by kernel_rfl) (by kernel_rfl) (by kernel_rfl) (by kernel_rfl)) ?_
  intro W base args ds gs before hval0 hW hcnd _
  have hval : ∀ (j : Nat) t v, Try.f5.params[j]? = some t → args[j]? = some v → Value.okWide Try.prog W .any base t v := hval0
  have hW' := hW
  obtain ⟨p, q, hA0, hV, rfl, hfz, hnd⟩ := hW
  have hA : DataW.TrodAll enc Try.prog W 0 (fun _ => true) true Try.f5.params.toList args.toList ds p := hA0
  rw [Try.params5] at hA hval
  obtain ⟨v0, vs0, d0, ds0, p0, q0, hargs, rfl, rfl, h0, r0⟩ := trodAll_cons hA
  obtain ⟨v1, vs1, d1, ds1, p1, q1, rfl, rfl, rfl, h1, r1⟩ := trodAll_cons r0
  obtain ⟨rfl, rfl, rfl⟩ := trodAll_nil r1
  obtain rfl : args = #[v0, v1] := by cases args; simp_all
  obtain ⟨rfl, rfl⟩ := trodVars_none hV
  have k0 := h0
  have lt0 : ∀ x ∈ p0, x.block < W.heap.size := by obtain ⟨m, hm⟩ := k0; exact DataW.trod_lt m _ _ _ hm
  obtain ⟨a0, len0, cap0, rfl⟩ := okWide_slice Try.underlying22 (hval 0 22 v0 rfl rfl)
  obtain ⟨z0, w0⟩ : ∃ zs, IsRow .u8 W a0 len0 cap0 zs := by
    obtain ⟨fuel, hf⟩ := h0
    rcases open_ints Try.underlying22 Try.underlying5 (by kernel_rfl) hf with ⟨hcs, _⟩ | ⟨x, l, c, zs, hcs, _, hl, hm, hz, _, hcell, hwz⟩
    · simp [Value.cells] at hcs
      obtain ⟨rfl, rfl, rfl⟩ := hcs
      exact ⟨[], .inl ⟨rfl, rfl, rfl, rfl⟩⟩
    · simp [Value.cells] at hcs
      obtain ⟨rfl, rfl, rfl⟩ := hcs
      exact ⟨zs, .inr ⟨_, rfl, hl, hm, by simpa using hz, hcell, hwz⟩⟩
  have k1 := h1
  have lt1 : ∀ x ∈ p1, x.block < W.heap.size := by obtain ⟨m, hm⟩ := k1; exact DataW.trod_lt m _ _ _ hm
  obtain ⟨a1, len1, cap1, rfl⟩ := okWide_slice Try.underlying22 (hval 1 22 v1 rfl rfl)
  obtain ⟨z1, w1⟩ : ∃ zs, IsRow .u8 W a1 len1 cap1 zs := by
    obtain ⟨fuel, hf⟩ := h1
    rcases open_ints Try.underlying22 Try.underlying5 (by kernel_rfl) hf with ⟨hcs, _⟩ | ⟨x, l, c, zs, hcs, _, hl, hm, hz, _, hcell, hwz⟩
    · simp [Value.cells] at hcs
      obtain ⟨rfl, rfl, rfl⟩ := hcs
      exact ⟨[], .inl ⟨rfl, rfl, rfl, rfl⟩⟩
    · simp [Value.cells] at hcs
      obtain ⟨rfl, rfl, rfl⟩ := hcs
      exact ⟨zs, .inr ⟨_, rfl, hl, hm, by simpa using hz, hcell, hwz⟩⟩
  clear hA0 hval0
  refine (walk a0 len0 cap0 z0 a1 len1 cap1 z1 W w0 w1).mono fun e W' ⟨he, bel⟩ => ?_
  subst he
  exact ⟨_, rfl, _, _, _, [], _, [], hW', trodAll_mk1 (shut_bool Try.underlying4 _), (trodAll_cons_mk (Below.trod laidOut (by kernel_rfl) (of_decide_eq_true (by kernel_rfl)) k0 bel lt0) (trodAll_cons_mk (Below.trod laidOut (by kernel_rfl) (of_decide_eq_true (by kernel_rfl)) k1 bel lt1) trodAll_mk0)), rfl, bel.frame _, fun h => by cases h⟩

theorem over : Rows.fnSlopesRow.holds Try.pinned (OpenSpec.ofChange Rows.fnSlopesSpec) :=
  OpenClaim.holds_of_wide 5 Try.f5 rfl rfl rfl rfl rfl rfl rfl ⟨rfl, rfl, rfl, rfl, rfl⟩ rfl rfl rfl rfl rfl (by kernel_rfl) Try.func5 (by kernel_rfl)
    (of_decide_eq_true (by kernel_rfl)) (by unfold Func.isWrapper; first | (rw [if_pos (by decide +kernel)]; kernel_rfl) | (rw [if_neg (by decide +kernel)]; exact ⟨rfl, rfl⟩))
    (fun os started H enc _ => lifted os started H enc)

theorem proved : Rows.FnSlopesSaid := over
#print axioms proved
end Go.Proofs.Ytiogffjhhhpolaa.fnSlopes
