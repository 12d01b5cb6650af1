/- FnOfStars: for every input the law returns true: each estimate is of one star, the last one of a star is not before the others. -/
import Derived.Test.YtichcfahmdlndabB1
import Derived.Test.YtichcfahmdlndabK8
import Derived.ChangeOld
import Derived.Lib.SmallJoins
namespace Go.Proofs.Ytichcfahmdlndab.fnOfStars
open Go.ChangeShapes Go.WideShapes Go.ChangeAt Go.RowKit
open Go.ChangeMaps (open_string shut_string)
set_option linter.unusedVariables false

theorem own : ownKnob Try.prog.godebug = none := by kernel_rfl
theorem laidOut : laidOutB Try.prog = true := by kernel_rfl
set_option maxRecDepth 100000 in
set_option maxHeartbeats 8000000 in

theorem walk (a0 : Option Addr) (len0 cap0 : Nat) (z0 : List Int) (w : World) (w0 : IsRow .u8 w a0 len0 cap0 z0) :
    Calls Try.prog 3 #[.slice a0 len0 cap0] w fun e w' => e = .returned (.bool true) ∧ Below w.heap.size w w' := by
  have hb0 := LstB.of_row w0
  clear w0
  cases hlong : (decide (3000 < (len0 : Int)) || decide (3000 < ((0 : Nat) : Int)))
  case true =>
    have HL := Lib.hid hlong
    clear hlong
    go_enter Try.func3, Try.ntmps3
    go_wp2_with fail
    refine (a2Long_any _ _ _ _ _ _ _).mono ?_
    rintro e w' ⟨rfl, rfl⟩
    rw [HL.out]
    go_wp2
    go_ret
    exact ⟨rfl, Below.refl _ _⟩
  have HL := Lib.hid hlong
  have hl0 : len0 ≤ 3000 := by simp at hlong; omega
  clear hlong
  go_enter Try.func3, Try.ntmps3
  go_wp2_with fail
  refine (a2Long_any _ _ _ _ _ _ _).mono ?_
  rintro e w' ⟨rfl, rfl⟩
  rw [HL.out]
  go_wp2_with fail
  refine (A2Es_any a0 len0 cap0 w hb0 (by omega)).mono ?_
  rintro e w1 ⟨a, n, c, xs, rfl, hL1, hok, hn12, hB1⟩
  clear hb0
  go_wp2_with fail
  have ES := Lib.hid (si_0 hok)
  have HOK := Lib.hid hok
  have HLEN := Lib.hid hL1.1
  refine (iStarsIn_any a n c xs w1 hL1 (by omega)).mono ?_
  rintro e w2 ⟨⟨sa, sc, rfl, hO⟩, hB2⟩
  rw [ES.out.1]
  rw [ES.out.2] at hO ⊢
  have hS2 := (hO 1).toL
  have hL2 := hL1.mono hB2
  have hC2 := belowCall hB1 hB2
  clear hO hL1 hB1 hB2 hok ES
  have hsl : (stK xs xs.length).length ≤ 12 := Nat.le_trans (stK_len xs xs.length) (by rw [HLEN.out]; exact hn12)
  have HSR := Lib.hid (stK_rise xs xs.length)
  have HAT := Lib.hid (fun k s (hk : k < (stK xs xs.length).length) hs => star_at (s := s) HOK.out hk hs)
  have HFULL := Lib.hid (fun s (hs : (stK xs xs.length).length = s) => cntK_full (xs := xs) (stK_rise xs xs.length) (in_stars xs) hs)
  have HBD := Lib.hid (fun k => cntK_le (S := stK xs xs.length) (xs := xs) (k := k) (n := 12) (by rw [HLEN.out]; exact hn12))
  obtain ⟨S, hSS⟩ : ∃ S, stK xs xs.length = S := ⟨_, rfl⟩
  rw [hSS] at hS2 hsl HSR HAT HFULL HBD ⊢
  clear hSS
  obtain ⟨s, hs⟩ : ∃ s, S.length = s := ⟨_, rfl⟩
  rw [hs] at hS2 hsl HAT HBD ⊢
  have HS := Lib.hid hs
  clear hs
  go_wp2
  go_loopw [6, 7] (fun m i wr => ∃ k : Nat, k ≤ s ∧ i = .int .i64 (k : Int) ∧ m = .int .i64 (cntK S xs k : Int) ∧ Below w2.heap.size w2 wr) (fun _ i _ => s - (Go.RowKit.intOf i).toNat)
  case atStart => exact ⟨0, Nat.zero_le _, rfl, rfl, Below.refl _ _⟩
  case round =>
    obtain ⟨k, hk, rfl, rfl, hBr⟩ := hrel
    have hSr := hS2.mono hBr
    have hLr := hL2.mono hBr
    have hk00 : (0 : Int) ≤ (k : Int) := by omega
    by_cases hlt : k < s
    · have hkk : (k : Int) < (s : Int) := by omega
      obtain ⟨b, off, rfl, hb, hc⟩ := hSr.2 k hlt
      obtain ⟨nm, hnm⟩ : ∃ nm, S[k]?.getD ⟨#[]⟩ = nm := ⟨_, rfl⟩
      rw [hnm] at hc
      obtain ⟨hname, m, y, hfl, hy, hlast⟩ := HAT.out k nm hlt hnm
      have HNM := Lib.hid hnm
      have EO := Lib.hid (os_0 (s := nm) (f := 0) (t := 10000000) HOK.out (by rw [hname]; rfl))
      have EOS := Lib.hid (os_all (s := nm) HOK.out)
      have ELS := Lib.hid (ls_0 HOK.out hname hlast)
      have HQ := Lib.hid (cntK_step (xs := xs) (by rw [HS.out]; exact hlt) hnm)
      have HF := Lib.hid (fun j x0 x1 x2 x3 x4 (hj : j < (xs.filter (pSt nm)).length) hx => sel_star (x0 := x0) (x1 := x1) (x2 := x2) (x3 := x3) (x4 := x4) hj hx)
      have hqb := HBD.out k
      have hfb := List.length_filter_le (pSt nm) xs
      rw [HLEN.out] at hfb
      clear hnm hname hlast
      go_wp2_with fail
      refine (iOfStar_any a n c xs nm 0 10000000 wr hLr (by omega)).mono ?_
      rintro e w3 ⟨⟨oa, oc, rfl, hO3⟩, hB3⟩
      rw [EO.out.1]
      rw [EO.out.2, EOS.out] at hO3 ⊢
      have hE3 := (hO3 1).toL
      obtain ⟨F, hF⟩ : ∃ F, xs.filter (pSt nm) = F := ⟨_, rfl⟩
      rw [hF] at hE3 hfl hy hfb HQ HF ⊢
      clear hF hO3
      obtain ⟨M, hM⟩ : ∃ M, F.length = M := ⟨_, rfl⟩
      rw [hM] at hE3 hfl hfb HQ HF ⊢
      clear hM
      have HFL := Lib.hid hfl
      clear hfl
      have hL3 := hLr.mono hB3
      have hC3 := hBr.trans (hB3.mono hBr.size)
      have hc3 := (hB3.cell (p := ⟨b, off + k, none⟩) hb).trans hc
      have hS3 := hSr.mono hB3
      clear hLr hB3 EO EOS hSr
      go_wp2_with fail
      refine (iLastOf_any a n c xs nm w3 hL3 (by omega)).mono ?_
      rintro e w4 ⟨⟨y0, y1, y2, y3, y4, cc, hls, rfl⟩, hB4⟩
      rw [ELS.out] at hls
      obtain ⟨rfl, rfl⟩ := Prod.mk.inj hls
      clear hls ELS
      have hE4 := hE3.mono hB4
      have hC4 := hC3.trans (hB4.mono hC3.size)
      have hS4 := hS3.mono hB4
      clear hE3 hL3 hC3 hB4 hS3 hc3 hBr
      have b45 : Below w4.heap.size w4 (w4.alloc (.cells #[.int .i64 y0, .string y1, .string y2, .int .i64 y3, .bool y4] 32)) := (Below.refl _ _).alloc (Nat.le_refl _) _
      have hE5 := hE4.mono b45
      have hC5 := hC4.trans (b45.mono hC4.size)
      have hS5 := hS4.mono b45
      have hY5 := EsC.fresh w4 32 y0 y1 y2 y3 y4
      go_upto_region 13 with fail
      generalize (w4.alloc (.cells #[.int .i64 y0, .string y1, .string y2, .int .i64 y3, .bool y4] 32)) = w5 at b45 hE5 hC5 hS5 hY5 ⊢
      generalize w4.heap.size = Y at hY5 ⊢
      clear hE4 hC4 hS4 b45 w4
      obtain ⟨hYb, p0, p1, p2, p3, p4⟩ := hY5.parts
      rw [Nat.zero_add] at p1 p2 p3 p4
      have hfl := HFL.out
      obtain ⟨ob, oo, rfl, hX⟩ := hE5.2 m (by omega)
      rw [hy] at hX
      obtain ⟨hXb, c0, c1, c2, c3, c4⟩ := hX.parts
      obtain ⟨b', off', he, hb5, hc5⟩ := hS5.2 k hlt
      cases he
      rw [HNM.out] at hc5
      subst hfl
      have hm2 : (0 : Int) ≤ (m : Int) := by omega
      have hm6 : (m : Int) ≤ 11 := by omega
      have hm7 : ((m : Int) + 1 == 0) = false := by simp only [beq_eq_false_iff_ne, ne_eq]; omega
      have hm8 : (m : Int) < (m : Int) + 1 := by omega
      generalize cntK S xs k = Q at HQ hqb ⊢
      have hq0 : (0 : Int) ≤ (Q : Int) := by omega
      have hq1 : (Q : Int) ≤ 144 := by
        have : s * 12 ≤ 12 * 12 := Nat.mul_le_mul_right 12 hsl
        omega
      clear hX hY5 hy
      by_cases hk0 : 0 < k
      · obtain ⟨k', hk'⟩ : ∃ k', k = k' + 1 := ⟨k - 1, by omega⟩
        obtain ⟨b', off', he, hb6, hc6⟩ := hS5.2 k' (by omega)
        cases he
        obtain ⟨nm', hnm'⟩ : ∃ nm, S[k']?.getD ⟨#[]⟩ = nm := ⟨_, rfl⟩
        have hbl := rise_lt HS.out HSR.out (show k' < k by omega) hlt
        rw [hnm'] at hc6 hbl
        rw [HNM.out] at hbl
        unfold bl at hbl
        have hk1 : (k : Int) - 1 = (k' : Int) := by omega
        have hk2 : (k' : Int) < (s : Int) := by omega
        have hk3 : (0 : Int) < (k : Int) := by omega
        have hk4 : (0 : Int) ≤ (k' : Int) := by omega
        have hk5 : decide (0 < k) = true := by simp; omega
        have hk6 : decide ((0 : Int) < (k : Int)) = true := by simp; omega
        clear hnm' hk'
        (go_big_quiet (fail); go_wp2; go_loopw [12] (fun i wi => ∃ j : Nat, j ≤ m + 1 ∧ i = .int .i64 (j : Int) ∧ Below w5.heap.size w5 wi) (fun i _ => m + 1 - (Go.RowKit.intOf i).toNat); (case atStart => exact ⟨0, Nat.zero_le _, rfl, by (repeat (first | assumption | exact Below.refl _ _ | refine belowDN ?_ _ | refine Below.drew ?_ | refine Below.setCell ?_ (by first | omega | (simp <;> omega)) _ | refine Below.alloc ?_ (by first | omega | (simp <;> omega)) _ | refine belowCall ?_ (by assumption)))⟩); (case round => (obtain ⟨j, hj, rfl, hBi⟩ := hrel; have hj0 : (0 : Int) ≤ (j : Int) := (by omega); have hci := (hBi.cell (p := ⟨b, off + k, none⟩) hb5).trans hc5; by_cases hjl : j < m + 1; (focus (have hjj : (j : Int) < ((m : Int) + 1) := (by omega); obtain ⟨ob', oo', he, hZ⟩ := (hE5.mono hBi).2 j hjl; cases he; obtain ⟨⟨z0, z1, z2, z3, z4⟩, hz⟩ : ∃ z, F[j]?.getD es0 = z := ⟨_, rfl⟩; rw [hz] at hZ; have hzn := HF.out j z0 z1 z2 z3 z4 hjl hz; subst hzn; clear hz; obtain ⟨-, -, g1, -, -, -⟩ := hZ.parts; clear hZ; go_wp2; go_big_quiet (fail); go_wp2; go_roundw; (case rel => exact ⟨j + 1, by omega, by go_num, by (repeat (first | assumption | exact Below.refl _ _ | refine belowDN ?_ _ | refine Below.drew ?_ | refine Below.setCell ?_ (by first | omega | (simp <;> omega)) _ | refine Below.alloc ?_ (by first | omega | (simp <;> omega)) _ | refine belowCall ?_ (by assumption)))⟩); (case measure => simp [Go.RowKit.intOf]; omega))); (focus (obtain rfl : j = m + 1 := (by omega); go_wp2; go_roundw; (case rel => exact ⟨k + 1, by omega, by go_num, (by rw [HQ.out]; first | rfl | go_num | simp), by (repeat (first | assumption | exact Below.refl _ _ | refine belowDN ?_ _ | refine Below.drew ?_ | refine Below.setCell ?_ (by first | omega | (simp <;> omega)) _ | refine Below.alloc ?_ (by first | omega | (simp <;> omega)) _ | refine belowCall ?_ (by assumption)))⟩); (case measure => simp [Go.RowKit.intOf]; omega))))))
      · have hk5 : decide (0 < k) = false := by simp; omega
        have hk6 : decide ((0 : Int) < (k : Int)) = false := by simp; omega
        (go_big_quiet (fail); go_wp2; go_loopw [12] (fun i wi => ∃ j : Nat, j ≤ m + 1 ∧ i = .int .i64 (j : Int) ∧ Below w5.heap.size w5 wi) (fun i _ => m + 1 - (Go.RowKit.intOf i).toNat); (case atStart => exact ⟨0, Nat.zero_le _, rfl, by (repeat (first | assumption | exact Below.refl _ _ | refine belowDN ?_ _ | refine Below.drew ?_ | refine Below.setCell ?_ (by first | omega | (simp <;> omega)) _ | refine Below.alloc ?_ (by first | omega | (simp <;> omega)) _ | refine belowCall ?_ (by assumption)))⟩); (case round => (obtain ⟨j, hj, rfl, hBi⟩ := hrel; have hj0 : (0 : Int) ≤ (j : Int) := (by omega); have hci := (hBi.cell (p := ⟨b, off + k, none⟩) hb5).trans hc5; by_cases hjl : j < m + 1; (focus (have hjj : (j : Int) < ((m : Int) + 1) := (by omega); obtain ⟨ob', oo', he, hZ⟩ := (hE5.mono hBi).2 j hjl; cases he; obtain ⟨⟨z0, z1, z2, z3, z4⟩, hz⟩ : ∃ z, F[j]?.getD es0 = z := ⟨_, rfl⟩; rw [hz] at hZ; have hzn := HF.out j z0 z1 z2 z3 z4 hjl hz; subst hzn; clear hz; obtain ⟨-, -, g1, -, -, -⟩ := hZ.parts; clear hZ; go_wp2; go_big_quiet (fail); go_wp2; go_roundw; (case rel => exact ⟨j + 1, by omega, by go_num, by (repeat (first | assumption | exact Below.refl _ _ | refine belowDN ?_ _ | refine Below.drew ?_ | refine Below.setCell ?_ (by first | omega | (simp <;> omega)) _ | refine Below.alloc ?_ (by first | omega | (simp <;> omega)) _ | refine belowCall ?_ (by assumption)))⟩); (case measure => simp [Go.RowKit.intOf]; omega))); (focus (obtain rfl : j = m + 1 := (by omega); go_wp2; go_roundw; (case rel => exact ⟨k + 1, by omega, by go_num, (by rw [HQ.out]; first | rfl | go_num | simp), by (repeat (first | assumption | exact Below.refl _ _ | refine belowDN ?_ _ | refine Below.drew ?_ | refine Below.setCell ?_ (by first | omega | (simp <;> omega)) _ | refine Below.alloc ?_ (by first | omega | (simp <;> omega)) _ | refine belowCall ?_ (by assumption)))⟩); (case measure => simp [Go.RowKit.intOf]; omega))))))
    · obtain rfl : k = s := by omega
      have HE := Lib.hid (show ((cntK S xs k : Nat) : Int) = (n : Int) by rw [HFULL.out k HS.out, HLEN.out])
      rw [HE.out]
      go_wp2
      go_ret
      exact ⟨rfl, by (repeat (first | assumption | exact Below.refl _ _ | refine belowDN ?_ _ | refine Below.drew ?_ | refine Below.setCell ?_ (by first | omega | (simp <;> omega)) _ | refine Below.alloc ?_ (by first | omega | (simp <;> omega)) _ | refine belowCall ?_ (by assumption)))⟩

set_option maxRecDepth 100000 in
theorem lifted (os : Os) (started : os.Started) (H : Type) (enc : TypeId × Value → H) :
    ReturnsInHanded {} Try.checked os 3 .any (Rows.fnOfStarsSpec.pre6 enc Try.prog Try.f3 Rows.fnOfStarsRow.domain false) (Rows.fnOfStarsSpec.post enc Try.prog Try.f3 false true false false) := by
  refine returnsInHanded_of_change (C := Try.checked) own started (by kernel_rfl) Try.func3
    (ChangeSpec.witness6 (enc := enc) (C := Try.checked) false ⟨#[], #[.slice none 0 0], []⟩ 8 (by kernel_rfl) (by kernel_rfl) (by kernel_rfl) (by kernel_rfl)) ?_
  intro W base args ds gs before hval0 hW hcnd _
  have hval : ∀ (j : Nat) t v, Try.f3.params[j]? = some t → args[j]? = some v → Value.okWide Try.prog W .any base t v := hval0
  have hW' := hW
  obtain ⟨p, q, hA0, hV, rfl, hfz, hnd⟩ := hW
  have hA : DataW.TrodAll enc Try.prog W 0 (fun _ => true) true Try.f3.params.toList args.toList ds p := hA0
  rw [Try.params3] at hA hval
  obtain ⟨v0, vs0, d0, ds0, p0, q0, hargs, rfl, rfl, h0, r0⟩ := trodAll_cons hA
  obtain ⟨rfl, rfl, rfl⟩ := trodAll_nil r0
  obtain rfl : args = #[v0] := by cases args; simp_all
  obtain ⟨rfl, rfl⟩ := trodVars_none hV
  have k0 := h0
  have lt0 : ∀ x ∈ p0, x.block < W.heap.size := by obtain ⟨m, hm⟩ := k0; exact DataW.trod_lt m _ _ _ hm
  obtain ⟨a0, len0, cap0, rfl⟩ := okWide_slice Try.underlying22 (hval 0 22 v0 rfl rfl)
  obtain ⟨z0, w0⟩ : ∃ zs, IsRow .u8 W a0 len0 cap0 zs := by
    obtain ⟨fuel, hf⟩ := h0
    rcases open_ints Try.underlying22 Try.underlying5 (by kernel_rfl) hf with ⟨hcs, _⟩ | ⟨x, l, c, zs, hcs, _, hl, hm, hz, _, hcell, hwz⟩
    · simp [Value.cells] at hcs
      obtain ⟨rfl, rfl, rfl⟩ := hcs
      exact ⟨[], .inl ⟨rfl, rfl, rfl, rfl⟩⟩
    · simp [Value.cells] at hcs
      obtain ⟨rfl, rfl, rfl⟩ := hcs
      exact ⟨zs, .inr ⟨_, rfl, hl, hm, by simpa using hz, hcell, hwz⟩⟩
  clear hA0 hval0
  refine (walk a0 len0 cap0 z0 W w0).mono fun e W' ⟨he, bel⟩ => ?_
  subst he
  exact ⟨_, rfl, _, _, _, [], _, [], hW', trodAll_mk1 (shut_bool Try.underlying4 _), (trodAll_cons_mk (Below.trod laidOut (by kernel_rfl) (of_decide_eq_true (by kernel_rfl)) k0 bel lt0) trodAll_mk0), rfl, bel.frame _, fun h => by cases h⟩

theorem over : Rows.fnOfStarsRow.holds Try.pinned (OpenSpec.ofChange Rows.fnOfStarsSpec) :=
  OpenClaim.holds_of_wide 3 Try.f3 rfl rfl rfl rfl rfl rfl rfl ⟨rfl, rfl, rfl, rfl, rfl⟩ rfl rfl rfl rfl rfl (by kernel_rfl) Try.func3 (by kernel_rfl)
    (of_decide_eq_true (by kernel_rfl)) (by unfold Func.isWrapper; first | (rw [if_pos (by decide +kernel)]; kernel_rfl) | (rw [if_neg (by decide +kernel)]; exact ⟨rfl, rfl⟩))
    (fun os started H enc _ => lifted os started H enc)

theorem proved : Rows.FnOfStarsSaid := over
#print axioms proved
end Go.Proofs.Ytichcfahmdlndab.fnOfStars
