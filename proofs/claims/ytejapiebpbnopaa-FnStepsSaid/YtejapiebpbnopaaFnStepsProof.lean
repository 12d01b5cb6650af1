/- FnSteps: for every input the law returns true: as many steps as between two comparison stars lead from the one to the other one. The arguments read behind the call as before. -/
import Derived.Test.YtejapiebpbnopaaB9
import Derived.ChangeOld
import Derived.Lib.SmallJoins
namespace Go.Proofs.Ytejapiebpbnopaa.fnSteps
open Go.ChangeShapes Go.WideShapes Go.ChangeAt Go.RowKit
open Go.ChangeMaps (open_string shut_string)
set_option linter.unusedVariables false

theorem own : ownKnob Try.prog.godebug = none := by kernel_rfl
theorem laidOut : laidOutB Try.prog = true := by kernel_rfl
theorem low_facts (a s : Int) (hs : 1 ≤ s) : 1 ≤ lowD a s ∧ lowD a s ≤ s ∧ lowN a s * s = a * lowD a s ∧ (lowN a s).natAbs ≤ a.natAbs := by
  have hp : 0 < Int.gcd a s := Int.gcd_pos_of_ne_zero_right a (by omega)
  obtain ⟨x, hx⟩ := Int.gcd_dvd_left (a := a) (b := s)
  obtain ⟨y, hy⟩ := Int.gcd_dvd_right (a := a) (b := s)
  generalize hg : (Int.gcd a s : Int) = g at hx hy
  have hg1 : 1 ≤ g := by omega
  have hD : lowD a s = y := by rw [lowD, hg, hy, Int.mul_ediv_cancel_left _ (by omega)]
  have hN : lowN a s = x := by rw [lowN, hg, hx, Int.mul_ediv_cancel_left _ (by omega)]
  rw [hD, hN]
  have hy1 : 1 ≤ y := by
    by_cases h : 1 ≤ y
    · exact h
    · have := Int.mul_nonneg (show 0 ≤ g by omega) (show 0 ≤ -y by omega)
      rw [Int.mul_neg] at this
      omega
  have hys : y ≤ s := by
    have := Int.mul_le_mul_of_nonneg_right hg1 (show 0 ≤ y by omega)
    omega
  refine ⟨hy1, hys, ?_, ?_⟩
  · rw [hy, hx, Int.mul_left_comm, Int.mul_assoc]
  · rw [hx, Int.natAbs_mul]
    exact Nat.le_mul_of_pos_left _ (by omega)
theorem rnd_exact (b d : Int) (hd : 1 ≤ d) : rnd (b * d) d = b := by
  unfold rnd
  have e : 2 * (b * d) + d = d + b * (2 * d) := by rw [Int.mul_left_comm b 2 d]; omega
  rw [e, Int.add_mul_ediv_right _ _ (by omega), Int.ediv_eq_zero_of_lt (by omega) (by omega)]
  omega
theorem rnd_near (n d : Int) (hd : 1 ≤ d) : 2 * rnd n d * d ≤ 2 * n + d ∧ 2 * n - d < 2 * rnd n d * d := by
  have h1 := Int.emod_add_mul_ediv (2 * n + d) (2 * d)
  have h2 := Int.emod_nonneg (2 * n + d) (show 2 * d ≠ 0 by omega)
  have h3 := Int.emod_lt_of_pos (2 * n + d) (show 0 < 2 * d by omega)
  have e : 2 * rnd n d * d = 2 * d * ((2 * n + d) / (2 * d)) := by rw [rnd, Int.mul_assoc, Int.mul_assoc, Int.mul_comm d]
  rw [e]
  omega
set_option maxHeartbeats 4000000 in

theorem walk (a0 : Option Addr) (len0 cap0 : Nat) (z0 : List Int) (a1 : Option Addr) (len1 cap1 : Nat) (z1 : List Int) (w : World) (w0 : IsRow .u8 w a0 len0 cap0 z0) (w1 : IsRow .u8 w a1 len1 cap1 z1) :
    Calls Try.prog 3 #[.slice a0 len0 cap0, .slice a1 len1 cap1] w fun e w' => e = .returned (.bool true) ∧ Below w.heap.size w w' := by
  have hb0 := LstB.of_row w0
  have hb1 := LstB.of_row w1
  clear w0 w1
  cases hlong : (decide (3000 < (len0 : Int)) || decide (3000 < (len1 : Int)))
  case true =>
    have HL := Lib.hid hlong
    clear hlong
    go_enter Try.func3, Try.ntmps3
    go_wp2_with fail
    refine (a2Long_any _ _ _ _ _ _ _).mono ?_
    rintro e w' ⟨rfl, rfl⟩
    rw [HL.out]
    go_wp2
    go_ret
    exact ⟨rfl, Below.refl _ _⟩
  have HL := Lib.hid hlong
  have hl0 : len0 ≤ 3000 := by simp at hlong; omega
  have hl1 : len1 ≤ 3000 := by simp at hlong; omega
  clear hlong
  go_enter Try.func3, Try.ntmps3
  go_wp2_with fail
  refine (a2Long_any _ _ _ _ _ _ _).mono ?_
  rintro e w' ⟨rfl, rfl⟩
  rw [HL.out]
  go_wp2_with fail
  refine (A2Mags_any a0 len0 cap0 w hb0 (by omega)).mono ?_
  rintro e w1 ⟨a, len, cap, xs, rfl, hx, hok, hx1, hx8, hB⟩
  have ha := okMags_at hok 0 (by rw [hx.1]; omega)
  have hbm := okMags_at hok (len - 1) (by rw [hx.1]; omega)
  obtain ⟨b, off, rfl, hb, hc0⟩ := hx.2 0 (by omega)
  obtain ⟨b2, o2, he2, hb2, hc1⟩ := hx.2 (len - 1) (by omega)
  simp only [Option.some.injEq, Addr.mk.injEq, and_true] at he2
  obtain ⟨rfl, rfl⟩ := he2
  rw [Nat.add_zero] at hc0
  have hb1' := hb1.below hB
  clear hb0 hb1 hok
  go_wp2_with fail
  refine (a2At_any w.heap.size a1 len1 cap1 0 20 w1 hb1' (by omega) (by omega) (by omega)).mono ?_
  rintro e w2 ⟨v, rfl, v0, v1, rfl⟩
  clear hc0 hc1 hx hb1'
  generalize xs[0]?.getD 0 = A at ha
  generalize xs[len - 1]?.getD 0 = B at hbm
  obtain ⟨A0, A1⟩ := ha
  obtain ⟨B0, B1⟩ := hbm
  have mA : magB A = true := magB_iff.2 ⟨A0, A1⟩
  have mB : magB B = true := magB_iff.2 ⟨B0, B1⟩
  obtain ⟨d1, d2, hNS, hNa⟩ := low_facts (B - A) (1 + v) (by omega)
  have hss : ssz A B (1 + v) = .tuple #[.agg #[.int .i64 (lowN (B - A) (1 + v)), .int .i64 (lowD (B - A) (1 + v))], .int .i64 0] := by
    rw [ssz, mA, mB, show inB (1 + v) 1 50 = true from inB_iff.2 (by omega)]; rfl
  have HSS := Lib.hid hss
  clear hss
  go_wp2_with fail
  refine (iStep_any A B (1 + v) w1).mono ?_
  rintro e w3 ⟨rfl, hB3⟩
  rw [HSS.out]
  have hBB := hB.trans (hB3.mono hB.size)
  have hw3 := hBB.size
  generalize lowN (B - A) (1 + v) = N at HSS hNS hNa
  generalize lowD (B - A) (1 + v) = D at HSS d1 d2 hNS
  have hN0 : -22000 ≤ N ∧ N ≤ 22000 := by omega
  obtain ⟨N0, N1⟩ := hN0
  have p1 : -440000 ≤ N * (1 + v) ∧ N * (1 + v) ≤ 440000 := by
    obtain ⟨e1, e2⟩ := mul_bd N (1 + v) (-22000) 22000 20 N0 N1 (by omega) (by omega) (by omega) (by omega)
    omega
  have p2 : -440000 ≤ (B - A) * D ∧ (B - A) * D ≤ 440000 := by rw [← hNS]; exact p1
  have hne : (N * (1 + v) != (B - A) * D) = false := by rw [hNS]; simp
  obtain ⟨p10, p11⟩ := p1
  obtain ⟨p20, p21⟩ := p2
  have q1 : bst A (1 + v) N D = two B 0 := by
    have e : A * D + (1 + v) * N = B * D := by rw [Int.mul_comm (1 + v) N, hNS, Int.sub_mul]; omega
    have hok : bstOk A (1 + v) N D = true := by
      simp [bstOk, mA, inB_iff]; omega
    rw [bst, if_pos hok, e, rnd_exact B D d1, if_pos mB]
  have q2 : bst A 0 N D = two A 0 := by
    have e : A * D + 0 * N = A * D := by omega
    have hok : bstOk A 0 N D = true := by
      simp [bstOk, mA, inB_iff]; omega
    rw [bst, if_pos hok, e, rnd_exact A D d1, if_pos mA]
  have q3 : rfr N D = two (rnd N D) 0 := by
    rw [rfr, if_pos (by rw [Bool.and_eq_true, inB_iff, inB_iff]; omega)]
  obtain ⟨r1, r2⟩ := rnd_near N D d1
  obtain ⟨r3, r4⟩ : -50000 ≤ rnd N D ∧ rnd N D ≤ 50000 := ediv_bd _ _ _ (by omega) (by omega)
  generalize rnd N D = R at q3 r1 r2 r3 r4
  have Q1 := Lib.hid q1
  have Q2 := Lib.hid q2
  have Q3 := Lib.hid q3
  clear q1 q2 q3 hNS hNa mA mB hB3 hB HSS
  go_wp2_with fail
  refine (iBySteps_any _ _ _ _ _).mono ?_
  rintro e w4 ⟨rfl, hbel⟩
  obtain ⟨hc, hf⟩ := bcell hbel; have hz := hbel.size; (try simp at hz); (try simp only [Nat.add_one_le_iff] at hz); (try (have hzw : w.heap.size < w'.heap.size := by omega))
  rw [Q1.out, two]
  go_wp2_with fail
  refine (iBySteps_any _ _ _ _ _).mono ?_
  rintro e w5 ⟨rfl, hbel⟩
  obtain ⟨hc, hf⟩ := bcell hbel; have hz := hbel.size; (try simp at hz); (try simp only [Nat.add_one_le_iff] at hz); (try (have hzw : w.heap.size < w'.heap.size := by omega))
  have hz5 : w3.heap.size < w5.heap.size := by omega
  rw [Q2.out, two]
  go_wp2_with fail
  refine (iRound_any _ _ _).mono ?_
  rintro e w6 ⟨rfl, hbel⟩
  obtain ⟨hc, hf⟩ := bcell hbel; have hz := hbel.size; (try simp at hz); (try simp only [Nat.add_one_le_iff] at hz); (try (have hzw : w.heap.size < w'.heap.size := by omega))
  have hz6 : w3.heap.size < w6.heap.size := by omega
  rw [Q3.out, two]
  go_wp2
  go_ret
  exact ⟨rfl, by (repeat (first | assumption | exact Below.refl _ _ | refine belowDN ?_ _ | refine Below.drew ?_ | refine Below.setCell ?_ (by first | omega | (simp <;> omega)) _ | refine Below.alloc ?_ (by first | omega | (simp <;> omega)) _ | refine belowCall ?_ (by assumption)))⟩

set_option maxRecDepth 100000 in
theorem lifted (os : Os) (started : os.Started) (H : Type) (enc : TypeId × Value → H) :
    ReturnsInHanded {} Try.checked os 3 .any (Rows.fnStepsSpec.pre6 enc Try.prog Try.f3 Rows.fnStepsRow.domain false) (Rows.fnStepsSpec.post enc Try.prog Try.f3 false true false false) := by
  refine returnsInHanded_of_change (C := Try.checked) own started (by kernel_rfl) Try.func3
    (ChangeSpec.witness6 (enc := enc) (C := Try.checked) false ⟨#[], #[.slice none 0 0, .slice none 0 0], []⟩ 8 (by kernel_rfl) (by kernel_rfl) (by kernel_rfl) (by kernel_rfl)) ?_
  intro W base args ds gs before hval0 hW hcnd _
  have hval : ∀ (j : Nat) t v, Try.f3.params[j]? = some t → args[j]? = some v → Value.okWide Try.prog W .any base t v := hval0
  have hW' := hW
  obtain ⟨p, q, hA0, hV, rfl, hfz, hnd⟩ := hW
  have hA : DataW.TrodAll enc Try.prog W 0 (fun _ => true) true Try.f3.params.toList args.toList ds p := hA0
  rw [Try.params3] at hA hval
  obtain ⟨v0, vs0, d0, ds0, p0, q0, hargs, rfl, rfl, h0, r0⟩ := trodAll_cons hA
  obtain ⟨v1, vs1, d1, ds1, p1, q1, rfl, rfl, rfl, h1, r1⟩ := trodAll_cons r0
  obtain ⟨rfl, rfl, rfl⟩ := trodAll_nil r1
  obtain rfl : args = #[v0, v1] := by cases args; simp_all
  obtain ⟨rfl, rfl⟩ := trodVars_none hV
  have k0 := h0
  have lt0 : ∀ x ∈ p0, x.block < W.heap.size := by obtain ⟨m, hm⟩ := k0; exact DataW.trod_lt m _ _ _ hm
  obtain ⟨a0, len0, cap0, rfl⟩ := okWide_slice Try.underlying22 (hval 0 22 v0 rfl rfl)
  obtain ⟨z0, w0⟩ : ∃ zs, IsRow .u8 W a0 len0 cap0 zs := by
    obtain ⟨fuel, hf⟩ := h0
    rcases open_ints Try.underlying22 Try.underlying5 (by kernel_rfl) hf with ⟨hcs, _⟩ | ⟨x, l, c, zs, hcs, _, hl, hm, hz, _, hcell, hwz⟩
    · simp [Value.cells] at hcs
      obtain ⟨rfl, rfl, rfl⟩ := hcs
      exact ⟨[], .inl ⟨rfl, rfl, rfl, rfl⟩⟩
    · simp [Value.cells] at hcs
      obtain ⟨rfl, rfl, rfl⟩ := hcs
      exact ⟨zs, .inr ⟨_, rfl, hl, hm, by simpa using hz, hcell, hwz⟩⟩
  have k1 := h1
  have lt1 : ∀ x ∈ p1, x.block < W.heap.size := by obtain ⟨m, hm⟩ := k1; exact DataW.trod_lt m _ _ _ hm
  obtain ⟨a1, len1, cap1, rfl⟩ := okWide_slice Try.underlying22 (hval 1 22 v1 rfl rfl)
  obtain ⟨z1, w1⟩ : ∃ zs, IsRow .u8 W a1 len1 cap1 zs := by
    obtain ⟨fuel, hf⟩ := h1
    rcases open_ints Try.underlying22 Try.underlying5 (by kernel_rfl) hf with ⟨hcs, _⟩ | ⟨x, l, c, zs, hcs, _, hl, hm, hz, _, hcell, hwz⟩
    · simp [Value.cells] at hcs
      obtain ⟨rfl, rfl, rfl⟩ := hcs
      exact ⟨[], .inl ⟨rfl, rfl, rfl, rfl⟩⟩
    · simp [Value.cells] at hcs
      obtain ⟨rfl, rfl, rfl⟩ := hcs
      exact ⟨zs, .inr ⟨_, rfl, hl, hm, by simpa using hz, hcell, hwz⟩⟩
  clear hA0 hval0
  refine (walk a0 len0 cap0 z0 a1 len1 cap1 z1 W w0 w1).mono fun e W' ⟨he, bel⟩ => ?_
  subst he
  exact ⟨_, rfl, _, _, _, [], _, [], hW', trodAll_mk1 (shut_bool Try.underlying4 _), (trodAll_cons_mk (Below.trod laidOut (by kernel_rfl) (of_decide_eq_true (by kernel_rfl)) k0 bel lt0) (trodAll_cons_mk (Below.trod laidOut (by kernel_rfl) (of_decide_eq_true (by kernel_rfl)) k1 bel lt1) trodAll_mk0)), rfl, bel.frame _, fun h => by cases h⟩

theorem over : Rows.fnStepsRow.holds Try.pinned (OpenSpec.ofChange Rows.fnStepsSpec) :=
  OpenClaim.holds_of_wide 3 Try.f3 rfl rfl rfl rfl rfl rfl rfl ⟨rfl, rfl, rfl, rfl, rfl⟩ rfl rfl rfl rfl rfl (by kernel_rfl) Try.func3 (by kernel_rfl)
    (of_decide_eq_true (by kernel_rfl)) (by unfold Func.isWrapper; first | (rw [if_pos (by decide +kernel)]; kernel_rfl) | (rw [if_neg (by decide +kernel)]; exact ⟨rfl, rfl⟩))
    (fun os started H enc _ => lifted os started H enc)

theorem proved : Rows.FnStepsSaid := over
#print axioms proved
end Go.Proofs.Ytejapiebpbnopaa.fnSteps
