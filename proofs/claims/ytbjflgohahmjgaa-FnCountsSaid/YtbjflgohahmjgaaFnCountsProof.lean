/- FnCounts: for every input the law returns true: each told number of periods fits between both times, no other one up to 200 does, the numbers ascend, and the period between two minima is the quotient. The arguments read behind the call as before. -/
import Derived.Test.YtbjflgohahmjgaaB1
import Derived.Test.YtbjflgohahmjgaaPO
import Derived.ChangeOld
import Derived.Lib.SmallJoins
namespace Go.Proofs.Ytbjflgohahmjgaa.fnCounts
open Go.ChangeShapes Go.WideShapes Go.ChangeAt Go.RowKit
open Go.ChangeMaps (open_string shut_string)
set_option linter.unusedVariables false

theorem own : ownKnob Try.prog.godebug = none := by kernel_rfl
theorem laidOut : laidOutB Try.prog = true := by kernel_rfl
theorem low_factsC (a s : Int) (hs : 1 ≤ s) : 1 ≤ lowD a s ∧ lowD a s ≤ s ∧ lowN a s * s = a * lowD a s ∧ (lowN a s).natAbs ≤ a.natAbs := by
  have hp : 0 < Int.gcd a s := Int.gcd_pos_of_ne_zero_right a (by omega)
  obtain ⟨x, hx⟩ := Int.gcd_dvd_left (a := a) (b := s)
  obtain ⟨y, hy⟩ := Int.gcd_dvd_right (a := a) (b := s)
  generalize hg : (Int.gcd a s : Int) = g at hx hy
  have hg1 : 1 ≤ g := by omega
  have hD : lowD a s = y := by rw [lowD, hg, hy, Int.mul_ediv_cancel_left _ (by omega)]
  have hN : lowN a s = x := by rw [lowN, hg, hx, Int.mul_ediv_cancel_left _ (by omega)]
  rw [hD, hN]
  have hy1 : 1 ≤ y := by
    by_cases h : 1 ≤ y
    · exact h
    · have := Int.mul_nonneg (show 0 ≤ g by omega) (show 0 ≤ -y by omega)
      rw [Int.mul_neg] at this
      omega
  have hys : y ≤ s := by
    have := Int.mul_le_mul_of_nonneg_right hg1 (show 0 ≤ y by omega)
    omega
  refine ⟨hy1, hys, ?_, ?_⟩
  · rw [hy, hx, Int.mul_left_comm, Int.mul_assoc]
  · rw [hx, Int.natAbs_mul]
    exact Nat.le_mul_of_pos_left _ (by omega)
set_option maxRecDepth 100000 in
set_option maxHeartbeats 4000000 in

theorem walk (a0 : Option Addr) (len0 cap0 : Nat) (z0 : List Int) (a1 : Option Addr) (len1 cap1 : Nat) (z1 : List Int) (w : World) (w0 : IsRow .u8 w a0 len0 cap0 z0) (w1 : IsRow .u8 w a1 len1 cap1 z1) :
    Calls Try.prog 3 #[.slice a0 len0 cap0, .slice a1 len1 cap1] w fun e w' => e = .returned (.bool true) ∧ Below w.heap.size w w' := by
  have hb0 := LstB.of_row w0
  have hb1 := LstB.of_row w1
  clear w0 w1
  cases hlong : (decide (3000 < (len0 : Int)) || decide (3000 < (len1 : Int)))
  case true =>
    have HL := Lib.hid hlong
    clear hlong
    go_enter Try.func3, Try.ntmps3
    go_wp2_with fail
    refine (a2Long_any _ _ _ _ _ _ _).mono ?_
    rintro e w' ⟨rfl, rfl⟩
    rw [HL.out]
    go_wp2
    go_ret
    exact ⟨rfl, Below.refl _ _⟩
  have HL := Lib.hid hlong
  have hl0 : len0 ≤ 3000 := by simp at hlong; omega
  have hl1 : len1 ≤ 3000 := by simp at hlong; omega
  clear hlong
  go_enter Try.func3, Try.ntmps3
  go_wp2_with fail
  refine (a2Long_any _ _ _ _ _ _ _).mono ?_
  rintro e w' ⟨rfl, rfl⟩
  rw [HL.out]
  go_wp2_with fail
  refine (a2At_any w.heap.size a0 len0 cap0 0 256 w hb0 (by omega) (by omega) (by omega)).mono ?_
  rintro e w' ⟨v0, rfl, v00, v01, rfl⟩
  go_wp2_with fail
  refine (a2At_any w.heap.size a0 len0 cap0 1 256 w hb0 (by omega) (by omega) (by omega)).mono ?_
  rintro e w' ⟨v1, rfl, v10, v11, rfl⟩
  go_wp2_with fail
  refine (a2At_any w.heap.size a0 len0 cap0 2 40 w hb0 (by omega) (by omega) (by omega)).mono ?_
  rintro e w' ⟨v2, rfl, v20, v21, rfl⟩
  go_wp2_with fail
  refine (a2At_any w.heap.size a1 len1 cap1 0 256 w hb1 (by omega) (by omega) (by omega)).mono ?_
  rintro e w' ⟨v3, rfl, v30, v31, rfl⟩
  go_wp2_with fail
  refine (a2At_any w.heap.size a1 len1 cap1 1 60 w hb1 (by omega) (by omega) (by omega)).mono ?_
  rintro e w' ⟨v4, rfl, v40, v41, rfl⟩
  clear hb0 hb1
  go_wp2_with fail
  obtain ⟨A, hA⟩ : ∃ A, 10 * v0 = A := ⟨_, rfl⟩
  obtain ⟨G, hG⟩ : ∃ G, 1 + 40 * v1 + v2 = G := ⟨_, rfl⟩
  obtain ⟨H, hH⟩ : ∃ H, 60 + v3 + v4 = H := ⟨_, rfl⟩
  obtain ⟨L, hL⟩ : ∃ L, 60 + v3 = L := ⟨_, rfl⟩
  rw [hH, hL, hA, hG]
  obtain ⟨hC, F, K, hLs, hK, hF, hHas⟩ := cnt_facts (a := A) (g := G) (lo := L) (hi := H) (by omega) (by omega) (by omega) (by omega) (by omega) (by omega) (by omega) (by omega)
  have HPB := Lib.hid (per_facts (a := A) (g := G) (lo := L) (by omega) (by omega) (by omega) (by omega) (by omega) (by omega))
  obtain ⟨d1, d2, hNS, hNa⟩ := low_factsC G L (by omega)
  have bA : 0 ≤ A ∧ A ≤ 3000 := by omega
  have bG : 1 ≤ G ∧ G ≤ 11000 := by omega
  have bL : 60 ≤ L ∧ L ≤ 400 := by omega
  have bH : L ≤ H ∧ H ≤ 500 := by omega
  have HHAS := Lib.hid hHas
  clear hA hG hH hL hHas v00 v01 v10 v11 v20 v21 v30 v31 v40 v41
  refine (iCou_any A (A + G) L H w).mono ?_
  rintro x w2 ⟨⟨la, lc, rfl, hO⟩, b2⟩
  have hLst := (hO 0).toL
  rw [hC]
  rw [hLs] at hLst ⊢
  rw [cbT_len] at hLst ⊢
  have HLS := Lib.hid hLst
  clear hO hC hLs hLst
  have hKz : (K : Int) ≤ 200 := by omega
  go_wp2
  go_loopw [11] (fun i wr => ∃ k : Nat, k ≤ 200 ∧ i = .int .i64 ((k + 1 : Nat) : Int) ∧ wr = w2) (fun i _ => 201 - (Go.RowKit.intOf i).toNat)
  case atStart => exact ⟨0, by omega, rfl, rfl⟩
  case round =>
    obtain ⟨k, hk, rfl, rfl⟩ := hrel
    by_cases hlt : k < 200
    · have hh := HHAS.out ((k + 1 : Nat) : Int) (by omega)
      obtain ⟨N, hN⟩ : ∃ N : Int, ((k + 1 : Nat) : Int) = N := ⟨_, rfl⟩
      have hNb : 1 ≤ N ∧ N ≤ 200 := by omega
      have hN1 : Hid (((k + 1 + 1 : Nat) : Int) = N + 1) := Lib.hid (by omega)
      have m1 := mul_bd L N 0 400 200 (by omega) (by omega) (by omega) (by omega) (by omega) (by omega)
      have m2 := mul_bd H N 0 500 200 (by omega) (by omega) (by omega) (by omega) (by omega) (by omega)
      rw [hN] at hh ⊢
      have HH : Hid (hasI (cbT F K) N = (decide (L * N ≤ G) && decide (G ≤ H * N))) := Lib.hid hh
      have HA : ∀ W, W = wr → Calls Try.prog 14 #[.slice la K lc, .int .i64 N] W fun e w' => e = .returned (.bool (decide (L * N ≤ G) && decide (G ≤ H * N))) ∧ W = w' := fun W hW => by rw [← HH.out, hW]; exact a2Has_any la K lc (cbT F K) N wr HLS.out (by omega)
      have hNle : N ≤ 200 := hNb.2
      clear hh hN HH
      obtain ⟨P, hP⟩ : ∃ P, L * N = P := ⟨_, rfl⟩
      obtain ⟨Q, hQ⟩ : ∃ Q, H * N = Q := ⟨_, rfl⟩
      rw [hP] at m1 HA
      rw [hQ] at m2 HA
      have wP : IntKind.i64.wrap (L * N) = P := by rw [IntWalk.i64_in _ (by omega), hP]
      have wQ : IntKind.i64.wrap (H * N) = Q := by rw [IntWalk.i64_in _ (by omega), hQ]
      clear hP hQ
      by_cases c1 : P ≤ G
      · have c1d : decide (P ≤ G) = true := by simpa using c1
        by_cases c2 : G ≤ Q
        · have c2d : decide (G ≤ Q) = true := by simpa using c2
          rw [c1d, c2d, Bool.and_true] at HA
          go_wp2_with (go_at_call 14; refine (HA _ rfl).mono ?_; rintro x w' ⟨rfl, rfl⟩)
          go_roundw
          case rel => exact ⟨k + 1, by omega, by rw [hN1.out], by first | rfl | trivial⟩
          case measure => simp [Go.RowKit.intOf]; omega
        · have c2d : decide (G ≤ Q) = false := by simpa using c2
          have c2f : Q < G := by omega
          have c2e : decide (Q < G) = true := by simpa using c2f
          rw [c1d, c2d, Bool.and_false] at HA
          go_wp2_with (go_at_call 14; refine (HA _ rfl).mono ?_; rintro x w' ⟨rfl, rfl⟩)
          go_roundw
          case rel => exact ⟨k + 1, by omega, by rw [hN1.out], by first | rfl | trivial⟩
          case measure => simp [Go.RowKit.intOf]; omega
      · have c1d : decide (P ≤ G) = false := by simpa using c1
        have c1f : G < P := by omega
        have c1e : decide (G < P) = true := by simpa using c1f
        rw [c1d, Bool.false_and] at HA
        go_wp2_with (go_at_call 14; refine (HA _ rfl).mono ?_; rintro x w' ⟨rfl, rfl⟩)
        go_roundw
        case rel => exact ⟨k + 1, by omega, by rw [hN1.out], by first | rfl | trivial⟩
        case measure => simp [Go.RowKit.intOf]; omega
    · obtain rfl : k = 200 := by omega
      obtain ⟨wo, rfl⟩ : ∃ wo, wo = wr := ⟨wr, rfl⟩
      go_wp2
      go_loopw [12] (fun i wr => ∃ k : Nat, i = .int .i64 ((k + 1 : Nat) : Int) ∧ (k + 1 ≤ K ∨ k = 0) ∧ Below wo.heap.size wo wr) (fun i _ => K - (Go.RowKit.intOf i).toNat)
      case atStart => exact ⟨0, rfl, .inr rfl, Below.refl _ _⟩
      case round =>
        obtain ⟨k, rfl, hkk, hB⟩ := hrel
        have hk0 : (k : Int) ≤ 200 := by omega
        by_cases hlt : k + 1 < K
        · obtain ⟨b1, o1, rfl, hb1, hc0⟩ := HLS.out.2 k (by omega)
          obtain ⟨b1', o1', he, -, hc1⟩ := HLS.out.2 (k + 1) (by omega)
          cases he
          rw [cbT_get F K k (by omega)] at hc0
          rw [cbT_get F K (k + 1) (by omega)] at hc1
          have q0 := (hB.cell (p := ⟨b1, o1 + k, none⟩) hb1).trans hc0
          have q1 := (hB.cell (p := ⟨b1, o1 + (k + 1), none⟩) hb1).trans hc1
          have hi0 : (0 : Int) ≤ (k : Int) := by omega
          have hi1 : (k : Int) + 1 < (K : Int) := by omega
          have hi2 : (k : Int) < (K : Int) := by omega
          have hw1 : IntKind.i64.wrap ((k : Int) + 1 - 1) = (k : Int) := by rw [IntWalk.i64_in _ (by omega)]; omega
          have hw2 : IntKind.i64.wrap (k : Int) = (k : Int) := IntWalk.i64_in _ (by omega)
          have hgd : decide (F + ((k + 1 : Nat) : Int) ≤ F + ((k : Nat) : Int)) = false := by simp; omega
          generalize F + ((k + 1 : Nat) : Int) = Y1 at q1 hgd
          generalize F + ((k : Nat) : Int) = Y0 at q0 hgd
          clear hc0 hc1
          go_wp2
          go_big_quiet (fail)
          go_wp2
          go_roundw
          case rel => exact ⟨k + 1, by go_num, .inl (by omega), belowDN hB _⟩
          case measure => simp [Go.RowKit.intOf]; omega
        · have hlz : ¬ ((k : Int) + 1 < (K : Int)) := by omega
          have hBB : Below w.heap.size w wr := b2.trans (hB.mono b2.size)
          have hPQ : ∀ W, Calls Try.prog 15 #[.agg #[.int .i64 3, .int .i64 A], .agg #[.int .i64 (3 + L), .int .i64 (A + G)]] W fun e w' => e = .returned (.tuple #[.agg #[.int .i64 (lowN G L), .int .i64 (lowD G L)], .int .i64 0]) ∧ Below W.heap.size W w' := fun W => (iPer_any 3 A (3 + L) (A + G) W).mono (by rintro e w' ⟨⟨x, y, q, hq, rfl⟩, hb⟩; rw [HPB.out] at hq; cases hq; exact ⟨rfl, hb⟩)
          generalize lowN G L = X at hNS hNa hPQ
          generalize lowD G L = Y at d1 d2 hNS hPQ
          have hX : -11000 ≤ X ∧ X ≤ 11000 := by omega
          have m1 := mul_bd X L (-11000) 11000 400 hX.1 hX.2 (by omega) (by omega) (by omega) (by omega)
          have w1 : IntKind.i64.wrap (X * L) = X * L := IntWalk.i64_in _ (by omega)
          have w2' : IntKind.i64.wrap (G * Y) = X * L := by rw [← hNS]; exact w1
          have d1d : decide (0 < Y) = true := by simp; omega
          clear hNS hNa
          go_wp2_with fail
          refine (hPQ _).mono ?_
          rintro x w5 ⟨rfl, b5⟩
          have hB5 := belowCall hBB b5
          have hz5 := hB5.size
          go_wp2
          go_ret
          exact ⟨rfl, by (repeat (first | assumption | exact Below.refl _ _ | refine belowDN ?_ _ | refine Below.drew ?_ | refine Below.setCell ?_ (by first | omega | (simp <;> omega)) _ | refine Below.alloc ?_ (by first | omega | (simp <;> omega)) _ | refine belowCall ?_ (by assumption)))⟩

set_option maxRecDepth 100000 in
theorem lifted (os : Os) (started : os.Started) (H : Type) (enc : TypeId × Value → H) :
    ReturnsInHanded {} Try.checked os 3 .any (Rows.fnCountsSpec.pre6 enc Try.prog Try.f3 Rows.fnCountsRow.domain false) (Rows.fnCountsSpec.post enc Try.prog Try.f3 false true false false) := by
  refine returnsInHanded_of_change (C := Try.checked) own started (by kernel_rfl) Try.func3
    (ChangeSpec.witness6 (enc := enc) (C := Try.checked) false ⟨#[], #[.slice none 0 0, .slice none 0 0], []⟩ 8 (by kernel_rfl) (by kernel_rfl) (by kernel_rfl) (by kernel_rfl)) ?_
  intro W base args ds gs before hval0 hW hcnd _
  have hval : ∀ (j : Nat) t v, Try.f3.params[j]? = some t → args[j]? = some v → Value.okWide Try.prog W .any base t v := hval0
  have hW' := hW
  obtain ⟨p, q, hA0, hV, rfl, hfz, hnd⟩ := hW
  have hA : DataW.TrodAll enc Try.prog W 0 (fun _ => true) true Try.f3.params.toList args.toList ds p := hA0
  rw [Try.params3] at hA hval
  obtain ⟨v0, vs0, d0, ds0, p0, q0, hargs, rfl, rfl, h0, r0⟩ := trodAll_cons hA
  obtain ⟨v1, vs1, d1, ds1, p1, q1, rfl, rfl, rfl, h1, r1⟩ := trodAll_cons r0
  obtain ⟨rfl, rfl, rfl⟩ := trodAll_nil r1
  obtain rfl : args = #[v0, v1] := by cases args; simp_all
  obtain ⟨rfl, rfl⟩ := trodVars_none hV
  have k0 := h0
  have lt0 : ∀ x ∈ p0, x.block < W.heap.size := by obtain ⟨m, hm⟩ := k0; exact DataW.trod_lt m _ _ _ hm
  obtain ⟨a0, len0, cap0, rfl⟩ := okWide_slice Try.underlying22 (hval 0 22 v0 rfl rfl)
  obtain ⟨z0, w0⟩ : ∃ zs, IsRow .u8 W a0 len0 cap0 zs := by
    obtain ⟨fuel, hf⟩ := h0
    rcases open_ints Try.underlying22 Try.underlying5 (by kernel_rfl) hf with ⟨hcs, _⟩ | ⟨x, l, c, zs, hcs, _, hl, hm, hz, _, hcell, hwz⟩
    · simp [Value.cells] at hcs
      obtain ⟨rfl, rfl, rfl⟩ := hcs
      exact ⟨[], .inl ⟨rfl, rfl, rfl, rfl⟩⟩
    · simp [Value.cells] at hcs
      obtain ⟨rfl, rfl, rfl⟩ := hcs
      exact ⟨zs, .inr ⟨_, rfl, hl, hm, by simpa using hz, hcell, hwz⟩⟩
  have k1 := h1
  have lt1 : ∀ x ∈ p1, x.block < W.heap.size := by obtain ⟨m, hm⟩ := k1; exact DataW.trod_lt m _ _ _ hm
  obtain ⟨a1, len1, cap1, rfl⟩ := okWide_slice Try.underlying22 (hval 1 22 v1 rfl rfl)
  obtain ⟨z1, w1⟩ : ∃ zs, IsRow .u8 W a1 len1 cap1 zs := by
    obtain ⟨fuel, hf⟩ := h1
    rcases open_ints Try.underlying22 Try.underlying5 (by kernel_rfl) hf with ⟨hcs, _⟩ | ⟨x, l, c, zs, hcs, _, hl, hm, hz, _, hcell, hwz⟩
    · simp [Value.cells] at hcs
      obtain ⟨rfl, rfl, rfl⟩ := hcs
      exact ⟨[], .inl ⟨rfl, rfl, rfl, rfl⟩⟩
    · simp [Value.cells] at hcs
      obtain ⟨rfl, rfl, rfl⟩ := hcs
      exact ⟨zs, .inr ⟨_, rfl, hl, hm, by simpa using hz, hcell, hwz⟩⟩
  clear hA0 hval0
  refine (walk a0 len0 cap0 z0 a1 len1 cap1 z1 W w0 w1).mono fun e W' ⟨he, bel⟩ => ?_
  subst he
  exact ⟨_, rfl, _, _, _, [], _, [], hW', trodAll_mk1 (shut_bool Try.underlying4 _), (trodAll_cons_mk (Below.trod laidOut (by kernel_rfl) (of_decide_eq_true (by kernel_rfl)) k0 bel lt0) (trodAll_cons_mk (Below.trod laidOut (by kernel_rfl) (of_decide_eq_true (by kernel_rfl)) k1 bel lt1) trodAll_mk0)), rfl, bel.frame _, fun h => by cases h⟩

theorem over : Rows.fnCountsRow.holds Try.pinned (OpenSpec.ofChange Rows.fnCountsSpec) :=
  OpenClaim.holds_of_wide 3 Try.f3 rfl rfl rfl rfl rfl rfl rfl ⟨rfl, rfl, rfl, rfl, rfl⟩ rfl rfl rfl rfl rfl (by kernel_rfl) Try.func3 (by kernel_rfl)
    (of_decide_eq_true (by kernel_rfl)) (by unfold Func.isWrapper; first | (rw [if_pos (by decide +kernel)]; kernel_rfl) | (rw [if_neg (by decide +kernel)]; exact ⟨rfl, rfl⟩))
    (fun os started H enc _ => lifted os started H enc)

theorem proved : Rows.FnCountsSaid := over
#print axioms proved
end Go.Proofs.Ytbjflgohahmjgaa.fnCounts
