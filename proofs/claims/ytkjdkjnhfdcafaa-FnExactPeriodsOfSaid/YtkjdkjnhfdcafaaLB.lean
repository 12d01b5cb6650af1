/- PeriodsOf, both sides. -/
import Derived.Test.YtkjdkjnhfdcafaaLA
namespace Go.Proofs.Ytkjdkjnhfdcafaa
open Go.ChangeShapes Go.WideShapes Go.ChangeAt Go.RowKit Go.Deep

set_option maxRecDepth 100000 in
set_option maxHeartbeats 1000000 in
theorem iPer_any (f t s : Int) (w : World) (h : srB f t s = true) :
    Calls Try.prog 57 #[.agg #[.int .i64 f, .int .i64 t, .int .i64 s]] w fun x w' => ∃ b, x = .returned (.slice (some ⟨b, 0, none⟩) (srK f t s) (srK f t s)) ∧ w'.ownsRow w.heap.size 2 1 (.slice (some ⟨b, 0, none⟩) (srK f t s) (srK f t s)) (srK f t s) ((srL f s (srK f t s)).map (Value.int .i64)) ∧ Below w.heap.size w w' := by
  obtain ⟨hq, -⟩ := srB_iff.1 h
  obtain ⟨hN, hK1, hK2⟩ := srK_is h
  have HBD := Lib.hid (fun k hk => sr_bd h k hk)
  have HC : ∀ W, Calls Try.prog 56 #[.agg #[.int .i64 f, .int .i64 t, .int .i64 s]] W fun x w' => x = .returned (.int .i64 (srK f t s : Int)) ∧ Below W.heap.size W w' := fun W => by rw [← hN]; exact iCnt_any f t s W hq
  obtain ⟨⟨h1, h2⟩, ⟨h3, h4⟩, h5, h6⟩ := srQ_iff.1 hq
  generalize srK f t s = K at HC hK1 hK2 HBD ⊢
  clear hN hq
  obtain ⟨i0, hi, hz0, hz1, hz2⟩ := info_parts A_info
  have hbx := SrC.fresh w 25 f t s
  have B1 : Below w.heap.size w (w.alloc (.cells #[.int .i64 f, .int .i64 t, .int .i64 s] 25)) := (Below.refl _ w).alloc (Nat.le_refl _) _
  have HIL : Hid ((srL f s K).length = K) := Lib.hid (srL_len f s K)
  have HIA : Hid (∀ k, k < K → (srL f s K)[k]?.getD 0 = f + (k : Int) * s) := Lib.hid (fun k hk => srL_at f s hk)
  have hKz : (K : Int) ≤ 500 := by omega
  go_enter Try.func57, Try.ntmps57
  go_wp2_with fail
  generalize w.alloc (.cells #[.int .i64 f, .int .i64 t, .int .i64 s] 25) = v at hbx B1 ⊢
  refine (HC _).mono ?_
  rintro x w2 ⟨rfl, b2⟩
  have B2 := belowCall B1 b2
  have hz2' := B2.size
  obtain ⟨hlt, k0, k1, k2⟩ := (hbx.mono b2).parts
  rw [Nat.zero_add] at k1 k2
  clear HC
  go_wp2_with (at_make; refine wpList_make_full _ rfl _ _ 28 rfl w2.heap.size 2 i0 (.int .i64 0) 1 Try.underlying28 hi hz0 hz1 .i64 .i64 K K K rfl rfl rfl rfl (by rw [hz2]; omega) (by unfold maxLen; omega) (Nat.le_refl _) ?_; intro w5 hown hgrow)
  rw [cop_zero (srL f s K)] at hown
  have b5 : Below w2.heap.size w2 w5 := (Below.refl _ _).grown hgrow (Nat.le_refl _) (fun k hk => by cases hk)
  clear hgrow
  go_loopw [10] (fun i wr => ∃ k : Nat, k ≤ K ∧ i = .int .i64 k ∧ wr.ownsRow w2.heap.size 2 1 (.slice (some ⟨w2.heap.size, 0, none⟩) K K) K (cop (srL f s K) k K) ∧ Below w2.heap.size w2 wr) (fun i _ => K - (Go.RowKit.intOf i).toNat)
  case atStart => exact ⟨0, Nat.zero_le _, rfl, hown, b5⟩
  case round =>
    obtain ⟨k, hk, rfl, hownr, hB⟩ := hrel
    clear hown
    by_cases hltk : k < K
    · have hbd := HBD.out k hk
      have hfz := hownr.frozenAt k
      have hco : wr.cell? ⟨w2.heap.size, k, none⟩ = some (.int .i64 0) := by rw [hownr.cellAt k (by omega)]; exact cop_at (srL f s K) k K hltk HIL.out
      obtain ⟨hs1, hs9⟩ := hownr.stored k (.int .i64 (f + (k : Int) * s))
      have HS1 : Hid ((wr.setCell ⟨w2.heap.size, k, none⟩ (.int .i64 (f + (k : Int) * s))).ownsRow w2.heap.size 2 1 (.slice (some ⟨w2.heap.size, 0, none⟩) K K) K (cop (srL f s K) (k + 1) K)) := Lib.hid (by rw [← cop_set (srL f s K) k K hltk HIL.out, HIA.out k hltk]; exact hs1)
      have HB2 := Lib.hid (hB.grown hs9 hB.size (fun j hj => by cases hj; exact Nat.le_refl _))
      have q0 := (hB.cell (p := ⟨w.heap.size, 0, none⟩) hlt).trans k0
      have q2 := (hB.cell (p := ⟨w.heap.size, 2, none⟩) hlt).trans k2
      have hkz : (k : Int) < (K : Int) := by omega
      have hw1 : IntKind.i64.wrap ((k : Int) * s) = (k : Int) * s := IntWalk.i64_in _ (by omega)
      have hw2 : IntKind.i64.wrap (f + (k : Int) * s) = f + (k : Int) * s := IntWalk.i64_in _ (by omega)
      clear hs1 hs9 hownr
      go_wp2
      go_roundw
      case rel => exact ⟨k + 1, by omega, by go_num, HS1.out, HB2.out⟩
      case measure => simp [Go.RowKit.intOf]; omega
    · obtain rfl : k = K := by omega
      rw [cop_full (srL f s k) k HIL.out] at hownr
      have HO := Lib.hid hownr
      have BW := belowCall B2 hB
      clear hownr
      go_wp2
      go_ret
      exact ⟨_, rfl, ownLow HO.out hz2', BW⟩
theorem iPers_any (f t s : Int) (w : World) :
    Calls Try.prog 19 #[.agg #[.int .i64 f, .int .i64 t, .int .i64 s]] w fun x w' => IntRes w.heap.size (srV f t s) (.int .i64 (srV1 f t s)) w' x ∧ Below w.heap.size w w' := by
  have hbx := SrC.fresh w 25 f t s
  have B1 : Below w.heap.size w (w.alloc (.cells #[.int .i64 f, .int .i64 t, .int .i64 s] 25)) := (Below.refl _ w).alloc (Nat.le_refl _) _
  cases hs : srB f t s
  · have HD := Lib.hid (srV_no hs)
    go_enter Try.func19, Try.ntmps19
    go_wp2_with fail
    refine (iValidSr_any f t s _).mono ?_
    rintro x w2 ⟨rfl, b2⟩
    rw [hs]
    go_wp2
    go_ret2
    exact ⟨by rw [HD.out.1, HD.out.2]; exact IntRes.nil _ _ _, belowCall B1 b2⟩
  · have HD := Lib.hid (srV_yes hs)
    have HP := Lib.hid (fun W : World => iPer_any f t s W hs)
    have HL := Lib.hid (srL_len f s (srK f t s))
    generalize srK f t s = K at HD HP HL
    go_enter Try.func19, Try.ntmps19
    go_wp2_with fail
    generalize w.alloc (.cells #[.int .i64 f, .int .i64 t, .int .i64 s] 25) = v at hbx B1 ⊢
    refine (iValidSr_any f t s _).mono ?_
    rintro x w2 ⟨rfl, b2⟩
    rw [hs]
    have B2 := belowCall B1 b2
    obtain ⟨hlt, k0, k1, k2⟩ := (hbx.mono b2).parts
    rw [Nat.zero_add] at k1 k2
    go_wp2_with fail
    refine (HP.out _).mono ?_
    rintro x w3 ⟨b, rfl, hown, b3⟩
    have HO := Lib.hid hown
    clear hown
    go_wp2
    go_ret2
    exact ⟨by rw [HD.out.1, HD.out.2]; exact IntRes.own (ownLow HO.out B2.size) HL.out, belowCall B2 b3⟩
set_option maxRecDepth 100000 in
set_option maxHeartbeats 4000000 in
theorem sPers_any (f t s : Int) (w : World) :
    Calls Try.prog 18 #[.agg #[.int .i64 f, .int .i64 t, .int .i64 s]] w fun x w' => IntRes w.heap.size (srV f t s) (.int .i64 (srV1 f t s)) w' x ∧ Below w.heap.size w w' := by
  have hbx := SrC.fresh w 25 f t s
  have B1 : Below w.heap.size w (w.alloc (.cells #[.int .i64 f, .int .i64 t, .int .i64 s] 25)) := (Below.refl _ w).alloc (Nat.le_refl _) _
  cases hs : srB f t s
  · have HD := Lib.hid (srV_no hs)
    go_enter Try.func18, Try.ntmps18
    go_wp2_with fail
    refine (l10Ok_any f t s _).mono ?_
    rintro x w2 ⟨rfl, b2⟩
    rw [hs]
    go_wp2
    go_ret2
    exact ⟨by rw [HD.out.1, HD.out.2]; exact IntRes.nil _ _ _, belowCall B1 b2⟩
  have HD := Lib.hid (srV_yes hs)
  have HMR := Lib.hid (fun k => sr_more hs k)
  have HBD := Lib.hid (fun k hk => sr_bd hs k hk)
  have HLN := Lib.hid (fun k => srL_len f s k)
  have HMP := Lib.hid (fun k => srL_map f s k)
  obtain ⟨-, hK1, hK2⟩ := srK_is hs
  obtain ⟨⟨h1, h2⟩, ⟨h3, h4⟩, h5, h6⟩ := srQ_iff.1 (srB_iff.1 hs).1
  obtain ⟨i0, hi, hz0, hz1, hz2⟩ := info_parts A_info
  generalize srK f t s = K at HD HMR HBD hK1 hK2
  go_enter Try.func18, Try.ntmps18
  go_wp2_with fail
  generalize w.alloc (.cells #[.int .i64 f, .int .i64 t, .int .i64 s] 25) = v at hbx B1 ⊢
  refine (l10Ok_any f t s _).mono ?_
  rintro x w2 ⟨rfl, b2⟩
  rw [hs]
  have B2 := belowCall B1 b2
  have hbx2 := hbx.mono b2
  have hz2' := B2.size
  obtain ⟨hlt, k0, k1, k2⟩ := hbx2.parts
  rw [Nat.zero_add] at k1 k2
  have hE2 : (w2.alloc (.cells #[] 2)).ownsRow w2.heap.size 2 1 (.slice (some ⟨w2.heap.size, 0, none⟩) 0 0) 0 [] := World.ownsRow_lit w2 #[] 0 (Nat.le_refl _) (by unfold maxLen; omega) rfl
  have b2e : Below w2.heap.size w2 (w2.alloc (.cells #[] 2)) := (Below.refl _ _).alloc (Nat.le_refl _) _
  go_wp2
  go_loopw [4, 5] (fun o i wr => ∃ k g c : Nat, k ≤ K ∧ i = .int .i64 (f + (k : Int) * s) ∧ o = .slice (some ⟨g, 0, none⟩) k c ∧ wr.ownsRow w2.heap.size 2 1 (.slice (some ⟨g, 0, none⟩) k c) k ((srL f s k).map (Value.int .i64)) ∧ Below w2.heap.size w2 wr) (fun _ i _ => (t + 1 - Go.RowKit.intOf i).toNat)
  case atStart => exact ⟨0, w2.heap.size, 0, Nat.zero_le _, by simp, rfl, hE2, b2e⟩
  case round =>
    obtain ⟨k, g, c, hk, rfl, rfl, hown, hB⟩ := hrel
    have hsz := hB.size
    have hmr := HMR.out k
    have hbd := HBD.out k hk
    have HM := Lib.hid (HMP.out k)
    have hnx : f + ((k + 1 : Nat) : Int) * s = f + (k : Int) * s + s := by rw [show ((k + 1 : Nat) : Int) = (k : Int) + 1 by omega, Int.add_mul, Int.one_mul]; omega
    have HN := Lib.hid hnx
    obtain ⟨-, q0, q1, q2⟩ := (hbx2.mono hB).parts
    rw [Nat.zero_add] at q1 q2
    generalize hX : f + (k : Int) * s = X at hmr hbd HM HN ⊢
    have hX1 : 1 ≤ X := by omega
    clear hnx hX
    by_cases hlt' : k < K
    · have hle : X ≤ t := hmr.2 hlt'
      clear hmr
      go_wp2_with (at_builtin; refine wpList_append_lies _ rfl _ _ 28 rfl w2.heap.size 2 i0 (.int .i64 0) 1 8 Try.underlying28 hi hz0 hz1 hz2 rfl (by decide) _ _ _ rfl (hown.alloc _) ⟨wr.heap.size, 0, none⟩ 1 1 [.int .i64 X] rfl rfl (cell_one_new _ _ _) (by intro u hu; simp at hu; subst hu; rfl) (by decide) (by unfold maxLen; omega) (by omega) (by simp; omega) _ rfl ?_; intro g7 c7 w7 hown7 hg7 hat7 hlt7; have hB7 : Below w2.heap.size w2 w7 := (show Below w2.heap.size w2 (wr.alloc (.cells #[.int .i64 X] 2)) from hB.alloc (by omega) _).grown hg7 (by simp; omega) (fun j e => (hown.lt j e).1); obtain ⟨-, r0, r1, r2⟩ := (hbx2.mono hB7).parts; rw [Nat.zero_add] at r1 r2; clear hg7 hat7)
      have HO := Lib.hid hown7
      clear hown7 hown
      go_roundw
      case rel => exact ⟨k + 1, g7, c7, by omega, by rw [HN.out], by go_num, by rw [HM.out]; exact HO.out, hB7⟩
      case measure => simp [Go.RowKit.intOf]; omega
    · have hle : ¬ X ≤ t := fun h => hlt' (hmr.1 h)
      have hkK : k = K := by omega
      have HK := Lib.hid hkK
      have HO := Lib.hid hown
      clear hkK hown hmr
      go_wp2
      go_ret2
      exact ⟨by rw [HD.out.1, HD.out.2, ← HK.out]; exact IntRes.own (ownLow HO.out hz2') (HLN.out k), belowCall B2 hB⟩
end Go.Proofs.Ytkjdkjnhfdcafaa
