/- Crossings, the model's side: l12Cross. -/
import Derived.Test.YtcjipmpccmppiabEM3
namespace Go.Proofs.Ytcjipmpccmppiab
open Go.ChangeShapes Go.WideShapes Go.ChangeAt Go.RowKit Go.Deep

set_option maxRecDepth 100000 in
set_option maxHeartbeats 4000000 in
theorem l12Cross_any (a : Option Addr) (n c : Nat) (xs : List Pt) (l : Int) (w : World) (h : PtL w a n xs) (h100 : n ≤ 100) (hbd : ∀ k, k < n → 0 ≤ (xs[k]?.getD pt0).1 ∧ (xs[k]?.getD pt0).1 ≤ 10000000 ∧ -2000 ≤ (xs[k]?.getD pt0).2 ∧ (xs[k]?.getD pt0).2 ≤ 20000) (hlb : -2000 ≤ l ∧ l ≤ 20000) :
    Calls Try.prog 84 #[.slice a n c, .int .i64 l] w fun x w' => ∃ v, x = .returned v ∧ w'.ownsRow w.heap.size 37 2 v (crL xs l (n - 1)).length (flatFr (crL xs l (n - 1))) ∧ Below w.heap.size w w' := by
  obtain ⟨i0, hi, hz0, hz1, hz2⟩ := info_parts Fr_info
  have HBD := Lib.hid hbd
  have hMz : (n : Int) ≤ 100 := by omega
  have hE0 : (w.alloc (.cells #[] 37)).ownsRow w.heap.size 37 2 (.slice (some ⟨w.heap.size, 0, none⟩) 0 0) 0 [] := World.ownsRow_lit w #[] 0 (Nat.le_refl _) (by unfold maxLen; omega) rfl
  have b0 : Below w.heap.size w (w.alloc (.cells #[] 37)) := (Below.refl _ _).alloc (Nat.le_refl _) _
  clear hbd
  go_enter Try.func84, Try.ntmps84
  go_wp2
  go_loopw [5, 6] (fun o i wr => ∃ k g cg Q : Nat, k ≤ n - 1 ∧ i = .int .i64 k ∧ (crL xs l k).length = Q ∧ o = .slice (some ⟨g, 0, none⟩) Q cg ∧ wr.ownsRow w.heap.size 37 2 (.slice (some ⟨g, 0, none⟩) Q cg) Q (flatFr (crL xs l k)) ∧ Below w.heap.size w wr) (fun _ i _ => n - (Go.RowKit.intOf i).toNat)
  case atStart => exact ⟨0, w.heap.size, 0, 0, by omega, rfl, rfl, rfl, hE0, b0⟩
  case round =>
    obtain ⟨k, g, cg, Q, hk, rfl, hQ, rfl, hown, hB⟩ := hrel
    clear hE0 b0
    have hsz := hB.size
    have hll := crL_len xs l k
    rw [hQ] at hll
    have HQ := Lib.hid hQ
    clear hQ
    by_cases hlt : k + 1 < n
    · have hkz : (k : Int) + 1 < (n : Int) := by omega
      have hkz2 : (k : Int) < (n : Int) := by omega
      have hk0 : (0 : Int) ≤ (k : Int) := by omega
      have hk1 : (0 : Int) ≤ (k : Int) + 1 := by omega
      obtain ⟨b1, o1, rfl, hP⟩ := h.2 k (by omega)
      obtain ⟨b1', o1', he, hR⟩ := h.2 (k + 1) hlt
      cases he
      have hb1 := hP.1
      have d1 := HBD.out k (by omega)
      have d2 := HBD.out (k + 1) hlt
      obtain ⟨⟨x0, x1⟩, hx⟩ : ∃ x, xs[k]?.getD pt0 = x := ⟨_, rfl⟩
      obtain ⟨⟨y0, y1⟩, hy⟩ : ∃ x, xs[k + 1]?.getD pt0 = x := ⟨_, rfl⟩
      rw [hx] at hP d1
      rw [hy] at hR d2
      simp only at d1 d2
      obtain ⟨-, p0, p1⟩ := (hP.mono hB).parts
      obtain ⟨-, r0, r1⟩ := (hR.mono hB).parts
      have hbr : b1 < wr.heap.size := by omega
      have hRB : crB xs l k = (decide (x1 < l) != decide (y1 < l)) := by rw [crB, mgX, mgX, hx, hy]
      have hRF : crF xs l k = (qtN (x0 * (y1 - l) + y0 * (l - x1)) (y1 - x1), qtD (x0 * (y1 - l) + y0 * (l - x1)) (y1 - x1)) := by rw [crF, crN, crD, mgX, mgX, tmX, tmX, hx, hy]
      have HRB := Lib.hid hRB
      have HRF := Lib.hid hRF
      have HY := Lib.hid (crL_yes (xs := xs) (l := l) (k := k))
      have HN := Lib.hid (crL_no (xs := xs) (l := l) (k := k))
      have hw1 : IntKind.i64.wrap ((k : Int) + 1) = (k : Int) + 1 := IntWalk.i64_in _ (by omega)
      clear hx hy hRB hRF hP hR
      obtain ⟨A, hA⟩ : ∃ A, x1 - l = A := ⟨_, rfl⟩
      obtain ⟨B, hB2⟩ : ∃ B, y1 - l = B := ⟨_, rfl⟩
      have hwA : IntKind.i64.wrap (x1 - l) = A := by rw [hA]; exact IntWalk.i64_in _ (by omega)
      have hwB : IntKind.i64.wrap (y1 - l) = B := by rw [hB2]; exact IntWalk.i64_in _ (by omega)
      have HCR := Lib.hid (fun hc => cr_model (x0 := x0) (x1 := x1) (y0 := y0) (y1 := y1) (l := l) hc)
      have hca : (x1 < l) ↔ A < 0 := by omega
      have hcb : (y1 < l) ↔ B < 0 := by omega
      have hq1 : decide (x1 < l) = decide (A < 0) := by simp [hca]
      have hq2 : decide (y1 < l) = decide (B < 0) := by simp [hcb]
      rw [hA, hB2] at HCR
      cases hX : (decide (A < 0) != decide (B < 0))
      · have HS := Lib.hid (HN.out (by rw [HRB.out, hq1, hq2, hX]))
        have HO := Lib.hid hown
        have hAB : (A < 0 ∧ B < 0 ∧ ¬ 0 ≤ A ∧ ¬ 0 ≤ B) ∨ (¬ A < 0 ∧ ¬ B < 0 ∧ 0 ≤ A ∧ 0 ≤ B) := by
          by_cases u : A < 0 <;> by_cases v : B < 0 <;> simp [u, v] at hX <;> omega
        clear hown hca hcb hq1 hq2 hX
        rcases hAB with ⟨hAn, hBn, hAm, hBm⟩ | ⟨hAn, hBn, hAm, hBm⟩
        all_goals
          go_wp2
          go_roundw
          case rel => exact ⟨k + 1, g, cg, Q, by omega, by go_num, by rw [HS.out, HQ.out], rfl, by rw [HS.out]; exact HO.out, hB⟩
          case measure => simp [Go.RowKit.intOf]; omega
      · have hcr : (decide (x1 < l) != decide (y1 < l)) = true := by rw [hq1, hq2, hX]
        have HS := Lib.hid (HY.out (by rw [HRB.out, hcr]))
        have hAB : (A < 0 ∧ ¬ B < 0 ∧ ¬ 0 ≤ A ∧ 0 ≤ B) ∨ (¬ A < 0 ∧ B < 0 ∧ 0 ≤ A ∧ ¬ 0 ≤ B) := by
          by_cases u : A < 0 <;> by_cases v : B < 0 <;> simp [u, v] at hX <;> omega
        obtain ⟨D, G, hD, hG, hD1, hD2, hqn, hqd⟩ := HCR.out hcr
        clear hca hcb hq1 hq2 hcr hX
        rw [← hB2] at hqn hqd
        obtain ⟨E, hE⟩ : ∃ E, B - A = E := ⟨_, rfl⟩
        have hwE : IntKind.i64.wrap (B - A) = E := by rw [hE]; exact IntWalk.i64_in _ (by omega)
        have HS1 : ∀ W, Calls Try.prog 65 #[.int .i64 E] W fun e w' => e = .returned (.int .i64 D) ∧ W = w' := fun W => by
          have := l02Size_any E W (by omega) (by omega)
          rwa [← hE, hD, hE] at this
        have HS2 : ∀ W, Calls Try.prog 65 #[.int .i64 A] W fun e w' => e = .returned (.int .i64 G) ∧ W = w' := fun W => by
          have := l02Size_any A W (by omega) (by omega)
          rwa [hG] at this
        have m1 := aMul (a := x0) (b := D) (A := 10000000) (B := 22000) (by omega) (by omega) (by omega) (by omega)
        have m2 := aMul (a := y0 - x0) (b := G) (A := 10000000) (B := 22000) (by omega) (by omega) (by omega) (by omega)
        have hwT : IntKind.i64.wrap (y0 - x0) = y0 - x0 := IntWalk.i64_in _ (by omega)
        have hwU : IntKind.i64.wrap (x0 * D) = x0 * D := IntWalk.i64_in _ (by omega)
        have hwV : IntKind.i64.wrap ((y0 - x0) * G) = (y0 - x0) * G := IntWalk.i64_in _ (by omega)
        have hwN : IntKind.i64.wrap (x0 * D + (y0 - x0) * G) = x0 * D + (y0 - x0) * G := IntWalk.i64_in _ (by omega)
        have HMK := Lib.hid (fun W => l02Make_any (x0 * D + (y0 - x0) * G) D W hD1 (by omega) (by omega) (by omega))
        have HM1 : Hid (flatFr (crL xs l (k + 1)) = flatFr (crL xs l k) ++ [.int .i64 (lowN (x0 * D + (y0 - x0) * G) D), .int .i64 (lowD (x0 * D + (y0 - x0) * G) D)]) := Lib.hid (by rw [HS.out, HRF.out, hqn, hqd, flatFr_snoc]; rfl)
        have HM2 : Hid ((crL xs l (k + 1)).length = Q + 1) := Lib.hid (by rw [HS.out, List.length_append, HQ.out]; rfl)
        have hgg := hown.lt g rfl
        have hdz : -22000 ≤ D ∧ D ≤ 22000 := by omega
        clear HS HRF hqn hqd HRB HN HY HCR hD hG hD2 m1 m2 hE hA hB2
        generalize lowN (x0 * D + (y0 - x0) * G) D = X at HMK HM1
        generalize lowD (x0 * D + (y0 - x0) * G) D = Y at HMK HM1
        generalize flatFr (crL xs l k) = RL at hown HM1
        rcases hAB with ⟨hAn, hBn, hAm, hBm⟩ | ⟨hAn, hBn, hAm, hBm⟩
        all_goals
          go_wp2_with fail
          go_region_held3 (fun W' => W'.cell? ⟨b1, o1 + k * 2, none⟩ = some (.int .i64 x0) ∧ W'.cell? ⟨b1, o1 + (k + 1) * 2, none⟩ = some (.int .i64 y0)) (refine ⟨?_, ?_⟩ <;> first | assumption | go_keep) (first | (go_at_call 65; refine (HS1 _).mono ?_; rintro x w' ⟨rfl, rfl⟩) | (go_at_call 65; refine (HS2 _).mono ?_; rintro x w' ⟨rfl, rfl⟩) | (go_at_call 61; refine (HMK.out _).mono ?_; rintro x w5 ⟨rfl, b5⟩; have D5 : Below wr.heap.size wr w5 := belowCall (by (repeat (first | assumption | exact Below.refl _ _ | refine belowDN ?_ _ | refine Below.drew ?_ | refine Below.setCell ?_ (by first | omega | (simp <;> omega)) _ | refine Below.alloc ?_ (by first | omega | (simp <;> omega)) _ | refine belowCall ?_ (by assumption)))) b5; clear b5; have hown5 := ownKeepF hown D5; have hB5 := hB.trans (D5.mono hsz); have hs5 := D5.size; have hb5 : b1 < w5.heap.size := Nat.lt_of_lt_of_le hbr hs5; have q0 := (D5.cell (p := ⟨b1, o1 + k * 2, none⟩) hbr).trans p0; have q1 := (D5.cell (p := ⟨b1, o1 + (k + 1) * 2, none⟩) hbr).trans r0) | (refine Go.step_append_lies _ rfl _ _ 57 rfl w.heap.size 37 i0 _ 2 16 Try.underlying57 hi hz0 hz1 hz2 rfl (by decide) (.slice (some ⟨g, 0, none⟩) Q cg) Q RL rfl (hown5.alloc _) ⟨w5.heap.size, 0, none⟩ 1 1 [.int .i64 X, .int .i64 Y] rfl rfl (cellsFr w5 _ _ _) (by intro u hu; simp at hu; rcases hu with rfl | rfl <;> rfl) (by decide) (by unfold maxLen; omega) (by omega) (by simp; omega) _ rfl ?_; intro g7 c7 w7 hown7 hg7 hat7 hlt7; have hB7 : Below w.heap.size w w7 := (show Below w.heap.size w (w5.alloc (.cells #[.int .i64 X, .int .i64 Y] 37)) from hB5.alloc (by omega) _).grown hg7 (by simp; omega) (fun j e => by have hh : g = j := Option.some.inj e; omega); have t1 := hg7.cell (a := ⟨b1, o1 + k * 2, none⟩) (v := .int .i64 x0) (by go_keep) (fun e => by have hh : b1 = g := Option.some.inj e; omega); have t2 := hg7.cell (a := ⟨b1, o1 + (k + 1) * 2, none⟩) (v := .int .i64 y0) (by go_keep) (fun e => by have hh : b1 = g := Option.some.inj e; omega); have HOWN7 := Lib.hid hown7; clear hg7 hat7 hown7) | fail)
          go_wp2
          go_roundw
          case rel => exact ⟨k + 1, g7, c7, Q + 1, by omega, by go_num, HM2.out, rfl, by rw [HM1.out]; exact HOWN7.out, hB7⟩
          case measure => simp [Go.RowKit.intOf]; omega
    · have hke : k = n - 1 := by omega
      have hkz : ¬ (k : Int) + 1 < (n : Int) := by omega
      have HE : Hid (crL xs l (n - 1) = crL xs l k) := Lib.hid (by rw [hke])
      have HO := Lib.hid hown
      clear hown hke
      go_wp2
      go_ret
      exact ⟨_, rfl, by rw [HE.out, HQ.out]; exact HO.out, hB⟩
end Go.Proofs.Ytcjipmpccmppiab
