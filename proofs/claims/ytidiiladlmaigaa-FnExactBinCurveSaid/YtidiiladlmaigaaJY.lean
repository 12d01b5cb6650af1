/- BinCurve, the model's. -/
import Derived.Test.YtidiiladlmaigaaJX
namespace Go.Proofs.Ytidiiladlmaigaa
open Go.ChangeShapes Go.WideShapes Go.ChangeAt Go.RowKit Go.Deep

theorem sumF_step (f : Nat → Int) (k : Nat) : sumF f (k + 1) = sumF f k + f k := rfl
set_option maxRecDepth 100000 in
set_option maxHeartbeats 4000000 in
theorem sBin_any (a : Option Addr) (n c : Nat) (xs : List Pt) (wd : Int) (w : World) (h : PtL w a n xs) (hn : n ≤ 1048576) :
    Calls Try.prog 12 #[.slice a n c, .int .i64 wd] w fun e w' => PtRes w.heap.size (biL xs wd) (.int .i64 (biC xs wd)) w' e ∧ Below w.heap.size w w' := by
  cases hok : okP xs
  · have HC := Lib.hid (bi_1 (wd := wd) hok)
    go_enter Try.func12, Try.ntmps12
    go_wp2_with fail
    refine (l08Ok_below a n c xs w h hn).mono ?_
    rintro e w2 ⟨rfl, b2⟩
    rw [hok]
    go_wp2
    go_ret2
    exact ⟨by rw [HC.out.1, HC.out.2]; exact PtRes.nil _ _ _, b2⟩
  cases hwb : widB wd
  · have HC := Lib.hid (bi_2 hok hwb)
    have hin : inB wd 1 1000000 = false := hwb
    go_enter Try.func12, Try.ntmps12
    go_wp2_with fail
    refine (l08Ok_below a n c xs w h hn).mono ?_
    rintro e w2 ⟨rfl, b2⟩
    rw [hok]
    go_wp2_with (go_at_call 36; refine (l00In_any _ _ _ _).mono ?_; rintro e w' ⟨rfl, rfl⟩; rw [hin])
    go_ret2
    exact ⟨by rw [HC.out.1, HC.out.2]; exact PtRes.nil _ _ _, b2⟩
  have HC := Lib.hid (bi_0 hok hwb)
  have hin : inB wd 1 1000000 = true := hwb
  obtain ⟨hw1, hw2⟩ := inB_iff.1 hin
  obtain ⟨i0, hi, hz0, hz1, hz2⟩ := info_parts Pt_info
  obtain ⟨h100, hbd, -⟩ := okP_num h.1 hok
  have HL := Lib.hid h.1
  have HBD := Lib.hid hbd
  have hl : (n : Int) ≤ 100 := by omega
  have hne : ¬ wd = 0 := by omega
  clear hbd
  go_enter Try.func12, Try.ntmps12
  go_wp2_with fail
  refine (l08Ok_below a n c xs w h hn).mono ?_
  rintro e w0 ⟨rfl, b0⟩
  rw [hok]
  have h0 := h.mono b0
  go_wp2_with (go_at_call 36; refine (l00In_any _ _ _ _).mono ?_; rintro e w' ⟨rfl, rfl⟩; rw [hin])
  clear hok hwb hin
  go_loopw [6, 7] (fun o i wr => ∃ (k : Nat) (B : List Pt), k ≤ n ∧ i = .int .i64 k ∧ binsF wd xs = B ++ binsF wd (xs.drop k) ∧ B.length ≤ k ∧ wr.ownsRow w0.heap.size 28 2 o B.length (flatPt B) ∧ Below w0.heap.size w0 wr) (fun _ i _ => n - (Go.RowKit.intOf i).toNat)
  case atStart => exact ⟨0, [], Nat.zero_le _, rfl, by simp, by simp, World.ownsRow_lit w0 #[] 0 (Nat.le_refl _) (by unfold maxLen; omega) rfl, by (repeat (first | assumption | exact Below.refl _ _ | refine belowDN ?_ _ | refine Below.drew ?_ | refine Below.setCell ?_ (by first | omega | (simp <;> omega)) _ | refine Below.alloc ?_ (by first | omega | (simp <;> omega)) _ | refine belowCall ?_ (by assumption)))⟩
  case round =>
    obtain ⟨i, B, hin, rfl, hbin, hlen, hown, hB⟩ := hrel
    have HBI := Lib.hid hbin
    clear hbin
    by_cases hlt : i < n
    · have hii : (i : Int) < (n : Int) := by omega
      obtain ⟨b1, o1, rfl, hc⟩ := h0.2 i hlt
      obtain ⟨⟨x0, x1⟩, hx⟩ : ∃ x, xs[i]?.getD pt0 = x := ⟨_, rfl⟩
      have hbx := HBD.out i hlt
      rw [hx] at hc hbx
      have HX := Lib.hid hx
      have hqx := tdiv_bd x0 wd 10000000 (by omega) (by omega)
      obtain ⟨v, rfl⟩ : ∃ v, v = wr := ⟨wr, rfl⟩
      have hBv : Below w0.heap.size w0 v := hB
      have hsv := hB.size
      clear hx hB
      go_wp2
      go_loopw [8, 9, 10, 11] (fun st sm sn k wi => ∃ t : Nat, i + t ≤ n ∧ k = .int .i64 ((i : Int) + t) ∧ st = .int .i64 (sumF (fun j => (xs[i + j]?.getD pt0).1) t) ∧ sm = .int .i64 (sumF (fun j => (xs[i + j]?.getD pt0).2) t) ∧ sn = .int .i64 t ∧ (∀ j, j < t → sameW wd (xs[i]?.getD pt0) (xs[i + j]?.getD pt0) = true) ∧ Below v.heap.size v wi) (fun _ _ _ k _ => n - (Go.RowKit.intOf k).toNat)
      case atStart => exact ⟨0, by omega, by simp, rfl, rfl, rfl, fun j hj => absurd hj (by omega), Below.refl _ _⟩
      case round =>
        obtain ⟨t, htn, rfl, rfl, rfl, rfl, hall, hBi⟩ := hrel
        have HALL := Lib.hid hall
        clear hall
        have hT := sumF_bd (f := fun j => (xs[i + j]?.getD pt0).1) (c := 10000000) (k := t) (fun j hj => by have := HBD.out (i + j) (by omega); omega)
        have hM := sumF_bd (f := fun j => (xs[i + j]?.getD pt0).2) (c := 20000) (k := t) (fun j hj => by have := HBD.out (i + j) (by omega); omega)
        have HT := Lib.hid (sumF_step (fun j => (xs[i + j]?.getD pt0).1) t)
        have HM := Lib.hid (sumF_step (fun j => (xs[i + j]?.getD pt0).2) t)
        have HST := Lib.hid (fun (h2 : i + t = n ∨ sameW wd (xs[i]?.getD pt0) (xs[i + t]?.getD pt0) = false) => binsF_step (t := t) HL.out hlt (by omega) HBI.out HALL.out h2)
        have hBw := hBv.trans (hBi.mono hsv)
        have hsw := hBw.size
        by_cases hkt : i + t < n
        · obtain ⟨b1', o1', he, hd⟩ := h0.2 (i + t) hkt
          cases he
          obtain ⟨⟨y0, y1⟩, hy⟩ : ∃ x, xs[i + t]?.getD pt0 = x := ⟨_, rfl⟩
          have hby := HBD.out (i + t) hkt
          rw [hy] at hd hby HT HM HST
          rw [HX.out] at HST
          obtain ⟨-, p0, -⟩ := (hc.mono hBw).parts
          obtain ⟨-, q0, q1⟩ := (hd.mono hBw).parts
          have hqy := tdiv_bd y0 wd 10000000 (by omega) (by omega)
          have HY := Lib.hid hy
          have hkn : (i : Int) + (t : Int) < (n : Int) := by omega
          have hk0 : (0 : Int) ≤ (i : Int) + (t : Int) := by omega
          obtain ⟨p, hp⟩ : ∃ p : Nat, i + t = p := ⟨_, rfl⟩
          have hpi : (i : Int) + (t : Int) = (p : Int) := by omega
          have HP := Lib.hid hp
          rw [hp] at q0 q1
          have hpn : (p : Int) < (n : Int) := by omega
          rw [hpi]
          clear hy hd hp hkn hk0
          generalize sumF (fun j => (xs[i + j]?.getD pt0).1) t = ST at hT HT HST ⊢
          generalize sumF (fun j => (xs[i + j]?.getD pt0).2) t = SM at hM HM HST ⊢
          cases hsame : (y0.tdiv wd == x0.tdiv wd)
          · have HS := Lib.hid (HST.out (.inr hsame))
            have ht0 : t ≠ 0 := fun e => by
              have h1 := HP.out
              have h2 := HY.out
              rw [e, Nat.add_zero] at h2
              rw [HX.out] at h2
              cases h2
              simp at hsame
            have hrn : 1 ≤ (t : Int) := by omega
            clear HST HT HM hpi
            go_wp2
            go_big_quiet (fail)
            (have hB2 : Below w0.heap.size w0 (wr.drewN nq) := belowDN hBw nq; have hown2 := ownKeepJ hown (belowDN hBi nq); have hs2 := hB2.size; generalize wr.drewN nq = wq at hB2 hown2 hs2 ⊢; go_wp2_with (first | (go_at_call 37; refine (l02Round_any _ _ _ (by omega) (by omega) (by omega) (by omega)).mono ?_; rintro e w' ⟨rfl, rfl⟩) | (at_builtin; refine wpList_append_own _ rfl _ _ 34 rfl w0.heap.size 28 i0 _ 2 16 Try.underlying34 hi hz0 hz1 hz2 rfl (by decide) _ _ _ rfl (hown2.alloc _) ⟨wq.heap.size, 0, none⟩ 1 1 [.int .i64 (rnd ST t), .int .i64 (rnd SM t)] rfl rfl (cellsPt wq _ _ _) (by intro u hu; simp at hu; rcases hu with rfl | rfl <;> rfl) (by unfold maxLen; omega) (by omega) (by simp; omega) ?_; intro v7 w7 hown7 hg7 hnil7; have hB7 : Below w0.heap.size w0 w7 := (hB2.alloc hs2 (.cells #[.int .i64 (rnd ST t), .int .i64 (rnd SM t)] 28)).grown hg7 (by simp; omega) (fun j e => (hown2.lt j e).1); clear hg7 hnil7)); have HO : Hid (w7.ownsRow w0.heap.size 28 2 v7 (B ++ [(rnd ST t, rnd SM t)]).length (flatPt (B ++ [(rnd ST t, rnd SM t)]))) := Lib.hid (by rw [flatPt_snoc, List.length_append]; exact hown7); clear hown7 hown hown2; go_roundw)
            case rel => exact ⟨p, B ++ [(rnd ST t, rnd SM t)], by omega, rfl, by rw [← HP.out]; exact HS.out, by rw [List.length_append]; have := HP.out; simp; omega, HO.out, hB7⟩
            case measure => simp [Go.RowKit.intOf]; have := HP.out; omega
          · have HN : Hid (∀ j, j < t + 1 → sameW wd (xs[i]?.getD pt0) (xs[i + j]?.getD pt0) = true) := Lib.hid fun j hj => by
              by_cases e : j = t
              · subst e; rw [HX.out, HY.out]; exact hsame
              · exact HALL.out j (by omega)
            clear HST
            go_wp2
            go_big_quiet (fail)
            go_wp2
            go_roundw
            case rel => exact ⟨t + 1, by omega, by rw [show (i : Int) + ((t + 1 : Nat) : Int) = (p : Int) + 1 by omega], by rw [HT.out], by rw [HM.out], by go_num, HN.out, belowDN hBi _⟩
            case measure => simp [Go.RowKit.intOf]; omega
        · have hend : i + t = n := by omega
          have HS := Lib.hid (HST.out (.inl hend))
          have hpi : (i : Int) + (t : Int) = (n : Int) := by omega
          have hrn : 1 ≤ (t : Int) := by omega
          have HP := Lib.hid hend
          rw [hpi]
          clear hkt hend HST
          generalize sumF (fun j => (xs[i + j]?.getD pt0).1) t = ST at hT HT HS ⊢
          generalize sumF (fun j => (xs[i + j]?.getD pt0).2) t = SM at hM HM HS ⊢
          clear HT HM hpi
          go_wp2
          go_big_quiet (fail)
          (have hB2 : Below w0.heap.size w0 (wr.drewN nq) := belowDN hBw nq; have hown2 := ownKeepJ hown (belowDN hBi nq); have hs2 := hB2.size; generalize wr.drewN nq = wq at hB2 hown2 hs2 ⊢; go_wp2_with (first | (go_at_call 37; refine (l02Round_any _ _ _ (by omega) (by omega) (by omega) (by omega)).mono ?_; rintro e w' ⟨rfl, rfl⟩) | (at_builtin; refine wpList_append_own _ rfl _ _ 34 rfl w0.heap.size 28 i0 _ 2 16 Try.underlying34 hi hz0 hz1 hz2 rfl (by decide) _ _ _ rfl (hown2.alloc _) ⟨wq.heap.size, 0, none⟩ 1 1 [.int .i64 (rnd ST t), .int .i64 (rnd SM t)] rfl rfl (cellsPt wq _ _ _) (by intro u hu; simp at hu; rcases hu with rfl | rfl <;> rfl) (by unfold maxLen; omega) (by omega) (by simp; omega) ?_; intro v7 w7 hown7 hg7 hnil7; have hB7 : Below w0.heap.size w0 w7 := (hB2.alloc hs2 (.cells #[.int .i64 (rnd ST t), .int .i64 (rnd SM t)] 28)).grown hg7 (by simp; omega) (fun j e => (hown2.lt j e).1); clear hg7 hnil7)); have HO : Hid (w7.ownsRow w0.heap.size 28 2 v7 (B ++ [(rnd ST t, rnd SM t)]).length (flatPt (B ++ [(rnd ST t, rnd SM t)]))) := Lib.hid (by rw [flatPt_snoc, List.length_append]; exact hown7); clear hown7 hown hown2; go_roundw)
          case rel => exact ⟨n, B ++ [(rnd ST t, rnd SM t)], by omega, rfl, by rw [← HP.out]; exact HS.out, by rw [List.length_append]; have := HP.out; simp; omega, HO.out, hB7⟩
          case measure => simp [Go.RowKit.intOf]; omega
    · obtain rfl : i = n := by omega
      have HE := Lib.hid (binsF_nil (wd := wd) (xs := xs.drop i) (by rw [List.length_drop, HL.out]; omega))
      go_wp2
      go_ret2
      exact ⟨by rw [HC.out.1, HC.out.2, HBI.out, HE.out, List.append_nil]; exact PtRes.own (ownLow hown b0.size) rfl, belowCall b0 hB⟩
end Go.Proofs.Ytidiiladlmaigaa
