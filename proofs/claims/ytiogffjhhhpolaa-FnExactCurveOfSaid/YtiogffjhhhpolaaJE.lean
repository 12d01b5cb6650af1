/- CurveOf, the model's. -/
import Derived.Test.YtiogffjhhhpolaaJD
import Derived.Deep.RegionHeld3
namespace Go.Proofs.Ytiogffjhhhpolaa
open Go.ChangeShapes Go.WideShapes Go.ChangeAt Go.RowKit Go.Deep

theorem seenG_bd {s : ByteArray} {xs : List Es} (h : okE xs = true) (i t : Nat) : -(20000 * ((seenG s xs i t).length : Int)) ≤ sM (seenG s xs i t) (seenG s xs i t).length ∧ sM (seenG s xs i t) (seenG s xs i t).length ≤ 20000 * ((seenG s xs i t).length : Int) :=
  sumF_bd fun j hj => by
    obtain ⟨x, hx, e⟩ := ptsE_mem (getD_mem hj)
    have hm : x ∈ xs := List.mem_of_mem_drop (List.mem_of_mem_take hx)
    have := es_bd h x hm
    show -20000 ≤ ((seenG s xs i t)[j]?.getD pt0).2 ∧ ((seenG s xs i t)[j]?.getD pt0).2 ≤ 20000
    unfold seenG
    rw [e]
    unfold bdP at this
    omega
theorem pSeen_no1 {s : ByteArray} {y0 : Int} {y1 y2 : ByteArray} {y3 : Int} {y4 : Bool} (h : (y1.toList == s.toList) = false) : pSeen s (y0, y1, y2, y3, y4) = false := by simp [pSeen, h]
theorem pSeen_is {s : ByteArray} {y0 : Int} {y1 y2 : ByteArray} {y3 : Int} {y4 : Bool} (h : (y1.toList == s.toList) = true) : pSeen s (y0, y1, y2, y3, y4) = !y4 := by simp [pSeen, h]
set_option maxRecDepth 100000 in
set_option maxHeartbeats 4000000 in
theorem l08Of_any (a : Option Addr) (n c : Nat) (xs : List Es) (s : ByteArray) (w : World) (h : EsL w a n xs) (hok : okE xs = true) :
    Calls Try.prog 84 #[.slice a n c, .string s] w fun e w' => ∃ v, e = .returned v ∧ w'.ownsRow w.heap.size 37 2 v (binsF 1 (ptsE s xs)).length (flatPt (binsF 1 (ptsE s xs))) ∧ Below w.heap.size w w' := by
  obtain ⟨i0, hi, hz0, hz1, hz2⟩ := info_parts Pt_info
  obtain ⟨h100, -⟩ := okE_at h.1 hok
  have HL := Lib.hid h.1
  have HOK := Lib.hid hok
  have HLE := Lib.hid (fun a b (h1 : a ≤ b) (h2 : b < n) => okE_le HL.out hok b a h1 h2)
  have hl : (n : Int) ≤ 100 := by omega
  clear hok
  go_enter Try.func84, Try.ntmps84
  go_wp2
  go_loopw [5, 6] (fun o i wr => ∃ (k : Nat) (B : List Pt), k ≤ n ∧ i = .int .i64 k ∧ binsF 1 (ptsE s xs) = B ++ binsF 1 (ptsE s (xs.drop k)) ∧ B.length ≤ k ∧ wr.ownsRow w.heap.size 37 2 o B.length (flatPt B) ∧ Below w.heap.size w wr) (fun _ i _ => n - (Go.RowKit.intOf i).toNat)
  case atStart => exact ⟨0, [], Nat.zero_le _, rfl, by simp, by simp, World.ownsRow_lit w #[] 0 (Nat.le_refl _) (by unfold maxLen; omega) rfl, by (repeat (first | assumption | exact Below.refl _ _ | refine belowDN ?_ _ | refine Below.drew ?_ | refine Below.setCell ?_ (by first | omega | (simp <;> omega)) _ | refine Below.alloc ?_ (by first | omega | (simp <;> omega)) _ | refine belowCall ?_ (by assumption)))⟩
  case round =>
    obtain ⟨i, B, hin, rfl, hbin, hlen, hown, hB⟩ := hrel
    have HBI := Lib.hid hbin
    clear hbin
    by_cases hlt : i < n
    · have hii : (i : Int) < (n : Int) := by omega
      obtain ⟨b1, o1, rfl, hc⟩ := h.2 i hlt
      obtain ⟨⟨x0, x1, x2, x3, x4⟩, hx⟩ : ∃ x, xs[i]?.getD es0 = x := ⟨_, rfl⟩
      rw [hx] at hc
      obtain ⟨hbw, c0w, -⟩ := hc.parts
      have HX := Lib.hid hx
      obtain ⟨v, rfl⟩ : ∃ v, v = wr := ⟨wr, rfl⟩
      have hBv : Below w.heap.size w v := hB
      have hsv := hB.size
      have hbv : b1 < v.heap.size := Nat.lt_of_lt_of_le hc.1 hsv
      clear hx hB
      go_wp2
      go_loopw [7, 8, 9] (fun sm sn k wi => ∃ t : Nat, i + t ≤ n ∧ k = .int .i64 ((i : Int) + t) ∧ sm = .int .i64 (sM (seenG s xs i t) (seenG s xs i t).length) ∧ sn = .int .i64 ((seenG s xs i t).length : Nat) ∧ (∀ j, j < t → (xs[i + j]?.getD es0).1 = (xs[i]?.getD es0).1) ∧ Below v.heap.size v wi) (fun _ _ k _ => n - (Go.RowKit.intOf k).toNat)
      case atStart => exact ⟨0, by omega, by simp, by rw [seenG_zero]; rfl, by rw [seenG_zero]; rfl, fun j hj => absurd hj (by omega), Below.refl _ _⟩
      case round =>
        obtain ⟨t, htn, rfl, rfl, rfl, hall, hBi⟩ := hrel
        have HALL := Lib.hid hall
        clear hall
        have hGB := seenG_bd (s := s) HOK.out i t
        have hGL := seenG_len s xs i t
        have hBw := hBv.trans (hBi.mono hsv)
        have hsw := hBw.size
        have hsi := hBi.size
        obtain ⟨-, p0, p1, p2, p3, p4⟩ := (hc.mono hBw).parts
        have HST := Lib.hid (fun (h2 : i + t = n ∨ (xs[i + t]?.getD es0).1 ≠ (xs[i]?.getD es0).1) => seen_split (s := s) (t := t) HL.out htn HALL.out h2 HLE.out)
        have hownr := ownKeepJ hown hBi
        by_cases hkt : i + t < n
        · obtain ⟨b1', o1', he, hd⟩ := h.2 (i + t) hkt
          cases he
          obtain ⟨⟨y0, y1, y2, y3, y4⟩, hy⟩ : ∃ x, xs[i + t]?.getD es0 = x := ⟨_, rfl⟩
          have HGY := Lib.hid (seenG_yes (s := s) HL.out hkt hy)
          have HGN := Lib.hid (seenG_no (s := s) HL.out hkt hy)
          have HY := Lib.hid hy
          have hyb := (okE_at HL.out HOK.out).2 (i + t) hkt
          have hy3 : -2000 ≤ y3 ∧ y3 ≤ 20000 := by
            simp only [okAtE, Bool.and_eq_true] at hyb
            have h1 := hyb.1
            rw [hy] at h1
            simp only [esB, Bool.and_eq_true, magB, inB_iff] at h1
            exact h1.2.2.2
          rw [hy] at hd HST
          rw [HX.out] at HST
          obtain ⟨-, q0, q1, q2, q3, q4⟩ := (hd.mono hBw).parts
          obtain ⟨p, hp⟩ : ∃ p : Nat, i + t = p := ⟨_, rfl⟩
          have hpi : (i : Int) + (t : Int) = (p : Int) := by omega
          have HP := Lib.hid hp
          rw [hp] at q0 q1 q2 q3 q4 HST
          have hpn : (p : Int) < (n : Int) := by omega
          rw [hpi]
          clear hy hd hp hyb
          generalize hSMe : sM (seenG s xs i t) (seenG s xs i t).length = SM at hGB HST HGY ⊢
          have HSM := Lib.hid hSMe
          clear hSMe
          generalize hGLe : (seenG s xs i t).length = GL at hGB hGL HST HGY ⊢
          have HGLE := Lib.hid hGLe
          clear hGLe
          cases hsame : (y0 == x0)
          · have hneq : y0 ≠ x0 := by simpa using hsame
            have HS := Lib.hid (HST.out (.inr hneq))
            have HT0 : Hid (t ≠ 0) := Lib.hid fun e => by
              have h2 := HY.out
              rw [e, Nat.add_zero, HX.out] at h2
              cases h2
              exact hneq rfl
            clear HST hneq HGY HGN hpi
            by_cases hG0 : 0 < GL
            · have hg : (0 : Int) < (GL : Int) := by omega
              have HS2 : Hid (binsF 1 (ptsE s (xs.drop i)) = [(x0, rnd SM GL)] ++ binsF 1 (ptsE s (xs.drop p))) := Lib.hid (HS.out.trans (by rw [if_pos hG0]))
              go_wp2
              go_big_quiet (fail)
              go_wp2_with fail
              (have hBq : Below w.heap.size w (wr.drewN nq) := belowDN hBw nq; have hownq := ownKeepJ hownr (belowDN (Below.refl _ _) nq); have pq : (wr.drewN nq).cell? ⟨b1, o1 + i * 5, none⟩ = some (.int .i64 x0) := (hBq.cell (p := ⟨b1, o1 + i * 5, none⟩) hbw).trans c0w; have hsq := hBq.size; generalize wr.drewN nq = wq at hBq hownq pq hsq ⊢; go_region_held3 (fun W' => Below w.heap.size w W' ∧ W'.cell? ⟨b1, o1 + i * 5, none⟩ = some (.int .i64 x0)) (refine ⟨?_, ?_⟩ <;> first | assumption | ((repeat (first | assumption | exact Below.refl _ _ | refine belowDN ?_ _ | refine Below.drew ?_ | refine Below.setCell ?_ (by first | omega | (simp <;> omega)) _ | refine Below.alloc ?_ (by first | omega | (simp <;> omega)) _ | refine belowCall ?_ (by assumption))); done) | go_keep) (first | (go_at_call 89; refine (l02Round_any _ _ _ (by omega) (by omega) (by omega) (by omega)).mono ?_; rintro e w' ⟨rfl, rfl⟩) | (refine Go.step_append_lies _ rfl (.tmp 61) (.tmp 71) 24 rfl w.heap.size 37 i0 _ 2 16 Try.underlying24 hi hz0 hz1 hz2 rfl (by decide) u5 B.length (flatPt B) (by simp [Act.eval]) ((ownKeepJ hownq (show Below wq.heap.size wq wq.drew by (repeat (first | assumption | exact Below.refl _ _ | refine belowDN ?_ _ | refine Below.drew ?_ | refine Below.setCell ?_ (by first | omega | (simp <;> omega)) _ | refine Below.alloc ?_ (by first | omega | (simp <;> omega)) _ | refine belowCall ?_ (by assumption))))).alloc _) ⟨wq.heap.size, 0, none⟩ 1 1 [.int .i64 x0, .int .i64 (rnd SM GL)] (by simp [Act.eval]) rfl (cellsPt wq.drew _ _ _) (by intro u hu; simp at hu; rcases hu with rfl | rfl <;> rfl) (by decide) (by unfold maxLen; omega) (by omega) (by first | (simp; omega) | omega) _ rfl ?_; intro g3 c3 w3 hown3 hg3 hgg hlt3; have hb3 : Below w.heap.size w w3 := (hBq.drew.alloc hsq (.cells #[.int .i64 x0, .int .i64 (rnd SM GL)] 37)).grown hg3 (by first | (simp; omega) | omega) (fun kk hk => (hownq.lt kk hk).1); have hcr3 : w3.cell? ⟨b1, o1 + i * 5, none⟩ = some (.int .i64 x0) := (hb3.cell (p := ⟨b1, o1 + i * 5, none⟩) hbw).trans c0w)))
              all_goals
                have HO : Hid (w3.ownsRow w.heap.size 37 2 (.slice (some ⟨g3, 0, none⟩) (B.length + 1) c3) (B ++ [(x0, rnd SM GL)]).length (flatPt (B ++ [(x0, rnd SM GL)]))) := Lib.hid (by rw [flatPt_snoc, List.length_append]; exact hown3)
                clear hown3 hown hownr hownq
                go_wp2
                go_roundw
                case rel => exact ⟨p, B ++ [(x0, rnd SM GL)], by omega, rfl, by rw [HBI.out, HS2.out, List.append_assoc], by rw [List.length_append]; have := HP.out; simp; omega, HO.out, hb3⟩
                case measure => simp [Go.RowKit.intOf]; have := HP.out; omega
            · have hg : ¬ (0 : Int) < (GL : Int) := by omega
              have ht0 : i < p := by
                have h1 := HP.out
                have h2 := HT0.out
                omega
              have HS2 : Hid (binsF 1 (ptsE s (xs.drop i)) = binsF 1 (ptsE s (xs.drop p))) := Lib.hid (HS.out.trans (by rw [if_neg hG0]; rfl))
              go_wp2
              go_big_quiet (fail)
              go_wp2
              go_roundw
              case rel => exact ⟨p, B, by omega, rfl, by rw [HBI.out, HS2.out], by omega, ownKeepJ hownr (belowDN (Below.refl _ _) _), belowDN hBw _⟩
              case measure => simp [Go.RowKit.intOf]; omega
          · have hyx : y0 = x0 := by simpa using hsame
            have HN : Hid (∀ j, j < t + 1 → (xs[i + j]?.getD es0).1 = (xs[i]?.getD es0).1) := Lib.hid fun j hj => by
              by_cases e : j = t
              · subst e; rw [HX.out, HY.out]; exact hyx
              · exact HALL.out j (by omega)
            have hk1 : (i : Int) + ((t + 1 : Nat) : Int) = (p : Int) + 1 := by omega
            have HK1 := Lib.hid hk1
            clear HST hyx hk1 hpi
            cases hst : (y1.toList == s.toList)
            · have HG := Lib.hid (HGN.out (pSeen_no1 hst))
              clear HGY HGN
              go_wp2
              go_big_quiet (fail)
              go_wp2
              go_roundw
              case rel => exact ⟨t + 1, by have := HP.out; omega, by rw [HK1.out], by rw [HG.out, HSM.out], by rw [HG.out, HGLE.out], HN.out, belowDN hBi _⟩
              case measure => simp [Go.RowKit.intOf]; omega
            · cases y4
              · have HG := Lib.hid (HGY.out (by rw [pSeen_is hst]; rfl))
                clear HGY HGN
                go_wp2
                go_big_quiet (fail)
                go_wp2
                go_roundw
                case rel => exact ⟨t + 1, by have := HP.out; omega, by rw [HK1.out], by rw [HG.out.1], by rw [HG.out.2]; go_num, HN.out, belowDN hBi _⟩
                case measure => simp [Go.RowKit.intOf]; omega
              · have HG := Lib.hid (HGN.out (by rw [pSeen_is hst]; rfl))
                clear HGY HGN
                go_wp2
                go_big_quiet (fail)
                go_wp2
                go_roundw
                case rel => exact ⟨t + 1, by have := HP.out; omega, by rw [HK1.out], by rw [HG.out, HSM.out], by rw [HG.out, HGLE.out], HN.out, belowDN hBi _⟩
                case measure => simp [Go.RowKit.intOf]; omega
        · have hend : i + t = n := by omega
          have HS' := HST.out (.inl hend)
          rw [HX.out] at HS'
          obtain ⟨p, hp⟩ : ∃ p : Nat, i + t = p := ⟨_, rfl⟩
          have hpi : (i : Int) + (t : Int) = (p : Int) := by omega
          have HP := Lib.hid hp
          have HT0 : Hid (t ≠ 0) := Lib.hid (by omega)
          rw [hp] at HS'
          rw [hpi]
          obtain rfl : p = n := by omega
          clear hp HST
          generalize sM (seenG s xs i t) (seenG s xs i t).length = SM at hGB HS' ⊢
          generalize hGLe : (seenG s xs i t).length = GL at hGB hGL HS' ⊢
          have HS := Lib.hid HS'
          clear HS' hpi hend hkt
          by_cases hG0 : 0 < GL
          · have hg : (0 : Int) < (GL : Int) := by omega
            have HS2 : Hid (binsF 1 (ptsE s (xs.drop i)) = [(x0, rnd SM GL)] ++ binsF 1 (ptsE s (xs.drop p))) := Lib.hid (HS.out.trans (by rw [if_pos hG0]))
            go_wp2
            go_big_quiet (fail)
            go_wp2_with fail
            (have hBq : Below w.heap.size w (wr.drewN nq) := belowDN hBw nq; have hownq := ownKeepJ hownr (belowDN (Below.refl _ _) nq); have pq : (wr.drewN nq).cell? ⟨b1, o1 + i * 5, none⟩ = some (.int .i64 x0) := (hBq.cell (p := ⟨b1, o1 + i * 5, none⟩) hbw).trans c0w; have hsq := hBq.size; generalize wr.drewN nq = wq at hBq hownq pq hsq ⊢; go_region_held3 (fun W' => Below w.heap.size w W' ∧ W'.cell? ⟨b1, o1 + i * 5, none⟩ = some (.int .i64 x0)) (refine ⟨?_, ?_⟩ <;> first | assumption | ((repeat (first | assumption | exact Below.refl _ _ | refine belowDN ?_ _ | refine Below.drew ?_ | refine Below.setCell ?_ (by first | omega | (simp <;> omega)) _ | refine Below.alloc ?_ (by first | omega | (simp <;> omega)) _ | refine belowCall ?_ (by assumption))); done) | go_keep) (first | (go_at_call 89; refine (l02Round_any _ _ _ (by omega) (by omega) (by omega) (by omega)).mono ?_; rintro e w' ⟨rfl, rfl⟩) | (refine Go.step_append_lies _ rfl (.tmp 61) (.tmp 71) 24 rfl w.heap.size 37 i0 _ 2 16 Try.underlying24 hi hz0 hz1 hz2 rfl (by decide) u5 B.length (flatPt B) (by simp [Act.eval]) ((ownKeepJ hownq (show Below wq.heap.size wq wq.drew by (repeat (first | assumption | exact Below.refl _ _ | refine belowDN ?_ _ | refine Below.drew ?_ | refine Below.setCell ?_ (by first | omega | (simp <;> omega)) _ | refine Below.alloc ?_ (by first | omega | (simp <;> omega)) _ | refine belowCall ?_ (by assumption))))).alloc _) ⟨wq.heap.size, 0, none⟩ 1 1 [.int .i64 x0, .int .i64 (rnd SM GL)] (by simp [Act.eval]) rfl (cellsPt wq.drew _ _ _) (by intro u hu; simp at hu; rcases hu with rfl | rfl <;> rfl) (by decide) (by unfold maxLen; omega) (by omega) (by first | (simp; omega) | omega) _ rfl ?_; intro g3 c3 w3 hown3 hg3 hgg hlt3; have hb3 : Below w.heap.size w w3 := (hBq.drew.alloc hsq (.cells #[.int .i64 x0, .int .i64 (rnd SM GL)] 37)).grown hg3 (by first | (simp; omega) | omega) (fun kk hk => (hownq.lt kk hk).1); have hcr3 : w3.cell? ⟨b1, o1 + i * 5, none⟩ = some (.int .i64 x0) := (hb3.cell (p := ⟨b1, o1 + i * 5, none⟩) hbw).trans c0w)))
            all_goals
              have HO : Hid (w3.ownsRow w.heap.size 37 2 (.slice (some ⟨g3, 0, none⟩) (B.length + 1) c3) (B ++ [(x0, rnd SM GL)]).length (flatPt (B ++ [(x0, rnd SM GL)]))) := Lib.hid (by rw [flatPt_snoc, List.length_append]; exact hown3)
              clear hown3 hown hownr hownq
              go_wp2
              go_roundw
              case rel => exact ⟨p, B ++ [(x0, rnd SM GL)], by omega, rfl, by rw [HBI.out, HS2.out, List.append_assoc], by rw [List.length_append]; have := HP.out; simp; omega, HO.out, hb3⟩
              case measure => simp [Go.RowKit.intOf]; have := HP.out; omega
          · have hg : ¬ (0 : Int) < (GL : Int) := by omega
            have ht0 : i < p := by
              have h1 := HP.out
              have h2 := HT0.out
              omega
            have HS2 : Hid (binsF 1 (ptsE s (xs.drop i)) = binsF 1 (ptsE s (xs.drop p))) := Lib.hid (HS.out.trans (by rw [if_neg hG0]; rfl))
            go_wp2
            go_big_quiet (fail)
            go_wp2
            go_roundw
            case rel => exact ⟨p, B, by omega, rfl, by rw [HBI.out, HS2.out], by omega, ownKeepJ hownr (belowDN (Below.refl _ _) _), belowDN hBw _⟩
            case measure => simp [Go.RowKit.intOf]; omega
    · obtain rfl : i = n := by omega
      have HE := Lib.hid (binsF_nil (wd := 1) (xs := ptsE s (xs.drop i)) (by have := ptsE_len s (xs.drop i); rw [List.length_drop, HL.out] at this; omega))
      go_wp2
      go_ret
      exact ⟨_, rfl, by rw [HBI.out, HE.out, List.append_nil]; exact hown, hB⟩
set_option maxHeartbeats 1000000 in
theorem sCurveOf_any (a : Option Addr) (n c : Nat) (xs : List Es) (o : ByteArray) (w : World) (h : EsL w a n xs) (hn : n ≤ 1048576) :
    Calls Try.prog 37 #[.slice a n c, .string o] w fun e w' => PtRes w.heap.size (coL xs o) (.int .i64 (coC xs o)) w' e ∧ Below w.heap.size w w' := by
  cases hok : okE xs
  · have HC := Lib.hid (co_1 (s := o) hok)
    go_enter Try.func37, Try.ntmps37
    go_wp2_with fail
    refine (l06Ok_below a n c xs w h hn).mono ?_
    rintro e w2 ⟨rfl, b2⟩
    rw [hok]
    go_wp2
    go_ret2
    exact ⟨by rw [HC.out.1, HC.out.2]; exact PtRes.nil _ _ _, b2⟩
  cases hnm : nameB o
  · have HC := Lib.hid (co_2 (s := o) hok hnm)
    go_enter Try.func37, Try.ntmps37
    go_wp2_with fail
    refine (l06Ok_below a n c xs w h hn).mono ?_
    rintro e w2 ⟨rfl, b2⟩
    rw [hok]
    go_wp2_with (go_at_call 83; refine (sIsName_same _ _).mono ?_; rintro e w' ⟨rfl, rfl⟩; rw [hnm])
    go_ret2
    exact ⟨by rw [HC.out.1, HC.out.2]; exact PtRes.nil _ _ _, b2⟩
  have HC := Lib.hid (co_0 (s := o) hok hnm)
  go_enter Try.func37, Try.ntmps37
  go_wp2_with fail
  refine (l06Ok_below a n c xs w h hn).mono ?_
  rintro e w2 ⟨rfl, b2⟩
  rw [hok]
  go_wp2_with (go_at_call 83; refine (sIsName_same _ _).mono ?_; rintro e w' ⟨rfl, rfl⟩; rw [hnm])
  refine (l08Of_any a n c xs o w2 (h.mono b2) hok).mono ?_
  rintro e w3 ⟨v, rfl, hown, b3⟩
  go_wp2
  go_ret2
  exact ⟨by rw [HC.out.1, HC.out.2]; exact PtRes.own (ownLow hown b2.size) rfl, belowCall b2 b3⟩
end Go.Proofs.Ytiogffjhhhpolaa
