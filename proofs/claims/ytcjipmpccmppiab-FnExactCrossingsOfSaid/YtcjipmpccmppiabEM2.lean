/- CrossingsOf, the program's side. -/
import Derived.Test.YtcjipmpccmppiabEM1
namespace Go.Proofs.Ytcjipmpccmppiab
open Go.ChangeShapes Go.WideShapes Go.ChangeAt Go.RowKit Go.Deep

set_option maxRecDepth 100000 in
set_option maxHeartbeats 4000000 in
theorem iCro_any (a : Option Addr) (n c : Nat) (xs : List Pt) (l : Int) (w : World) (h : PtL w a n xs) (hn : n ≤ 1048576) :
    Calls Try.prog 36 #[.slice a n c, .int .i64 l] w fun x w' => FrRes w.heap.size (crA xs l) (.int .i64 (crC xs l)) w' x ∧ Below w.heap.size w w' := by
  obtain ⟨i0, hi, hz0, hz1, hz2⟩ := info_parts Fr_info
  cases hok : okP xs
  · have HD := Lib.hid (cr_1 (l := l) hok)
    go_enter Try.func36, Try.ntmps36
    go_wp2_with fail
    refine (iValidCv_any a n c xs w h hn).mono ?_
    rintro x w2 ⟨rfl, b2⟩
    rw [hok]
    go_wp2
    go_ret2
    exact ⟨by rw [HD.out.1, HD.out.2]; exact FrRes.nil _ _ _, b2⟩
  cases hin : magB l
  · have HD := Lib.hid (cr_2 hok hin)
    go_enter Try.func36, Try.ntmps36
    go_wp2_with fail
    refine (iValidCv_any a n c xs w h hn).mono ?_
    rintro x w2 ⟨rfl, b2⟩
    rw [hok]
    go_wp2_with ((go_at_call 70; refine (iValidMag_any _ _).mono ?_; rintro x w' ⟨rfl, rfl⟩; rw [hin]))
    go_ret2
    exact ⟨by rw [HD.out.1, HD.out.2]; exact FrRes.nil _ _ _, b2⟩
  have HD := Lib.hid (cr_0 h.1 hok hin)
  obtain ⟨h100, hbd, -⟩ := okP_num h.1 hok
  have HBD := Lib.hid hbd
  have hlb := magB_iff.1 hin
  have hMz : (n : Int) ≤ 100 := by omega
  clear hbd
  go_enter Try.func36, Try.ntmps36
  go_wp2_with fail
  refine (iValidCv_any a n c xs w h hn).mono ?_
  rintro x w2 ⟨rfl, b2⟩
  rw [hok]
  have hcv2 := h.mono b2
  go_wp2_with ((go_at_call 70; refine (iValidMag_any _ _).mono ?_; rintro x w' ⟨rfl, rfl⟩; rw [hin]))
  go_loopw [6, 7] (fun o i wr => ∃ k : Nat, k ≤ n - 1 ∧ i = .int .i64 ((k + 1 : Nat) : Int) ∧ wr.ownsRow w2.heap.size 37 2 o (crL xs l k).length (flatFr (crL xs l k)) ∧ Below w2.heap.size w2 wr) (fun _ i _ => n - (Go.RowKit.intOf i).toNat)
  case atStart => exact ⟨0, by omega, rfl, World.ownsRow_nil _ _ _ _, Below.refl _ _⟩
  case round =>
    obtain ⟨k, hk, rfl, hown, hB⟩ := hrel
    have hsz := hB.size
    have hll := crL_len xs l k
    by_cases hlt : k + 1 < n
    · have hkz : (k : Int) + 1 < (n : Int) := by omega
      have hkz2 : (k : Int) < (n : Int) := by omega
      obtain ⟨b1, o1, rfl, hP⟩ := hcv2.2 k (by omega)
      obtain ⟨b1', o1', he, hQ⟩ := hcv2.2 (k + 1) hlt
      cases he
      have hb1 := hP.1
      have d1 := HBD.out k (by omega)
      have d2 := HBD.out (k + 1) hlt
      obtain ⟨⟨x0, x1⟩, hx⟩ : ∃ x, xs[k]?.getD pt0 = x := ⟨_, rfl⟩
      obtain ⟨⟨y0, y1⟩, hy⟩ : ∃ x, xs[k + 1]?.getD pt0 = x := ⟨_, rfl⟩
      rw [hx] at hP d1
      rw [hy] at hQ d2
      simp only at d1 d2
      obtain ⟨-, p0, p1⟩ := (hP.mono hB).parts
      obtain ⟨-, r0, r1⟩ := (hQ.mono hB).parts
      have hbr : b1 < wr.heap.size := by omega
      have hRB : crB xs l k = (decide (x1 < l) != decide (y1 < l)) := by rw [crB, mgX, mgX, hx, hy]
      have hRF : crF xs l k = (qtN (x0 * (y1 - l) + y0 * (l - x1)) (y1 - x1), qtD (x0 * (y1 - l) + y0 * (l - x1)) (y1 - x1)) := by rw [crF, crN, crD, mgX, mgX, tmX, tmX, hx, hy]
      have HRB := Lib.hid hRB
      have HRF := Lib.hid hRF
      have HY := Lib.hid (crL_yes (xs := xs) (l := l) (k := k))
      have HN := Lib.hid (crL_no (xs := xs) (l := l) (k := k))
      have hsub : IntKind.i64.wrap ((k : Int) + 1 - 1) = (k : Int) := by rw [IntWalk.i64_in _ (by omega)]; omega
      have hw0 : IntKind.i64.wrap (k : Int) = (k : Int) := IntWalk.i64_in _ (by omega)
      clear hx hy hRB hRF hP hQ
      obtain ⟨cb, hcb⟩ : ∃ b, (decide (x1 < l) != decide (y1 < l)) = b := ⟨_, rfl⟩
      have HCR : ∀ W, Calls Try.prog 85 #[.agg #[.int .i64 x0, .int .i64 x1], .agg #[.int .i64 y0, .int .i64 y1], .int .i64 l] W fun e w' => e = .returned (.bool cb) ∧ Below W.heap.size W w' := fun W => by rw [← hcb]; exact crosses_any x0 x1 y0 y1 l W
      cases cb
      · have HS := Lib.hid (HN.out (by rw [HRB.out, hcb]))
        have HO := Lib.hid hown
        clear hown hcb
        go_wp2_with fail
        go_region
        all_goals
          go_wp2_with (go_at_call 85; refine (HCR _).mono ?_; rintro e w5 ⟨rfl, b5⟩; obtain ⟨hc5, hf5⟩ := bcell b5; have D5 : Below wr.heap.size wr w5 := belowCall (by (repeat (first | assumption | exact Below.refl _ _ | refine belowDN ?_ _ | refine Below.drew ?_ | refine Below.setCell ?_ (by first | omega | (simp <;> omega)) _ | refine Below.alloc ?_ (by first | omega | (simp <;> omega)) _ | refine belowCall ?_ (by assumption)))) b5; have y5 := b5.size; (try simp at y5); clear b5)
          go_roundw
          case rel => exact ⟨k + 1, by omega, by go_num, by rw [HS.out]; exact ownKeepF HO.out D5, hB.trans (D5.mono (by omega))⟩
          case measure => simp [Go.RowKit.intOf]; omega
      · have HS := Lib.hid (HY.out (by rw [HRB.out, hcb]))
        have hne : y1 - x1 ≠ 0 := fun e => by
          have e2 : y1 = x1 := by omega
          rw [e2] at hcb
          simp at hcb
        have HCT := Lib.hid (fun W => crossing_any x0 x1 y0 y1 l W d1 d2 hlb hne)
        rw [HRF.out] at HS
        generalize qtN (x0 * (y1 - l) + y0 * (l - x1)) (y1 - x1) = X at HCT HS
        generalize qtD (x0 * (y1 - l) + y0 * (l - x1)) (y1 - x1) = Y at HCT HS
        clear hcb hne HRF
        go_wp2_with fail
        go_region
        all_goals
          go_wp2_with (first | (go_at_call 85; refine (HCR _).mono ?_; rintro e w5 ⟨rfl, b5⟩; obtain ⟨hc5, hf5⟩ := bcell b5; have D5 : Below wr.heap.size wr w5 := belowCall (by (repeat (first | assumption | exact Below.refl _ _ | refine belowDN ?_ _ | refine Below.drew ?_ | refine Below.setCell ?_ (by first | omega | (simp <;> omega)) _ | refine Below.alloc ?_ (by first | omega | (simp <;> omega)) _ | refine belowCall ?_ (by assumption)))) b5; have y5 := b5.size; (try simp at y5); clear b5) | (go_at_call 86; refine (HCT.out _).mono ?_; rintro e w6 ⟨rfl, b6⟩; have D6 : Below wr.heap.size wr w6 := belowCall D5 b6; clear b6; have hown5 := ownKeepF hown D6; have hB5 := hB.trans (D6.mono (by omega)); have hs5 := hB5.size) | (at_builtin; refine wpList_append_own _ rfl _ _ 57 rfl w2.heap.size 37 i0 _ 2 16 Try.underlying57 hi hz0 hz1 hz2 rfl (by decide) _ _ _ rfl (hown5.alloc _) ⟨w6.heap.size, 0, none⟩ 1 1 [.int .i64 X, .int .i64 Y] rfl rfl (cellsFr w6 _ _ _) (by intro u hu; simp at hu; rcases hu with rfl | rfl <;> rfl) (by unfold maxLen; omega) (by omega) (by simp; omega) ?_; intro v7 w7 hown7 hg7 hnil7; have hB7 : Below w2.heap.size w2 w7 := (show Below w2.heap.size w2 (w6.alloc (.cells #[.int .i64 X, .int .i64 Y] 37)) from hB5.alloc (by omega) _).grown hg7 (by simp; omega) (fun j e => (hown5.lt j e).1); clear hg7 hnil7))
          have HO := Lib.hid hown7
          clear hown7 hown5
          go_roundw
          case rel => exact ⟨k + 1, by omega, by go_num, by rw [HS.out, List.length_append, flatFr_snoc]; exact HO.out, hB7⟩
          case measure => simp [Go.RowKit.intOf]; omega
    · have hke : k = n - 1 := by omega
      have hkz : ¬ (k : Int) + 1 < (n : Int) := by omega
      have HE : Hid (crA xs l = crL xs l k) := Lib.hid (by rw [HD.out.2, hke])
      have HO := Lib.hid hown
      clear hown hke
      go_wp2
      go_ret2
      exact ⟨by rw [HE.out, HD.out.1]; exact FrRes.own (ownLow HO.out b2.size) rfl, belowCall b2 hB⟩
end Go.Proofs.Ytcjipmpccmppiab
