/- SmoothCurve and OutliersOf, the model's. -/
import Derived.Test.YtiogffjhhhpolaaJ7
import Derived.Test.YtiogffjhhhpolaaJ2
import Derived.Test.YtiogffjhhhpolaaH7R
import Derived.Deep.AppendLies
import Derived.Deep.RegionHeld3
namespace Go.Proofs.Ytiogffjhhhpolaa
open Go.ChangeShapes Go.WideShapes Go.ChangeAt Go.RowKit Go.Deep

theorem l08Median_val (a : Option Addr) (n c : Nat) (xs : List Pt) (i s : Nat) (m : Int) (w : World) (h : PtL w a n xs) (hok : okP xs = true) (hin : i < n) (hs : s ≤ 10) (hm : rmed xs s i = m) :
    Calls Try.prog 90 #[.slice a n c, .int .i64 i, .int .i64 s] w fun e w' => e = .returned (.int .i64 m) ∧ Below w.heap.size w w' :=
  (l08Median_any a n c xs i s w h hok hin hs).mono fun _ _ ⟨h1, h2⟩ => ⟨by rw [h1, hm], h2⟩
theorem flatPt_smP {xs : List Pt} {s k : Nat} {x0 x1 m : Int} (hx : xs[k]?.getD pt0 = (x0, x1)) (hm : rmed xs s k = m) : flatPt (smP xs s (k + 1)) = flatPt (smP xs s k) ++ [.int .i64 x0, .int .i64 m] := by
  rw [smP_step hx, flatPt_snoc, hm]
  rfl
set_option maxRecDepth 100000 in
set_option maxHeartbeats 4000000 in
theorem sSmooth_any (a : Option Addr) (n c : Nat) (xs : List Pt) (s : Int) (w : World) (h : PtL w a n xs) (hn : n ≤ 1048576) :
    Calls Try.prog 44 #[.slice a n c, .int .i64 s] w fun e w' => PtRes w.heap.size (smL xs s) (.int .i64 (smC xs s)) w' e ∧ Below w.heap.size w w' := by
  cases hok : okP xs
  · have HC := Lib.hid (sm_1 (s := s) hok)
    go_enter Try.func44, Try.ntmps44
    go_wp2_with fail
    refine (l08Ok_below a n c xs w h hn).mono ?_
    rintro e w2 ⟨rfl, b2⟩
    rw [hok]
    go_wp2
    go_ret2
    exact ⟨by rw [HC.out.1, HC.out.2]; exact PtRes.nil _ _ _, b2⟩
  cases hsb : sideB s
  · have HC := Lib.hid (sm_2 hok hsb)
    have hsd : inB s 0 10 = false := hsb
    go_enter Try.func44, Try.ntmps44
    go_wp2_with fail
    refine (l08Ok_below a n c xs w h hn).mono ?_
    rintro e w2 ⟨rfl, b2⟩
    rw [hok]
    go_wp2_with (go_at_call 88; refine (l00In_any _ _ _ _).mono ?_; rintro e w' ⟨rfl, rfl⟩; rw [hsd])
    go_ret2
    exact ⟨by rw [HC.out.1, HC.out.2]; exact PtRes.nil _ _ _, b2⟩
  have hsd : inB s 0 10 = true := hsb
  obtain ⟨i0, hi, hz0, hz1, hz2⟩ := info_parts Pt_info
  obtain ⟨s, rfl, hs⟩ := side_nat hsb
  have HC := Lib.hid (sm_0 h.1 hok hsb)
  have HL := Lib.hid h.1
  have HOK := Lib.hid hok
  obtain ⟨h100, -, -⟩ := okP_num h.1 hok
  have hl : (n : Int) ≤ 100 := by omega
  have hss : (s : Int) ≤ 10 := by omega
  go_enter Try.func44, Try.ntmps44
  go_wp2_with fail
  refine (l08Ok_below a n c xs w h hn).mono ?_
  rintro e w0 ⟨rfl, b0⟩
  rw [hok]
  have h0 := h.mono b0
  have hz00 := b0.size
  go_wp2_with (go_at_call 88; refine (l00In_any _ _ _ _).mono ?_; rintro e w' ⟨rfl, rfl⟩; rw [hsd])
  clear hok hsb hsd
  go_loopw [6, 7] (fun o i wr => ∃ (k g c' : Nat), k ≤ n ∧ i = .int .i64 k ∧ o = .slice (some ⟨g, 0, none⟩) k c' ∧ wr.ownsRow w.heap.size 37 2 (.slice (some ⟨g, 0, none⟩) k c') k (flatPt (smP xs s k)) ∧ Below w.heap.size w wr) (fun _ i _ => n - (Go.RowKit.intOf i).toNat)
  case atStart => exact ⟨0, w0.heap.size, 0, Nat.zero_le _, rfl, rfl, ownLow (World.ownsRow_lit w0 #[] 0 (Nat.le_refl _) (by unfold maxLen; omega) rfl) hz00, by (repeat (first | assumption | exact Below.refl _ _ | refine belowDN ?_ _ | refine Below.drew ?_ | refine Below.setCell ?_ (by first | omega | (simp <;> omega)) _ | refine Below.alloc ?_ (by first | omega | (simp <;> omega)) _ | refine belowCall ?_ (by assumption)))⟩
  case round =>
    obtain ⟨k, g, c', hk, rfl, rfl, hown, hB⟩ := hrel
    have hsz := hB.size
    by_cases hlt : k < n
    · have hcv := h.mono hB
      obtain ⟨b1, o1, rfl, hc⟩ := h.2 k hlt
      have hbr : b1 < wr.heap.size := Nat.lt_of_lt_of_le hc.1 hsz
      obtain ⟨⟨x0, x1⟩, hx⟩ : ∃ x, xs[k]?.getD pt0 = x := ⟨_, rfl⟩
      obtain ⟨m, hm⟩ : ∃ m, rmed xs s k = m := ⟨_, rfl⟩
      have HS := Lib.hid (flatPt_smP hx hm)
      have HM := Lib.hid hm
      rw [hx] at hc
      obtain ⟨hbw, c0w, -⟩ := hc.parts
      obtain ⟨-, p0, p1⟩ := (hc.mono hB).parts
      have hkk : (k : Int) < (n : Int) := by omega
      clear hx hm hc
      generalize hLk : flatPt (smP xs s k) = L at hown HS
      clear hLk
      go_wp2_with fail
      go_region_held3 (fun W' => Below w.heap.size w W' ∧ W'.cell? ⟨b1, o1 + k * 2, none⟩ = some (.int .i64 x0)) (refine ⟨?_, ?_⟩ <;> first | assumption | exact Below.drew (belowDN (Below.refl _ _) _) | ((repeat (first | assumption | exact Below.refl _ _ | refine belowDN ?_ _ | refine Below.drew ?_ | refine Below.setCell ?_ (by first | omega | (simp <;> omega)) _ | refine Below.alloc ?_ (by first | omega | (simp <;> omega)) _ | refine belowCall ?_ (by assumption))); done) | (rw [b2.cell (p := ⟨b1, o1 + k * 2, none⟩) (by first | exact hbr | (simp; omega))]; go_keep) | go_keep) (first | (go_at_call 90; refine (l08Median_val (some ⟨b1, o1, none⟩) n c xs k s m _ (hcv.mono (by (repeat (first | assumption | exact Below.refl _ _ | refine belowDN ?_ _ | refine Below.drew ?_ | refine Below.setCell ?_ (by first | omega | (simp <;> omega)) _ | refine Below.alloc ?_ (by first | omega | (simp <;> omega)) _ | refine belowCall ?_ (by assumption))))) HOK.out hlt hs HM.out).mono ?_; rintro e w2 ⟨rfl, b2⟩; have hzz := b2.size; (try simp at hzz); have hcr2 : w2.cell? ⟨b1, o1 + k * 2, none⟩ = some (.int .i64 x0) := (by rw [b2.cell (p := ⟨b1, o1 + k * 2, none⟩) (by first | exact hbr | (simp; omega))]; go_keep)) | (have hw2 : Below wr.heap.size wr w2 := (by (repeat (first | assumption | exact Below.refl _ _ | refine belowDN ?_ _ | refine Below.drew ?_ | refine Below.setCell ?_ (by first | omega | (simp <;> omega)) _ | refine Below.alloc ?_ (by first | omega | (simp <;> omega)) _ | refine belowCall ?_ (by assumption)))); have hown2 := ownKeepJ hown hw2; have hB2 := belowCall hB hw2; have hs2 := hB2.size; refine Go.step_append_lies _ rfl (.tmp 21) (.tmp 32) 24 rfl w.heap.size 37 i0 _ 2 16 Try.underlying24 hi hz0 hz1 hz2 rfl (by decide) (.slice (some ⟨g, 0, none⟩) k c') k L (by simp [Act.eval]) (hown2.alloc _) ⟨w2.heap.size, 0, none⟩ 1 1 [.int .i64 x0, .int .i64 m] (by simp [Act.eval]) rfl (cellsPt w2 _ _ _) (by intro u hu; simp at hu; rcases hu with rfl | rfl <;> rfl) (by decide) (by unfold maxLen; omega) (by omega) (by first | (simp; omega) | omega) _ rfl ?_; intro g3 c3 w3 hown3 hg3 hgg hlt3; have hb3 : Below w.heap.size w w3 := (hB2.alloc hs2 (.cells #[.int .i64 x0, .int .i64 m] 37)).grown hg3 (by first | (simp; omega) | omega) (fun kk hk => by simp [Value.ownBlock] at hk; subst hk; exact (hown2.lt g rfl).1); have hcr3 : w3.cell? ⟨b1, o1 + k * 2, none⟩ = some (.int .i64 x0) := (hb3.cell (p := ⟨b1, o1 + k * 2, none⟩) hbw).trans c0w))
      all_goals
        have HO := Lib.hid hown3
        clear hown hown3
        go_wp2
        go_roundw
        case rel => exact ⟨k + 1, g3, c3, by omega, by go_num, by rfl, by rw [HS.out]; exact HO.out, hb3⟩
        case measure => simp [Go.RowKit.intOf]; omega
    · obtain rfl : k = n := by omega
      go_wp2
      go_ret2
      exact ⟨by rw [HC.out.1, HC.out.2]; exact PtRes.own hown (smP_len _ _ _), hB⟩
set_option maxRecDepth 100000 in
set_option maxHeartbeats 4000000 in
theorem sOut_any (a : Option Addr) (n c : Nat) (xs : List Pt) (s b : Int) (w : World) (h : PtL w a n xs) (hn : n ≤ 1048576) :
    Calls Try.prog 47 #[.slice a n c, .int .i64 s, .int .i64 b] w fun e w' => IntRes w.heap.size (ouL xs s b) (.int .i64 (ouC xs s b)) w' e ∧ Below w.heap.size w w' := by
  cases hok : okP xs
  · have HC := Lib.hid (ou_1 (s := s) (b := b) hok)
    go_enter Try.func47, Try.ntmps47
    go_wp2_with fail
    refine (l08Ok_below a n c xs w h hn).mono ?_
    rintro e w2 ⟨rfl, b2⟩
    rw [hok]
    go_wp2
    go_ret2
    exact ⟨by rw [HC.out.1, HC.out.2]; exact IntRes.nil _ _ _, b2⟩
  cases hsb : sideB s
  · have HC := Lib.hid (ou_2 (b := b) hok (by rw [hsb]; rfl))
    have hsd : inB s 0 10 = false := hsb
    go_enter Try.func47, Try.ntmps47
    go_wp2_with fail
    refine (l08Ok_below a n c xs w h hn).mono ?_
    rintro e w2 ⟨rfl, b2⟩
    rw [hok]
    go_wp2_with (first | (go_at_call 88; refine (l00In_any _ _ _ _).mono ?_; rintro e w' ⟨rfl, rfl⟩; rw [hsd]) | (go_at_call 88; refine (l00In_any _ _ _ _).mono ?_; rintro e w' ⟨rfl, rfl⟩; rw [hby]))
    go_ret2
    exact ⟨by rw [HC.out.1, HC.out.2]; exact IntRes.nil _ _ _, b2⟩
  have hsd : inB s 0 10 = true := hsb
  cases hbb : byB b
  · have HC := Lib.hid (ou_2 (b := b) hok (by rw [hsb, hbb]; rfl))
    have hby : inB b 1 20000 = false := hbb
    go_enter Try.func47, Try.ntmps47
    go_wp2_with fail
    refine (l08Ok_below a n c xs w h hn).mono ?_
    rintro e w2 ⟨rfl, b2⟩
    rw [hok]
    go_wp2_with (first | (go_at_call 88; refine (l00In_any _ _ _ _).mono ?_; rintro e w' ⟨rfl, rfl⟩; rw [hsd]) | (go_at_call 88; refine (l00In_any _ _ _ _).mono ?_; rintro e w' ⟨rfl, rfl⟩; rw [hby]))
    go_ret2
    exact ⟨by rw [HC.out.1, HC.out.2]; exact IntRes.nil _ _ _, b2⟩
  have hby : inB b 1 20000 = true := hbb
  obtain ⟨i0, hi, hz0, hz1, hz2⟩ := info_parts A_info
  obtain ⟨s, rfl, hs⟩ := side_nat hsb
  have HC := Lib.hid (ou_0 h.1 hok hsb hbb)
  have HL := Lib.hid h.1
  have HOK := Lib.hid hok
  obtain ⟨h100, hbd, -⟩ := okP_num h.1 hok
  have hl : (n : Int) ≤ 100 := by omega
  have hss : (s : Int) ≤ 10 := by omega
  have HBD := Lib.hid hbd
  clear hbd
  go_enter Try.func47, Try.ntmps47
  go_wp2_with fail
  refine (l08Ok_below a n c xs w h hn).mono ?_
  rintro e w0 ⟨rfl, b0⟩
  rw [hok]
  have h0 := h.mono b0
  have hz00 := b0.size
  go_wp2_with (first | (go_at_call 88; refine (l00In_any _ _ _ _).mono ?_; rintro e w' ⟨rfl, rfl⟩; rw [hsd]) | (go_at_call 88; refine (l00In_any _ _ _ _).mono ?_; rintro e w' ⟨rfl, rfl⟩; rw [hby]))
  clear hok hsb hsd hbb hby
  go_loopw [8, 9] (fun o i wr => ∃ k : Nat, k ≤ n ∧ i = .int .i64 k ∧ wr.ownsRow w.heap.size 2 1 o (ouP xs s b k).length ((ouP xs s b k).map (Value.int .i64)) ∧ Below w.heap.size w wr) (fun _ i _ => n - (Go.RowKit.intOf i).toNat)
  case atStart => exact ⟨0, Nat.zero_le _, rfl, by rw [ouP_zero]; exact ownLow (World.ownsRow_lit w0 #[] 0 (Nat.le_refl _) (by unfold maxLen; omega) rfl) hz00, by (repeat (first | assumption | exact Below.refl _ _ | refine belowDN ?_ _ | refine Below.drew ?_ | refine Below.setCell ?_ (by first | omega | (simp <;> omega)) _ | refine Below.alloc ?_ (by first | omega | (simp <;> omega)) _ | refine belowCall ?_ (by assumption)))⟩
  case round =>
    obtain ⟨k, hk, rfl, hown, hB⟩ := hrel
    have hsz := hB.size
    by_cases hlt : k < n
    · have hcv := h.mono hB
      obtain ⟨b1, o1, rfl, hc⟩ := h.2 k hlt
      have hbr : b1 < wr.heap.size := Nat.lt_of_lt_of_le hc.1 hsz
      obtain ⟨⟨x0, x1⟩, hx⟩ : ∃ x, xs[k]?.getD pt0 = x := ⟨_, rfl⟩
      have hbx := HBD.out k hlt
      obtain ⟨m1, m2⟩ := rmed_bd (s := s) HL.out HOK.out hlt
      obtain ⟨m, hm⟩ : ∃ m, rmed xs s k = m := ⟨_, rfl⟩
      have hF : farP xs s b k = decide (b < ((x1 - rmed xs s k).natAbs : Int)) := by rw [farP, hx]
      have HY := Lib.hid (ouP_yes (xs := xs) (s := s) (k := k) (b := b))
      have HN := Lib.hid (ouP_no (xs := xs) (s := s) (k := k) (b := b))
      have hpl := ouP_len xs s b k
      rw [hF, hm] at HY HN
      rw [hm] at m1 m2
      have HM := Lib.hid hm
      rw [hx] at hc hbx
      obtain ⟨-, p0, p1⟩ := (hc.mono hB).parts
      have hkk : (k : Int) < (n : Int) := by omega
      clear hx hc hF hm
      generalize hLk : ouP xs s b k = L at hown hpl HY HN
      clear hLk
      have hw0 : IntKind.i64.wrap (x1 - m) = x1 - m := IntWalk.i64_in _ (by omega)
      cases hfar : decide (b < ((x1 - m).natAbs : Int))
      · have HS := Lib.hid (HN.out hfar)
        go_wp2_with fail
        go_region_held3 (fun W' => Below wr.heap.size wr W' ∧ W'.cell? ⟨b1, o1 + k * 2 + 1, none⟩ = some (.int .i64 x1)) (refine ⟨?_, ?_⟩ <;> first | assumption | exact Below.drew (belowDN (Below.refl _ _) _) | ((repeat (first | assumption | exact Below.refl _ _ | refine belowDN ?_ _ | refine Below.drew ?_ | refine Below.setCell ?_ (by first | omega | (simp <;> omega)) _ | refine Below.alloc ?_ (by first | omega | (simp <;> omega)) _ | refine belowCall ?_ (by assumption))); done) | (rw [b2.cell (p := ⟨b1, o1 + k * 2 + 1, none⟩) (by first | exact hbr | (simp; omega))]; go_keep) | go_keep) (first | (go_at_call 90; refine (l08Median_val (some ⟨b1, o1, none⟩) n c xs k s m _ (hcv.mono (by (repeat (first | assumption | exact Below.refl _ _ | refine belowDN ?_ _ | refine Below.drew ?_ | refine Below.setCell ?_ (by first | omega | (simp <;> omega)) _ | refine Below.alloc ?_ (by first | omega | (simp <;> omega)) _ | refine belowCall ?_ (by assumption))))) HOK.out hlt hs HM.out).mono ?_; rintro e w2 ⟨rfl, b2⟩; have hzz := b2.size; (try simp at hzz); have hcr2 : w2.cell? ⟨b1, o1 + k * 2 + 1, none⟩ = some (.int .i64 x1) := (by rw [b2.cell (p := ⟨b1, o1 + k * 2 + 1, none⟩) (by first | exact hbr | (simp; omega))]; go_keep)) | (go_at_call 93; (try rw [hw0]); refine (l02Size_any _ _ (by omega) (by omega)).mono ?_; rintro e w' ⟨rfl, rfl⟩))
        all_goals
          have hownq := ownKeepJ hown (show Below wr.heap.size wr w2 by (repeat (first | assumption | exact Below.refl _ _ | refine belowDN ?_ _ | refine Below.drew ?_ | refine Below.setCell ?_ (by first | omega | (simp <;> omega)) _ | refine Below.alloc ?_ (by first | omega | (simp <;> omega)) _ | refine belowCall ?_ (by assumption))))
          go_wp2
          go_roundw
          case rel => exact ⟨k + 1, by omega, by go_num, by rw [HS.out]; exact hownq, belowCall hB (by (repeat (first | assumption | exact Below.refl _ _ | refine belowDN ?_ _ | refine Below.drew ?_ | refine Below.setCell ?_ (by first | omega | (simp <;> omega)) _ | refine Below.alloc ?_ (by first | omega | (simp <;> omega)) _ | refine belowCall ?_ (by assumption))))⟩
          case measure => simp [Go.RowKit.intOf]; omega
      · have HS := Lib.hid (HY.out hfar)
        go_wp2_with fail
        go_region_held3 (fun W' => Below wr.heap.size wr W' ∧ W'.cell? ⟨b1, o1 + k * 2 + 1, none⟩ = some (.int .i64 x1)) (refine ⟨?_, ?_⟩ <;> first | assumption | exact Below.drew (belowDN (Below.refl _ _) _) | ((repeat (first | assumption | exact Below.refl _ _ | refine belowDN ?_ _ | refine Below.drew ?_ | refine Below.setCell ?_ (by first | omega | (simp <;> omega)) _ | refine Below.alloc ?_ (by first | omega | (simp <;> omega)) _ | refine belowCall ?_ (by assumption))); done) | (rw [b2.cell (p := ⟨b1, o1 + k * 2 + 1, none⟩) (by first | exact hbr | (simp; omega))]; go_keep) | go_keep) (first | (go_at_call 90; refine (l08Median_val (some ⟨b1, o1, none⟩) n c xs k s m _ (hcv.mono (by (repeat (first | assumption | exact Below.refl _ _ | refine belowDN ?_ _ | refine Below.drew ?_ | refine Below.setCell ?_ (by first | omega | (simp <;> omega)) _ | refine Below.alloc ?_ (by first | omega | (simp <;> omega)) _ | refine belowCall ?_ (by assumption))))) HOK.out hlt hs HM.out).mono ?_; rintro e w2 ⟨rfl, b2⟩; have hzz := b2.size; (try simp at hzz); have hcr2 : w2.cell? ⟨b1, o1 + k * 2 + 1, none⟩ = some (.int .i64 x1) := (by rw [b2.cell (p := ⟨b1, o1 + k * 2 + 1, none⟩) (by first | exact hbr | (simp; omega))]; go_keep)) | (go_at_call 93; (try rw [hw0]); refine (l02Size_any _ _ (by omega) (by omega)).mono ?_; rintro e w' ⟨rfl, rfl⟩))
        all_goals
          have hw2 : Below wr.heap.size wr w2 := by (repeat (first | assumption | exact Below.refl _ _ | refine belowDN ?_ _ | refine Below.drew ?_ | refine Below.setCell ?_ (by first | omega | (simp <;> omega)) _ | refine Below.alloc ?_ (by first | omega | (simp <;> omega)) _ | refine belowCall ?_ (by assumption)))
          have hown2 := ownKeepJ hown hw2
          have hBq := belowCall hB hw2
          have hsq := hBq.size
          go_wp2_with (at_builtin; refine wpList_append_own _ rfl _ _ 29 rfl w.heap.size 2 i0 (.int .i64 0) 1 8 Try.underlying29 hi hz0 hz1 hz2 rfl (by decide) _ _ _ rfl (hown2.alloc _) ⟨w2.heap.size, 0, none⟩ 1 1 [.int .i64 k] rfl rfl (cell_one_new _ _ _) (by intro u hu; simp at hu; subst hu; rfl) (by unfold maxLen; omega) (by omega) (by simp; omega) ?_; intro v7 w7 hown7 hg7 hnil7; have hB7 : Below w.heap.size w w7 := (hBq.alloc hsq (.cells #[.int .i64 k] 2)).grown hg7 (by simp; omega) (fun j e => (hown2.lt j e).1); clear hg7 hnil7)
          have HO := Lib.hid hown7
          clear hown hown7 hown2
          go_roundw
          case rel => exact ⟨k + 1, by omega, by go_num, by rw [HS.out.1, HS.out.2]; exact HO.out, hB7⟩
          case measure => simp [Go.RowKit.intOf]; omega
    · obtain rfl : k = n := by omega
      go_wp2
      go_ret2
      exact ⟨by rw [HC.out.1, HC.out.2]; exact IntRes.own hown rfl, hB⟩
end Go.Proofs.Ytiogffjhhhpolaa
