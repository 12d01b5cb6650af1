/- An estimate put into a list, and found in it: the model's walks. -/
import Derived.Test.YtfnjndbnogeddaaDoorP4
namespace Go.Proofs.YtfnjndbnogeddaaDoor
open Go.ChangeShapes Go.WideShapes Go.ChangeAt Go.RowKit Go.Deep

set_option maxRecDepth 100000 in
set_option maxHeartbeats 2000000 in
theorem l06Find_any (a : Option Addr) (n c eb eo : Nat) (xs : List Es) (x0 : Int) (x1 x2 : ByteArray) (x3 : Int) (x4 : Bool) (w : World) (h : EsL w a n xs) (hE : EsC w eb eo (x0, x1, x2, x3, x4)) (hn : n ≤ 1048576) :
    Calls Tryd.prog 24 #[.slice a n c, .pointer (some ⟨eb, eo, none⟩)] w fun e w' => e = .returned (fndV xs (x0, x1, x2, x3, x4)) ∧ ∃ m, w' = w.drewN m := by
  have hl : (n : Int) ≤ 1048576 := by omega
  have HL := Lib.hid h.1
  go_enter Tryd.func24, Tryd.ntmps24
  go_wp2
  go_loopw [5] (fun i wr => ∃ k q : Nat, k ≤ n ∧ i = .int .i64 k ∧ (∀ j, j < k → ¬ esEq (xs[j]?.getD es0) (x0, x1, x2, x3, x4)) ∧ wr = w.drewN q) (fun i _ => n - (Go.RowKit.intOf i).toNat)
  case atStart => exact ⟨0, 0, Nat.zero_le _, rfl, fun j hj => absurd hj (by omega), rfl⟩
  case round =>
    obtain ⟨k, q, hk, rfl, hall, rfl⟩ := hrel
    have HALL := Lib.hid hall
    clear hall
    by_cases hlt : k < n
    · obtain ⟨b1, o1, rfl, hc⟩ := h.2 k hlt
      obtain ⟨⟨y0, y1, y2, y3, y4⟩, hy⟩ : ∃ x, xs[k]?.getD es0 = x := ⟨_, rfl⟩
      rw [hy] at hc
      have HY := Lib.hid hy
      clear hy
      have hT : EsC (w.drewN q) b1 (o1 + k * 5) (y0, y1, y2, y3, y4) := hc.mono (belowDN (Below.refl _ _) _)
      have hX : EsC (w.drewN q) eb eo (x0, x1, x2, x3, x4) := hE.mono (belowDN (Below.refl _ _) _)
      have hkk : (k : Int) < (n : Int) := by omega
      have hk0 : (0 : Int) ≤ (k : Int) := by omega
      cases hb1 : esLt (y0, y1, y2, y3, y4) (x0, x1, x2, x3, x4)
      · cases hb2 : esLt (x0, x1, x2, x3, x4) (y0, y1, y2, y3, y4)
        · have HV : Hid (fndV xs (x0, x1, x2, x3, x4) = .int .i64 (k : Int)) := Lib.hid (by
            have e := fndE_at HL.out hlt HALL.out (by rw [HY.out]; exact esEq_of hb1 hb2)
            rw [fndV, e, if_pos (by have := HL.out; omega)])
          go_wp2_with fail
          refine (l06Before_any b1 _ eb eo y0 y1 y2 y3 y4 x0 x1 x2 x3 x4 _ hT hX).mono ?_
          rintro e w' ⟨rfl, m1, rfl⟩
          rw [hb1]
          go_wp2_with fail
          refine (l06Before_any eb eo b1 _ x0 x1 x2 x3 x4 y0 y1 y2 y3 y4 _ (hE.mono (belowDN (Below.refl _ _) _)) (hc.mono (belowDN (Below.refl _ _) _))).mono ?_
          rintro e w' ⟨rfl, m2, rfl⟩
          rw [hb2]
          go_wp2
          go_ret
          exact ⟨by rw [HV.out]; rfl, by first | exact ⟨_, rfl⟩ | exact ⟨_, World.drewN_drewN _ _ _⟩ | exact ⟨_, by rw [World.drewN_drewN, World.drewN_drewN]⟩⟩
        · have HN : Hid (¬ esEq (y0, y1, y2, y3, y4) (x0, x1, x2, x3, x4)) := Lib.hid (fun e => by rw [esEq_not e.symm] at hb2; cases hb2)
          go_wp2_with fail
          refine (l06Before_any b1 _ eb eo y0 y1 y2 y3 y4 x0 x1 x2 x3 x4 _ hT hX).mono ?_
          rintro e w' ⟨rfl, m1, rfl⟩
          rw [hb1]
          go_wp2_with fail
          refine (l06Before_any eb eo b1 _ x0 x1 x2 x3 x4 y0 y1 y2 y3 y4 _ (hE.mono (belowDN (Below.refl _ _) _)) (hc.mono (belowDN (Below.refl _ _) _))).mono ?_
          rintro e w' ⟨rfl, m2, rfl⟩
          rw [hb2]
          go_wp2
          go_roundw
          case rel =>
            refine ⟨k + 1, _, by omega, by go_num, fun j hj => ?_, by first | rfl | exact World.drewN_drewN _ _ _ | (rw [World.drewN_drewN, World.drewN_drewN])⟩
            by_cases hjk : j = k
            · subst hjk; rw [HY.out]; exact HN.out
            · exact HALL.out j (by omega)
          case measure => simp [Go.RowKit.intOf]; omega
      · have HN : Hid (¬ esEq (y0, y1, y2, y3, y4) (x0, x1, x2, x3, x4)) := Lib.hid (fun e => by rw [esEq_not e] at hb1; cases hb1)
        go_wp2_with fail
        refine (l06Before_any b1 _ eb eo y0 y1 y2 y3 y4 x0 x1 x2 x3 x4 _ hT hX).mono ?_
        rintro e w' ⟨rfl, m1, rfl⟩
        rw [hb1]
        go_wp2
        go_roundw
        case rel =>
          refine ⟨k + 1, _, by omega, by go_num, fun j hj => ?_, by first | rfl | exact World.drewN_drewN _ _ _ | (rw [World.drewN_drewN, World.drewN_drewN])⟩
          by_cases hjk : j = k
          · subst hjk; rw [HY.out]; exact HN.out
          · exact HALL.out j (by omega)
        case measure => simp [Go.RowKit.intOf]; omega
    · obtain rfl : k = n := by omega
      have HV : Hid (fndV xs (x0, x1, x2, x3, x4) = .int .i64 (-1)) := Lib.hid (by
        have e := fndE_end HL.out HALL.out
        rw [fndV, e, if_neg (by have := HL.out; omega)])
      go_wp2
      go_ret
      exact ⟨by rw [HV.out]; rfl, _, rfl⟩
set_option maxRecDepth 100000 in
set_option maxHeartbeats 4000000 in
theorem l06Put_any (b off n c : Nat) (xs : List Es) (x0 : Int) (x1 x2 : ByteArray) (x3 : Int) (x4 : Bool) (w : World) (h : EsL w (some ⟨b, off, none⟩) n xs) (hn : n ≤ 1048576) (hnc : n ≤ c) (hs : RiseE xs) (hno : ∀ y ∈ xs, ¬ esEq y (x0, x1, x2, x3, x4)) :
    Calls Tryd.prog 25 #[.slice (some ⟨b, off, none⟩) n c, .agg #[.int .i64 x0, .string x1, .string x2, .int .i64 x3, .bool x4]] w fun e w' => ∃ v, e = .returned v ∧ v ≠ .slice none 0 0 ∧ w'.ownsRow w.heap.size 37 5 v (n + 1) (flatEs (putE xs (x0, x1, x2, x3, x4))) ∧ Below w.heap.size w w' := by
  have HL := Lib.hid h.1
  have HS := Lib.hid hs
  have HNO := Lib.hid hno
  obtain ⟨i0, hi, hz0, hz1, hz2⟩ := info_parts Es_info
  have hl : (n : Int) ≤ 1048576 := by omega
  have hnc' : (n : Int) ≤ (c : Int) := by omega
  have B1 : Below w.heap.size w (w.alloc (.cells #[.int .i64 x0, .string x1, .string x2, .int .i64 x3, .bool x4] 37)) := (Below.refl _ w).alloc (Nat.le_refl _) _
  have h1 := h.mono B1
  have hbx := EsC.fresh w 37 x0 x1 x2 x3 x4
  clear hs hno
  go_enter Tryd.func25, Tryd.ntmps25
  go_wp2
  generalize w.alloc (.cells #[.int .i64 x0, .string x1, .string x2, .int .i64 x3, .bool x4] 37) = w1 at B1 h1 hbx ⊢
  go_loopw [5] (fun kk wi => ∃ k q : Nat, k ≤ n ∧ kk = .int .i64 k ∧ (∀ j, k ≤ j → j < n → esLt (x0, x1, x2, x3, x4) (xs[j]?.getD es0) = true) ∧ wi = w1.drewN q) (fun kk _ => (Go.RowKit.intOf kk).toNat)
  case atStart => exact ⟨n, 0, Nat.le_refl _, rfl, fun j h1 h2 => by omega, rfl⟩
  case round =>
    obtain ⟨k, q, hki, rfl, hall, rfl⟩ := hrel
    have HALL := Lib.hid hall
    clear hall
    have hki' : (k : Int) ≤ (n : Int) := by omega
    have hk00 : (0 : Int) ≤ (k : Int) := by omega
    have hkc : (k : Int) ≤ (c : Int) := by omega
    by_cases hk0 : 0 < k
    · obtain ⟨k', hk'⟩ : ∃ k', k = k' + 1 := ⟨k - 1, by omega⟩
      obtain ⟨b', off', e0, hc⟩ := h1.2 k' (by omega)
      cases e0
      obtain ⟨⟨y0, y1, y2, y3, y4⟩, hy⟩ : ∃ y, xs[k']?.getD es0 = y := ⟨_, rfl⟩
      rw [hy] at hc
      have HY := Lib.hid hy
      have HK := Lib.hid hk'
      have s1 : (k : Int) - 1 = (k' : Int) := by omega
      have s3 : (k' : Int) < (n : Int) := by omega
      have hX : EsC (w1.drewN q) w.heap.size 0 (x0, x1, x2, x3, x4) := hbx.mono (belowDN (Below.refl _ _) _)
      have hT : EsC (w1.drewN q) b (off + k' * 5) (y0, y1, y2, y3, y4) := hc.mono (belowDN (Below.refl _ _) _)
      clear hk' hy
      cases hlt : esLt (x0, x1, x2, x3, x4) (y0, y1, y2, y3, y4)
      · have hyx : esLt (y0, y1, y2, y3, y4) (x0, x1, x2, x3, x4) = true := by
          rcases esLt_or (y0, y1, y2, y3, y4) (x0, x1, x2, x3, x4) with h9 | h9 | h9
          · exact h9
          · refine absurd h9 (HNO.out _ ?_)
            have hkl : k' < xs.length := by have := HL.out; have := HK.out; omega
            have := HY.out
            rw [List.getElem?_eq_getElem hkl, Option.getD_some] at this
            rw [← this]
            exact List.getElem_mem hkl
          · rw [hlt] at h9; cases h9
        have HPUT := Lib.hid (putE_at (x := (x0, x1, x2, x3, x4)) HL.out hki HALL.out (fun j hj => by
          have hyy : esLt (xs[k']?.getD es0) (x0, x1, x2, x3, x4) = true := by rw [HY.out]; exact hyx
          by_cases hjk : j = k'
          · subst hjk; exact hyy
          · exact esLt_trans (rise_ltE HL.out HS.out (show j < k' by have := HK.out; omega) (by have := HK.out; omega)) hyy))
        clear hyx
        by_cases hkc2 : c = k
        all_goals
          go_wp2_with (first | ((go_at_call 31; refine (l06Before_any w.heap.size 0 b _ x0 x1 x2 x3 x4 y0 y1 y2 y3 y4 _ hX hT).mono ?_; rintro e w' ⟨rfl, mq, rfl⟩; rw [hlt]); (have hb5 : Below w1.heap.size w1 ((w1.drewN q).drewN mq) := belowDN (belowDN (Below.refl _ _) _) _; have h5 : EsL ((w1.drewN q).drewN mq) (some ⟨b, off, none⟩) n xs := h1.mono hb5; have hbx5 : EsC ((w1.drewN q).drewN mq) w.heap.size 0 (x0, x1, x2, x3, x4) := hbx.mono hb5; have C5 : Below w.heap.size w ((w1.drewN q).drewN mq) := belowCall B1 hb5; generalize (w1.drewN q).drewN mq = w5 at hb5 h5 hbx5 C5 ⊢; obtain ⟨hbl5, r0, r1, r2, r3, r4⟩ := hbx5.parts; rw [Nat.zero_add] at r1 r2 r3 r4; have tok1 : True := trivial; have tok2 : True := trivial)) | (at_builtin; have _t := tok1; refine wpList_append_own _ rfl _ _ 25 rfl w5.heap.size 37 i0 _ 5 56 Tryd.underlying25 hi hz0 hz1 hz2 rfl (by decide) _ 0 [] rfl (World.ownsRow_lit w5 #[] 0 (Nat.le_refl _) (by unfold maxLen; omega) rfl) ⟨b, off, none⟩ k _ (flatEs (xs.take k)) rfl (by rw [flatEs_len, List.length_take, HL.out, Nat.min_eq_left hki]) (flatEs_cells ((h5.take hki).mono ((Below.refl _ w5).alloc (Nat.le_refl _) _))) (flatEs_one _) (by unfold maxLen; omega) (by omega) (by simp) ?_; intro v6 w6 hown6 hg6 hnil6; clear tok1; have b56 : Below w5.heap.size w5 w6 := ((Below.refl w5.heap.size w5).alloc (Nat.le_refl _) (.cells #[] 37)).grown hg6 (by simp) (fun j e => by have : w5.heap.size = j := Option.some.inj e; omega); have z56 := b56.size; have d0 := (b56.cell (p := ⟨w.heap.size, 0, none⟩) hbl5).trans r0; have d1 := (b56.cell (p := ⟨w.heap.size, 1, none⟩) hbl5).trans r1; have d2 := (b56.cell (p := ⟨w.heap.size, 2, none⟩) hbl5).trans r2; have d3 := (b56.cell (p := ⟨w.heap.size, 3, none⟩) hbl5).trans r3; have d4 := (b56.cell (p := ⟨w.heap.size, 4, none⟩) hbl5).trans r4; clear hg6) | (at_builtin; have _t := tok2; refine wpList_append_own _ rfl _ _ 25 rfl w5.heap.size 37 i0 _ 5 56 Tryd.underlying25 hi hz0 hz1 hz2 rfl (by decide) _ _ _ rfl (hown6.alloc _) ⟨w6.heap.size, 0, none⟩ 1 1 [.int .i64 x0, .string x1, .string x2, .int .i64 x3, .bool x4] rfl rfl (cellsEs _ _ _ _ _ _ _) (by intro u hu; simp at hu; rcases hu with rfl | rfl | rfl | rfl | rfl <;> rfl) (by unfold maxLen; omega) (by omega) (by simp; omega) ?_; intro v7 w7 hown7 hg7 hnil7; clear tok2; have b57 : Below w5.heap.size w5 w7 := (b56.alloc z56 (.cells #[.int .i64 x0, .string x1, .string x2, .int .i64 x3, .bool x4] 37)).grown hg7 (by simp; omega) (fun j e => (hown6.lt j e).1); have z57 := b57.size; clear hg7) | (at_builtin; refine wpList_append_own _ rfl _ _ 25 rfl w5.heap.size 37 i0 _ 5 56 Tryd.underlying25 hi hz0 hz1 hz2 rfl (by decide) _ _ _ rfl hown7 ⟨b, off + k * 5, none⟩ (n - k) _ (flatEs (xs.drop k)) rfl (by rw [flatEs_len, List.length_drop, HL.out]) (flatEs_cells ((h5.drop hki).mono b57)) (flatEs_one _) (by unfold maxLen; omega) (by omega) z57 ?_) | (at_builtin; refine wpList_append_own _ rfl _ _ 25 rfl w5.heap.size 37 i0 _ 5 56 Tryd.underlying25 hi hz0 hz1 hz2 rfl (by decide) _ _ _ rfl hown7 ⟨b, off, none⟩ (n - k) _ (flatEs (xs.drop k)) rfl (by rw [flatEs_len, List.length_drop, HL.out]) (fun j u hj => by rw [List.drop_eq_nil_of_le (by have := HL.out; omega)] at hj; simp [flatEs] at hj) (flatEs_one _) (by unfold maxLen; omega) (by omega) z57 ?_))
          (intro v8 w8 hown8 hg8 hnil8; have C8 : Below w.heap.size w w8 := (C5.trans (b57.mono C5.size)).grown hg8 (Nat.le_trans C5.size z57) (fun j e => Nat.le_trans C5.size (hown7.lt j e).1); have HFL : Hid (flatEs (putE xs (x0, x1, x2, x3, x4)) = flatEs (xs.take k) ++ ([.int .i64 x0, .string x1, .string x2, .int .i64 x3, .bool x4] ++ flatEs (xs.drop k))) := Lib.hid (by rw [HPUT.out]; rw [flatEs_app]; rfl); have HOWN := Lib.hid hown8; clear hown8 hown7 hown6 hnil7 hg8; go_wp2; go_ret; exact ⟨v8, rfl, hnil8, by rw [HFL.out]; exact ownLow (by have h9 := HOWN.out; rw [show n + 1 = k + 1 + (n - k) from by omega]; simpa using h9) C5.size, C8⟩)
      · have HB := Lib.hid hlt
        go_wp2_with (go_at_call 31; refine (l06Before_any w.heap.size 0 b _ x0 x1 x2 x3 x4 y0 y1 y2 y3 y4 _ hX hT).mono ?_; rintro e w' ⟨rfl, mq, rfl⟩; rw [hlt])
        go_roundw
        case rel =>
          have hk' := HK.out
          refine ⟨k', q + mq, by omega, by go_num, fun j h1 h2 => ?_, by first | rfl | trivial⟩
          by_cases hjk : j = k'
          · subst hjk; rw [HY.out]; exact HB.out
          · exact HALL.out j (by omega) h2
        case measure => simp [Go.RowKit.intOf]; omega
    · obtain rfl : k = 0 := by omega
      have HPUT := Lib.hid (putE_at (x := (x0, x1, x2, x3, x4)) HL.out (Nat.zero_le _) HALL.out (fun j hj => absurd hj (by omega)))
      (have hb5 : Below w1.heap.size w1 (w1.drewN q) := belowDN (Below.refl _ _) _; have h5 : EsL (w1.drewN q) (some ⟨b, off, none⟩) n xs := h1.mono hb5; have hbx5 : EsC (w1.drewN q) w.heap.size 0 (x0, x1, x2, x3, x4) := hbx.mono hb5; have C5 : Below w.heap.size w (w1.drewN q) := belowCall B1 hb5; generalize w1.drewN q = w5 at hb5 h5 hbx5 C5 ⊢; obtain ⟨hbl5, r0, r1, r2, r3, r4⟩ := hbx5.parts; rw [Nat.zero_add] at r1 r2 r3 r4; have tok1 : True := trivial; have tok2 : True := trivial)
      go_wp2_with (first | (at_builtin; have _t := tok1; refine wpList_append_own _ rfl _ _ 25 rfl w5.heap.size 37 i0 _ 5 56 Tryd.underlying25 hi hz0 hz1 hz2 rfl (by decide) _ 0 [] rfl (World.ownsRow_lit w5 #[] 0 (Nat.le_refl _) (by unfold maxLen; omega) rfl) _ 0 _ [] rfl rfl (fun j u hj => by simp at hj) (fun u hu => by simp at hu) (by unfold maxLen; omega) (by omega) (by simp) ?_; intro v6 w6 hown6 hg6 hnil6; clear tok1; have b56 : Below w5.heap.size w5 w6 := ((Below.refl w5.heap.size w5).alloc (Nat.le_refl _) (.cells #[] 37)).grown hg6 (by simp) (fun j e => by have : w5.heap.size = j := Option.some.inj e; omega); have z56 := b56.size; have d0 := (b56.cell (p := ⟨w.heap.size, 0, none⟩) hbl5).trans r0; have d1 := (b56.cell (p := ⟨w.heap.size, 1, none⟩) hbl5).trans r1; have d2 := (b56.cell (p := ⟨w.heap.size, 2, none⟩) hbl5).trans r2; have d3 := (b56.cell (p := ⟨w.heap.size, 3, none⟩) hbl5).trans r3; have d4 := (b56.cell (p := ⟨w.heap.size, 4, none⟩) hbl5).trans r4; clear hg6) | (at_builtin; have _t := tok2; refine wpList_append_own _ rfl _ _ 25 rfl w5.heap.size 37 i0 _ 5 56 Tryd.underlying25 hi hz0 hz1 hz2 rfl (by decide) _ _ _ rfl (hown6.alloc _) ⟨w6.heap.size, 0, none⟩ 1 1 [.int .i64 x0, .string x1, .string x2, .int .i64 x3, .bool x4] rfl rfl (cellsEs _ _ _ _ _ _ _) (by intro u hu; simp at hu; rcases hu with rfl | rfl | rfl | rfl | rfl <;> rfl) (by unfold maxLen; omega) (by omega) (by simp; omega) ?_; intro v7 w7 hown7 hg7 hnil7; clear tok2; have b57 : Below w5.heap.size w5 w7 := (b56.alloc z56 (.cells #[.int .i64 x0, .string x1, .string x2, .int .i64 x3, .bool x4] 37)).grown hg7 (by simp; omega) (fun j e => (hown6.lt j e).1); have z57 := b57.size; clear hg7) | (at_builtin; refine wpList_append_own _ rfl _ _ 25 rfl w5.heap.size 37 i0 _ 5 56 Tryd.underlying25 hi hz0 hz1 hz2 rfl (by decide) _ _ _ rfl hown7 ⟨b, off, none⟩ n _ (flatEs xs) rfl (by rw [flatEs_len, HL.out]) (flatEs_cells (h5.mono b57)) (flatEs_one _) (by unfold maxLen; omega) (by omega) z57 ?_))
      (intro v8 w8 hown8 hg8 hnil8; have C8 : Below w.heap.size w w8 := (C5.trans (b57.mono C5.size)).grown hg8 (Nat.le_trans C5.size z57) (fun j e => Nat.le_trans C5.size (hown7.lt j e).1); have HFL : Hid (flatEs (putE xs (x0, x1, x2, x3, x4)) = [.int .i64 x0, .string x1, .string x2, .int .i64 x3, .bool x4] ++ flatEs xs) := Lib.hid (by rw [HPUT.out]; rfl); have HOWN := Lib.hid hown8; clear hown8 hown7 hown6 hnil7 hg8; go_wp2; go_ret; exact ⟨v8, rfl, hnil8, by rw [HFL.out]; exact ownLow (by have h9 := HOWN.out; rw [show n + 1 = 1 + n from by omega]; simpa using h9) C5.size, C8⟩)
end Go.Proofs.YtfnjndbnogeddaaDoor
