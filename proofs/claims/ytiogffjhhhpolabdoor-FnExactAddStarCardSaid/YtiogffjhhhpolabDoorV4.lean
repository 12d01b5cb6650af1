/- AddStar, the model's. -/
import Derived.Test.YtiogffjhhhpolabDoorV3
import Derived.Test.YtiogffjhhhpolabDoorSC
import Derived.Test.YtiogffjhhhpolabDoorST
namespace Go.Proofs.YtiogffjhhhpolabDoor
open Go.ChangeShapes Go.WideShapes Go.ChangeAt Go.RowKit Go.Deep

theorem StL.take {w : World} {a : Option Addr} {n k : Nat} {xs : List St} (h : StL w a n xs) (hk : k ≤ n) : StL w a k (xs.take k) := by
  refine ⟨by rw [List.length_take, h.1]; omega, fun i hi => ?_⟩
  obtain ⟨b, off, e, hc⟩ := h.2 i (by omega)
  refine ⟨b, off, e, ?_⟩
  rw [List.getElem?_take_of_lt hi]
  exact hc
theorem StL.drop {w : World} {b off n k : Nat} {xs : List St} (h : StL w (some ⟨b, off, none⟩) n xs) (hk : k ≤ n) : StL w (some ⟨b, off + k * 5, none⟩) (n - k) (xs.drop k) := by
  refine ⟨by rw [List.length_drop, h.1], fun i hi => ?_⟩
  obtain ⟨b', off', e, hc⟩ := h.2 (k + i) (by omega)
  cases e
  refine ⟨b, off + k * 5, rfl, ?_⟩
  rw [List.getElem?_drop, show off + k * 5 + i * 5 = off + (k + i) * 5 from by omega]
  exact hc
theorem flatS_app (xs ys : List St) : flatS (xs ++ ys) = flatS xs ++ flatS ys := by simp [flatS]
set_option maxRecDepth 100000 in
set_option maxHeartbeats 4000000 in
theorem sAddStar_any (y : Addr) (n c : Nat) (xs : List St) (nm : ByteArray) (x1 x2 x3 x4 : Int) (w : World) (h : StL w (some y) n xs) (hn : n ≤ 1048576) (hnc : n ≤ c) :
    Calls Tryd.prog 7 #[.slice (some y) n c, .agg #[.string nm, .int .i64 x1, .int .i64 x2, .int .i64 x3, .int .i64 x4]] w fun e w' => Added w.heap.size 31 xs (nm, x1, x2, x3, x4) w' e ∧ Below w.heap.size w w' := by
  have HL := Lib.hid h.1
  have B1 : Below w.heap.size w (w.alloc (.cells #[.string nm, .int .i64 x1, .int .i64 x2, .int .i64 x3, .int .i64 x4] 31)) := (Below.refl _ w).alloc (Nat.le_refl _) _
  have h1 := h.mono B1
  have hbx := StC.fresh w 31 nm x1 x2 x3 x4
  cases hok : okS xs
  · have HC := Lib.hid (addC_ok (x := (nm, x1, x2, x3, x4)) hok)
    go_enter Tryd.func7, Tryd.ntmps7
    go_wp2_with fail
    refine (l04Ok_any (some y) n c xs _ h1 hn).mono ?_
    rintro e w2 ⟨rfl, q, rfl⟩
    rw [hok]
    go_wp2
    go_ret2
    exact ⟨.inr ⟨by rw [HC.out]; decide, by rw [HC.out]; rfl⟩, belowDN B1 _⟩
  go_enter Tryd.func7, Tryd.ntmps7
  go_wp2_with fail
  generalize hW : w.alloc (.cells #[.string nm, .int .i64 x1, .int .i64 x2, .int .i64 x3, .int .i64 x4] 31) = w1 at B1 h1 hbx ⊢
  have hsw : w.heap.size < w1.heap.size := by rw [← hW]; simp
  clear hW
  refine (l04Ok_any (some y) n c xs _ h1 hn).mono ?_
  rintro e w2 ⟨rfl, q, rfl⟩
  rw [hok]
  have C2 : Below w.heap.size w (w1.drewN q) := belowDN B1 q
  have hbx2 : StC (w1.drewN q) w.heap.size 0 (nm, x1, x2, x3, x4) := hbx.mono (belowDN (Below.refl _ _) q)
  have h2 : StL (w1.drewN q) (some y) n xs := h1.mono (belowDN (Below.refl _ _) q)
  go_wp2_with fail
  generalize w1.drewN q = w2 at C2 hbx2 h2 ⊢
  refine (l04One_below _ _ _ _ _ _ _ _ hbx2).mono ?_
  rintro e w3 ⟨rfl, b3⟩
  have C3 := belowCall C2 b3
  have hbx3 := hbx2.mono b3
  have h3 := h2.mono b3
  clear hbx hbx2 h1 h2 B1 C2 b3
  obtain ⟨hbl, q0, q1, q2, q3, q4⟩ := hbx3.parts
  rw [Nat.zero_add] at q1 q2 q3 q4
  cases hst : starB (nm, x1, x2, x3, x4)
  · have HC := Lib.hid (addC_star hok hst)
    go_wp2
    go_ret2
    exact ⟨.inr ⟨by rw [HC.out]; decide, by rw [HC.out]; rfl⟩, C3⟩
  by_cases hf : findS xs nm < n
  · have HC := Lib.hid (addC_has (x := (nm, x1, x2, x3, x4)) hok hst (by rw [HL.out]; exact hf))
    have HF := Lib.hid (findV_at (xs := xs) (nm := nm) rfl (by rw [HL.out]; exact hf))
    (go_wp2_with fail; refine (l04Find_any (some y) n c xs nm w3 h3 hn).mono ?_; rintro e w4 ⟨rfl, rfl⟩)
    rw [HF.out]
    go_wp2
    go_ret2
    exact ⟨.inr ⟨by rw [HC.out]; decide, by rw [HC.out]; rfl⟩, C3⟩
  have HF := Lib.hid (findV_none (xs := xs) (nm := nm) (by have := findS_le xs nm; have := HL.out; omega))
  (go_wp2_with fail; refine (l04Find_any (some y) n c xs nm w3 h3 hn).mono ?_; rintro e w4 ⟨rfl, rfl⟩)
  rw [HF.out]
  by_cases hfull : n < 60
  · have HC := Lib.hid (addC_zero (x := (nm, x1, x2, x3, x4)) hok hst (by rw [HL.out]; exact hf) (by rw [HL.out]; exact hfull))
    have hfull' : (n : Int) < 60 := by omega
    obtain ⟨i0, hi, hz0, hz1, hz2⟩ := info_parts Star_info
    go_wp2
    go_loopw [6] (fun kk wi => ∃ (k q : Nat), k ≤ n ∧ kk = .int .i64 k ∧ (∀ j, k ≤ j → j < n → nmD (nm, x1, x2, x3, x4) < nmD (xs[j]?.getD st0)) ∧ wi = w3.drewN q) (fun kk _ => (Go.RowKit.intOf kk).toNat)
    case atStart => exact ⟨n, 0, Nat.le_refl _, rfl, fun j h1 h2 => by omega, rfl⟩
    case round =>
      obtain ⟨k, q', hki, rfl, hall, rfl⟩ := hrel
      have HALL := Lib.hid hall
      clear hall
      have hki' : (k : Int) ≤ (n : Int) := by omega
      have hk00 : (0 : Int) ≤ (k : Int) := by omega
      have hkc : (k : Int) ≤ (c : Int) := by omega
      have hnc' : (n : Int) ≤ (c : Int) := by omega
      by_cases hk0 : 0 < k
      · obtain ⟨k', hk'⟩ : ∃ k', k = k' + 1 := ⟨k - 1, by omega⟩
        obtain ⟨b, off, e0, hc⟩ := h3.2 k' (by omega)
        cases e0
        obtain ⟨⟨ny, y1, y2, y3, y4⟩, hy⟩ : ∃ y, xs[k']?.getD st0 = y := ⟨_, rfl⟩
        rw [hy] at hc
        obtain ⟨p, p0, -, -, -, -⟩ := hc.parts
        have HY := Lib.hid hy
        have HK := Lib.hid hk'
        have s1 : (k : Int) - 1 = (k' : Int) := by omega
        have s3 : (k' : Int) < (n : Int) := by omega
        clear hk' hy hc
        have hne : ny.data.toList ≠ nm.data.toList := by
          have h9 := none_ne (xs := xs) (nm := nm) (by rw [HL.out]; exact hf) (xs[k']'(by have := HL.out; omega)) (List.getElem_mem _)
          have e9 : xs[k']'(by have := HL.out; omega) = (ny, y1, y2, y3, y4) := by rw [← HY.out]; simp [show k' < xs.length by have := HL.out; omega]
          rw [e9] at h9
          exact h9
        have heq : (ny.toList == nm.toList) = false := by rw [ByteArray.toList_eq, ByteArray.toList_eq]; simpa using hne
        have HNE := Lib.hid hne
        clear hne
        cases hless : Op.bytesLess ny.toList nm.toList
        rotate_left
        · have HPUT := Lib.hid (put_addL (x := (nm, x1, x2, x3, x4)) (p := k) hok (by rw [HL.out]; exact hf) (by rw [HL.out]; exact hki) (.inr (by
            rw [HK.out, Nat.add_sub_cancel, HY.out]
            rw [bytesLess_eq, decide_eq_true_eq, ByteArray.toList_eq, ByteArray.toList_eq] at hless
            exact fun h3 => List.lt_irrefl _ (List.lt_trans hless h3))) (by rw [HL.out]; exact HALL.out))
          go_wp2
          go_big_quiet (fail)
          (have hb5 : Below w3.heap.size w3 ((w3.drewN q').drewN nq) := belowDN (belowDN (Below.refl _ _) _) _; have h5 : StL ((w3.drewN q').drewN nq) _ _ xs := h3.mono hb5; have hbx5 : StC ((w3.drewN q').drewN nq) w.heap.size 0 (nm, x1, x2, x3, x4) := hbx3.mono hb5; have C5 : Below w.heap.size w ((w3.drewN q').drewN nq) := belowCall C3 hb5; generalize (w3.drewN q').drewN nq = w5 at hb5 h5 hbx5 C5 ⊢; obtain ⟨hbl5, r0, r1, r2, r3, r4⟩ := hbx5.parts; rw [Nat.zero_add] at r1 r2 r3 r4; have tok1 : True := trivial; have tok2 : True := trivial)
          by_cases hkc2 : c = k
          all_goals
            go_wp2_with (first | (at_builtin; have _t := tok1; refine wpList_append_own _ rfl _ _ 27 rfl w5.heap.size 31 i0 _ 5 48 Tryd.underlying27 hi hz0 hz1 hz2 rfl (by decide) _ 0 [] rfl (World.ownsRow_lit w5 #[] 0 (Nat.le_refl _) (by unfold maxLen; omega) rfl) ⟨b, off, none⟩ k _ (flatS (xs.take k)) rfl (by rw [flatS_len, List.length_take, HL.out, Nat.min_eq_left hki]) (flat_cells ((h5.take hki).mono ((Below.refl _ w5).alloc (Nat.le_refl _) _))) (flat_one _) (by unfold maxLen; omega) (by omega) (by simp) ?_; intro v6 w6 hown6 hg6 hnil6; clear tok1; have b56 : Below w5.heap.size w5 w6 := ((Below.refl w5.heap.size w5).alloc (Nat.le_refl _) (.cells #[] 31)).grown hg6 (by simp) (fun j e => by have : w5.heap.size = j := Option.some.inj e; omega); have z56 := b56.size; have d0 := (b56.cell (p := ⟨w.heap.size, 0, none⟩) hbl5).trans r0; have d1 := (b56.cell (p := ⟨w.heap.size, 1, none⟩) hbl5).trans r1; have d2 := (b56.cell (p := ⟨w.heap.size, 2, none⟩) hbl5).trans r2; have d3 := (b56.cell (p := ⟨w.heap.size, 3, none⟩) hbl5).trans r3; have d4 := (b56.cell (p := ⟨w.heap.size, 4, none⟩) hbl5).trans r4; clear hg6) | (at_builtin; have _t := tok2; refine wpList_append_own _ rfl _ _ 27 rfl w5.heap.size 31 i0 _ 5 48 Tryd.underlying27 hi hz0 hz1 hz2 rfl (by decide) _ _ _ rfl (hown6.alloc _) ⟨w6.heap.size, 0, none⟩ 1 1 [.string nm, .int .i64 x1, .int .i64 x2, .int .i64 x3, .int .i64 x4] rfl rfl (cell_five _ _ _ _ _ _ _) (by intro u hu; simp at hu; rcases hu with rfl | rfl | rfl | rfl | rfl <;> rfl) (by unfold maxLen; omega) (by omega) (by simp; omega) ?_; intro v7 w7 hown7 hg7 hnil7; clear tok2; have b57 : Below w5.heap.size w5 w7 := (b56.alloc z56 (.cells #[.string nm, .int .i64 x1, .int .i64 x2, .int .i64 x3, .int .i64 x4] 31)).grown hg7 (by simp; omega) (fun j e => (hown6.lt j e).1); have z57 := b57.size; clear hg7) | (at_builtin; refine wpList_append_own _ rfl _ _ 27 rfl w5.heap.size 31 i0 _ 5 48 Tryd.underlying27 hi hz0 hz1 hz2 rfl (by decide) _ _ _ rfl hown7 ⟨b, off + k * 5, none⟩ (n - k) _ (flatS (xs.drop k)) rfl (by rw [flatS_len, List.length_drop, HL.out]) (flat_cells ((h5.drop hki).mono b57)) (flat_one _) (by unfold maxLen; omega) (by omega) z57 ?_) | (at_builtin; refine wpList_append_own _ rfl _ _ 27 rfl w5.heap.size 31 i0 _ 5 48 Tryd.underlying27 hi hz0 hz1 hz2 rfl (by decide) _ _ _ rfl hown7 ⟨b, off, none⟩ (n - k) _ (flatS (xs.drop k)) rfl (by rw [flatS_len, List.length_drop, HL.out]) (fun j u hj => by rw [List.drop_eq_nil_of_le (by have := HL.out; omega)] at hj; simp [flatS] at hj) (flat_one _) (by unfold maxLen; omega) (by omega) z57 ?_))
            (intro v8 w8 hown8 hg8 hnil8; have C8 : Below w.heap.size w w8 := (C5.trans (b57.mono C5.size)).grown hg8 (Nat.le_trans C5.size z57) (fun j e => Nat.le_trans C5.size (hown7.lt j e).1); have HLEN : Hid ((addL xs (nm, x1, x2, x3, x4)).length = n + 1) := Lib.hid (by rw [← HPUT.out, List.length_append, List.length_cons, List.length_take, List.length_drop, HL.out]; omega); have HFL : Hid (flatS (addL xs (nm, x1, x2, x3, x4)) = flatS (xs.take k) ++ ([.string nm, .int .i64 x1, .int .i64 x2, .int .i64 x3, .int .i64 x4] ++ flatS (xs.drop k))) := Lib.hid (by rw [← HPUT.out, flatS_app]; rfl); rcases hown8.2 with ⟨h0, _⟩ | ⟨g8, c8, cur, hv8, _⟩; (exact absurd h0 hnil8); subst hv8; have HOWN := Lib.hid hown8; clear hown8 hown7 hown6 hnil8 hnil7 hg8; go_wp2; go_ret2; exact ⟨.inl ⟨HC.out, g8, c8, by rw [HLEN.out, show n + 1 = k + 1 + (n - k) from by omega]; rfl, by rw [HLEN.out, HFL.out, show n + 1 = k + 1 + (n - k) from by omega]; exact own_low5 (by simpa using HOWN.out) C5.size⟩, C8⟩)
        · go_wp2
          go_big_quiet (fail)
          go_wp2
          go_roundw
          case rel =>
            have hk' := HK.out
            refine ⟨k', _, by omega, by go_num, fun j h1 h2 => ?_, rfl⟩
            by_cases hjk : j = k'
            · subst hjk
              rw [HY.out]
              rw [bytesLess_eq, decide_eq_false_iff_not, ByteArray.toList_eq, ByteArray.toList_eq] at hless
              rcases lt_or HNE.out with h3 | h3
              · exact absurd h3 hless
              · exact h3
            · exact HALL.out j (by omega) h2
          case measure => simp [Go.RowKit.intOf]; omega
      · obtain rfl : k = 0 := by omega
        have HPUT := Lib.hid (put_addL (x := (nm, x1, x2, x3, x4)) (p := 0) hok (by rw [HL.out]; exact hf) (Nat.zero_le _) (.inl rfl) (by rw [HL.out]; exact HALL.out))
        by_cases hn0 : 0 < n
        · obtain ⟨b, off, e0, -⟩ := h3.2 0 hn0
          cases e0
          go_wp2
          go_big_quiet (fail)
          (have hb5 : Below w3.heap.size w3 ((w3.drewN q').drewN nq) := belowDN (belowDN (Below.refl _ _) _) _; have h5 : StL ((w3.drewN q').drewN nq) _ _ xs := h3.mono hb5; have hbx5 : StC ((w3.drewN q').drewN nq) w.heap.size 0 (nm, x1, x2, x3, x4) := hbx3.mono hb5; have C5 : Below w.heap.size w ((w3.drewN q').drewN nq) := belowCall C3 hb5; generalize (w3.drewN q').drewN nq = w5 at hb5 h5 hbx5 C5 ⊢; obtain ⟨hbl5, r0, r1, r2, r3, r4⟩ := hbx5.parts; rw [Nat.zero_add] at r1 r2 r3 r4; have tok1 : True := trivial; have tok2 : True := trivial)
          go_wp2_with (first | (at_builtin; have _t := tok1; refine wpList_append_own _ rfl _ _ 27 rfl w5.heap.size 31 i0 _ 5 48 Tryd.underlying27 hi hz0 hz1 hz2 rfl (by decide) _ 0 [] rfl (World.ownsRow_lit w5 #[] 0 (Nat.le_refl _) (by unfold maxLen; omega) rfl) _ 0 _ [] rfl rfl (fun j u hj => by simp at hj) (fun u hu => by simp at hu) (by unfold maxLen; omega) (by omega) (by simp) ?_; intro v6 w6 hown6 hg6 hnil6; clear tok1; have b56 : Below w5.heap.size w5 w6 := ((Below.refl w5.heap.size w5).alloc (Nat.le_refl _) (.cells #[] 31)).grown hg6 (by simp) (fun j e => by have : w5.heap.size = j := Option.some.inj e; omega); have z56 := b56.size; have d0 := (b56.cell (p := ⟨w.heap.size, 0, none⟩) hbl5).trans r0; have d1 := (b56.cell (p := ⟨w.heap.size, 1, none⟩) hbl5).trans r1; have d2 := (b56.cell (p := ⟨w.heap.size, 2, none⟩) hbl5).trans r2; have d3 := (b56.cell (p := ⟨w.heap.size, 3, none⟩) hbl5).trans r3; have d4 := (b56.cell (p := ⟨w.heap.size, 4, none⟩) hbl5).trans r4; clear hg6) | (at_builtin; have _t := tok2; refine wpList_append_own _ rfl _ _ 27 rfl w5.heap.size 31 i0 _ 5 48 Tryd.underlying27 hi hz0 hz1 hz2 rfl (by decide) _ _ _ rfl (hown6.alloc _) ⟨w6.heap.size, 0, none⟩ 1 1 [.string nm, .int .i64 x1, .int .i64 x2, .int .i64 x3, .int .i64 x4] rfl rfl (cell_five _ _ _ _ _ _ _) (by intro u hu; simp at hu; rcases hu with rfl | rfl | rfl | rfl | rfl <;> rfl) (by unfold maxLen; omega) (by omega) (by simp; omega) ?_; intro v7 w7 hown7 hg7 hnil7; clear tok2; have b57 : Below w5.heap.size w5 w7 := (b56.alloc z56 (.cells #[.string nm, .int .i64 x1, .int .i64 x2, .int .i64 x3, .int .i64 x4] 31)).grown hg7 (by simp; omega) (fun j e => (hown6.lt j e).1); have z57 := b57.size; clear hg7) | (at_builtin; refine wpList_append_own _ rfl _ _ 27 rfl w5.heap.size 31 i0 _ 5 48 Tryd.underlying27 hi hz0 hz1 hz2 rfl (by decide) _ _ _ rfl hown7 ⟨b, off, none⟩ n _ (flatS xs) rfl (by rw [flatS_len, HL.out]) (flat_cells (h5.mono b57)) (flat_one _) (by unfold maxLen; omega) (by omega) z57 ?_))
          (intro v8 w8 hown8 hg8 hnil8; have C8 : Below w.heap.size w w8 := (C5.trans (b57.mono C5.size)).grown hg8 (Nat.le_trans C5.size z57) (fun j e => Nat.le_trans C5.size (hown7.lt j e).1); have HLEN : Hid ((addL xs (nm, x1, x2, x3, x4)).length = 1 + n) := Lib.hid (by rw [← HPUT.out, List.take_zero, List.drop_zero, List.nil_append, List.length_cons, HL.out]; omega); have HFL : Hid (flatS (addL xs (nm, x1, x2, x3, x4)) = [.string nm, .int .i64 x1, .int .i64 x2, .int .i64 x3, .int .i64 x4] ++ flatS xs) := Lib.hid (by rw [← HPUT.out]; rfl); rcases hown8.2 with ⟨h0, _⟩ | ⟨g8, c8, cur, hv8, _⟩; (exact absurd h0 hnil8); subst hv8; have HOWN := Lib.hid hown8; clear hown8 hown7 hown6 hnil8 hnil7 hg8; go_wp2; go_ret2; exact ⟨.inl ⟨HC.out, g8, c8, by rw [HLEN.out]; rfl, by rw [HLEN.out, HFL.out]; exact own_low5 (by simpa using HOWN.out) C5.size⟩, C8⟩)
        · obtain rfl : n = 0 := by omega
          go_wp2
          go_big_quiet (fail)
          (have hb5 : Below w3.heap.size w3 ((w3.drewN q').drewN nq) := belowDN (belowDN (Below.refl _ _) _) _; have h5 : StL ((w3.drewN q').drewN nq) _ _ xs := h3.mono hb5; have hbx5 : StC ((w3.drewN q').drewN nq) w.heap.size 0 (nm, x1, x2, x3, x4) := hbx3.mono hb5; have C5 : Below w.heap.size w ((w3.drewN q').drewN nq) := belowCall C3 hb5; generalize (w3.drewN q').drewN nq = w5 at hb5 h5 hbx5 C5 ⊢; obtain ⟨hbl5, r0, r1, r2, r3, r4⟩ := hbx5.parts; rw [Nat.zero_add] at r1 r2 r3 r4; have tok1 : True := trivial; have tok2 : True := trivial)
          go_wp2_with (first | (at_builtin; have _t := tok1; refine wpList_append_own _ rfl _ _ 27 rfl w5.heap.size 31 i0 _ 5 48 Tryd.underlying27 hi hz0 hz1 hz2 rfl (by decide) _ 0 [] rfl (World.ownsRow_lit w5 #[] 0 (Nat.le_refl _) (by unfold maxLen; omega) rfl) _ 0 _ [] rfl rfl (fun j u hj => by simp at hj) (fun u hu => by simp at hu) (by unfold maxLen; omega) (by omega) (by simp) ?_; intro v6 w6 hown6 hg6 hnil6; clear tok1; have b56 : Below w5.heap.size w5 w6 := ((Below.refl w5.heap.size w5).alloc (Nat.le_refl _) (.cells #[] 31)).grown hg6 (by simp) (fun j e => by have : w5.heap.size = j := Option.some.inj e; omega); have z56 := b56.size; have d0 := (b56.cell (p := ⟨w.heap.size, 0, none⟩) hbl5).trans r0; have d1 := (b56.cell (p := ⟨w.heap.size, 1, none⟩) hbl5).trans r1; have d2 := (b56.cell (p := ⟨w.heap.size, 2, none⟩) hbl5).trans r2; have d3 := (b56.cell (p := ⟨w.heap.size, 3, none⟩) hbl5).trans r3; have d4 := (b56.cell (p := ⟨w.heap.size, 4, none⟩) hbl5).trans r4; clear hg6) | (at_builtin; have _t := tok2; refine wpList_append_own _ rfl _ _ 27 rfl w5.heap.size 31 i0 _ 5 48 Tryd.underlying27 hi hz0 hz1 hz2 rfl (by decide) _ _ _ rfl (hown6.alloc _) ⟨w6.heap.size, 0, none⟩ 1 1 [.string nm, .int .i64 x1, .int .i64 x2, .int .i64 x3, .int .i64 x4] rfl rfl (cell_five _ _ _ _ _ _ _) (by intro u hu; simp at hu; rcases hu with rfl | rfl | rfl | rfl | rfl <;> rfl) (by unfold maxLen; omega) (by omega) (by simp; omega) ?_; intro v7 w7 hown7 hg7 hnil7; clear tok2; have b57 : Below w5.heap.size w5 w7 := (b56.alloc z56 (.cells #[.string nm, .int .i64 x1, .int .i64 x2, .int .i64 x3, .int .i64 x4] 31)).grown hg7 (by simp; omega) (fun j e => (hown6.lt j e).1); have z57 := b57.size; clear hg7) | (at_builtin; refine wpList_append_own _ rfl _ _ 27 rfl w5.heap.size 31 i0 _ 5 48 Tryd.underlying27 hi hz0 hz1 hz2 rfl (by decide) _ _ _ rfl hown7 _ 0 _ [] rfl rfl (fun j u hj => by simp at hj) (fun u hu => by simp at hu) (by unfold maxLen; omega) (by omega) z57 ?_))
          have hx0 : Hid (xs = []) := Lib.hid (List.length_eq_zero_iff.1 HL.out)
          (intro v8 w8 hown8 hg8 hnil8; have C8 : Below w.heap.size w w8 := (C5.trans (b57.mono C5.size)).grown hg8 (Nat.le_trans C5.size z57) (fun j e => Nat.le_trans C5.size (hown7.lt j e).1); have HLEN : Hid ((addL xs (nm, x1, x2, x3, x4)).length = 1) := Lib.hid (by rw [← HPUT.out, hx0.out]; rfl); have HFL : Hid (flatS (addL xs (nm, x1, x2, x3, x4)) = [.string nm, .int .i64 x1, .int .i64 x2, .int .i64 x3, .int .i64 x4] ) := Lib.hid (by rw [← HPUT.out, hx0.out]; rfl); rcases hown8.2 with ⟨h0, _⟩ | ⟨g8, c8, cur, hv8, _⟩; (exact absurd h0 hnil8); subst hv8; have HOWN := Lib.hid hown8; clear hown8 hown7 hown6 hnil8 hnil7 hg8; go_wp2; go_ret2; exact ⟨.inl ⟨HC.out, g8, c8, by rw [HLEN.out]; rfl, by rw [HLEN.out, HFL.out]; exact own_low5 (by simpa using HOWN.out) C5.size⟩, C8⟩)
  · have HC := Lib.hid (addC_full (x := (nm, x1, x2, x3, x4)) hok hst (by rw [HL.out]; exact hf) (by rw [HL.out]; exact hfull))
    have hfull' : ¬ (n : Int) < 60 := by omega
    go_wp2
    go_ret2
    exact ⟨.inr ⟨by rw [HC.out]; decide, by rw [HC.out]; rfl⟩, C3⟩
end Go.Proofs.YtiogffjhhhpolabDoor
