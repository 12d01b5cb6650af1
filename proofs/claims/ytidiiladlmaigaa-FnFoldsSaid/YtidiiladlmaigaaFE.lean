/- FoldOrder, the program's, whole: the method, then the function; the list is new and has room for just its numbers. -/
import Derived.Test.YtidiiladlmaigaaFD
namespace Go.Proofs.Ytidiiladlmaigaa
open Go.ChangeShapes Go.WideShapes Go.ChangeAt Go.RowKit Go.Deep Go.Shelf

set_option maxRecDepth 100000 in
set_option maxHeartbeats 1000000 in
theorem iFoldM_any (e p : Int) (a : Option Addr) (n c : Nat) (xs : List Pt) (w : World) (h : PtL w a n xs) (h100 : n ≤ 100) (h1 : 0 ≤ e) (h2 : e ≤ 10000000) (h3 : 1 ≤ p) (h4 : p ≤ 1000000) (hbd : ∀ k, k < n → 0 ≤ (xs[k]?.getD pt0).1 ∧ (xs[k]?.getD pt0).1 ≤ 10000000) :
    Calls Try.prog 52 #[.agg #[.int .i64 e, .int .i64 p], .slice a n c] w fun x w' => ∃ b, x = .returned (.slice (some ⟨b, 0, none⟩) n n) ∧ w'.ownsRow w.heap.size 2 1 (.slice (some ⟨b, 0, none⟩) n n) n (((idxL n).mergeSort (leF e p xs)).map (Value.int .i64)) ∧ Below w.heap.size w w' := by
  have hbx := (PtC.fresh2 w 44 (.cells #[.slice a n c] 34) e p)
  have B1 : Below w.heap.size w ((w.alloc (.cells #[.int .i64 e, .int .i64 p] 44)).alloc (.cells #[.slice a n c] 34)) := by (repeat (first | assumption | exact Below.refl _ _ | refine belowDN ?_ _ | refine Below.drew ?_ | refine Below.setCell ?_ (by first | omega | (simp <;> omega)) _ | refine Below.alloc ?_ (by first | omega | (simp <;> omega)) _ | refine belowCall ?_ (by assumption)))
  have hcb : (World.cell? ((w.alloc (.cells #[.int .i64 e, .int .i64 p] 44)).alloc (.cells #[.slice a n c] 34)) ⟨w.heap.size + 1, 0, none⟩) = some (.slice a n c) := by
    have h9 := World.cell?_alloc_new (w.alloc (.cells #[.int .i64 e, .int .i64 p] 44)) #[.slice a n c] 34 0
    rw [show (w.alloc (.cells #[.int .i64 e, .int .i64 p] 44)).heap.size = w.heap.size + 1 by simp] at h9
    rw [h9]; rfl
  have hsv : w.heap.size + 1 < (World.heap ((w.alloc (.cells #[.int .i64 e, .int .i64 p] 44)).alloc (.cells #[.slice a n c] 34))).size := by simp
  have HBD := Lib.hid hbd
  have HXL := Lib.hid h.1
  obtain ⟨i0, hi, hz0, hz1, hz2⟩ := info_parts A_info
  have hl : (n : Int) ≤ 100 := by omega
  have HIL : Hid ((idxL n).length = n) := Lib.hid (idxL_len n)
  have HIA : Hid (∀ k, k < n → (idxL n)[k]?.getD 0 = (k : Int)) := Lib.hid (fun k hk => by simp [idxL, hk])
  clear hbd
  go_enter Try.func52, Try.ntmps52
  go_wp2_with (at_make; generalize ((w.alloc (.cells #[.int .i64 e, .int .i64 p] 44)).alloc (.cells #[.slice a n c] 34)) = v at hbx B1 hcb hsv ⊢; obtain ⟨hlt, k0, k1⟩ := hbx.parts; rw [Nat.zero_add] at k1; refine wpList_make_full _ rfl _ _ 51 rfl v.heap.size 2 i0 (.int .i64 0) 1 Try.underlying51 hi hz0 hz1 .i64 .i64 n n n rfl rfl rfl rfl (by rw [hz2]; omega) (by unfold maxLen; omega) (Nat.le_refl _) ?_; intro w5 hown hgrow)
  rw [cop_zero (idxL n)] at hown
  have b5 : Below v.heap.size v w5 := (Below.refl _ _).grown hgrow (Nat.le_refl _) (fun k hk => by cases hk)
  clear hgrow
  go_loopw [12] (fun i wr => ∃ k : Nat, k ≤ n ∧ i = .int .i64 k ∧ wr.ownsRow v.heap.size 2 1 (.slice (some ⟨v.heap.size, 0, none⟩) n n) n (cop (idxL n) k n) ∧ Below v.heap.size v wr) (fun i _ => n - (Go.RowKit.intOf i).toNat)
  case atStart => exact ⟨0, Nat.zero_le _, rfl, hown, b5⟩
  case round =>
    obtain ⟨k, hk, rfl, hownr, hB⟩ := hrel
    clear hown
    by_cases hltk : k < n
    · have hfz := hownr.frozenAt k
      have hco : wr.cell? ⟨v.heap.size, k, none⟩ = some (.int .i64 0) := by rw [hownr.cellAt k (by omega)]; exact cop_at (idxL n) k n hltk HIL.out
      obtain ⟨hs1, hs9⟩ := hownr.stored k (.int .i64 (k : Int))
      have HS1 : Hid ((wr.setCell ⟨v.heap.size, k, none⟩ (.int .i64 (k : Int))).ownsRow v.heap.size 2 1 (.slice (some ⟨v.heap.size, 0, none⟩) n n) n (cop (idxL n) (k + 1) n)) := Lib.hid (by rw [← cop_set (idxL n) k n hltk HIL.out, HIA.out k hltk]; exact hs1)
      have HB2 := Lib.hid (hB.grown hs9 hB.size (fun j hj => by cases hj; exact Nat.le_refl _))
      have hkz : (k : Int) < (n : Int) := by omega
      clear hs1 hs9 hownr
      go_wp2
      go_roundw
      case rel => exact ⟨k + 1, by omega, by go_num, HS1.out, HB2.out⟩
      case measure => simp [Go.RowKit.intOf]; omega
    · obtain rfl : k = n := by omega
      rw [cop_full (idxL k) k HIL.out] at hownr
      have HO := Lib.hid hownr
      have k0w := (hB.cell (p := ⟨w.heap.size, 0, none⟩) (by show w.heap.size < _; omega)).trans k0
      have k1w := (hB.cell (p := ⟨w.heap.size, 1, none⟩) (by show w.heap.size < _; omega)).trans k1
      have kcw := (hB.cell (p := ⟨w.heap.size + 1, 0, none⟩) hsv).trans hcb
      have hszw := hB.size
      have BW := belowCall B1 hB
      clear hownr k0 k1 hcb
      by_cases h0 : 0 < k
      · obtain ⟨b1, o1, rfl, hpc⟩ := h.2 0 h0
        have hb1 := hpc.1
        go_wp2_with fail
        refine (fold_sort e p w.heap.size (w.heap.size + 1) b1 o1 k c v.heap.size v.heap.size 2 xs wr h1 h2 h3 h4 h0 h100 HBD.out (by omega) (by omega) (by omega) (by omega) (by have := B1.size; omega) k0w k1w kcw (h.mono BW) HO.out).mono ?_
        rintro x w7 ⟨rfl, hown7, hg7⟩
        have HO7 := Lib.hid hown7
        have HB7 : Below w.heap.size w w7 := BW.grown hg7 BW.size (fun j e => by cases e; exact B1.size)
        clear hown7 hg7
        go_wp2
        go_ret
        exact ⟨_, rfl, ownLow HO7.out B1.size, HB7⟩
      · obtain rfl : k = 0 := by omega
        have hz00 : ((0 : Nat) : Int) = 0 := rfl
        go_wp2_with (go_at_call 75; refine (sortStab_zero _ _ _ _).mono ?_; rintro x w' ⟨rfl, rfl⟩)
        go_ret
        have hm0 : ∀ le : Int → Int → Bool, (idxL 0).mergeSort le = idxL 0 := fun le => by simp [idxL]
        exact ⟨_, rfl, by rw [hm0]; exact ownLow HO.out B1.size, BW⟩
set_option maxHeartbeats 1000000 in
theorem iFoldC_any (e p : Int) (a : Option Addr) (n c : Nat) (xs : List Pt) (w : World) (h : PtL w a n xs) (hn : n ≤ 1048576) (he : ephB e p = true) (hok : okP xs = true) :
    Calls Try.prog 24 #[.agg #[.int .i64 e, .int .i64 p], .slice a n c] w fun x w' => ∃ b, x = .returned (.tuple #[.slice (some ⟨b, 0, none⟩) n n, .int .i64 0]) ∧ w'.ownsRow w.heap.size 2 1 (.slice (some ⟨b, 0, none⟩) n n) n (((idxL n).mergeSort (leF e p xs)).map (Value.int .i64)) ∧ Below w.heap.size w w' := by
  have hbx := PtC.fresh w 44 e p
  have B1 : Below w.heap.size w (w.alloc (.cells #[.int .i64 e, .int .i64 p] 44)) := (Below.refl _ w).alloc (Nat.le_refl _) _
  obtain ⟨⟨h1, h2⟩, h3, h4⟩ := ephB_iff.1 he
  obtain ⟨h100, hbd, -⟩ := okP_num h.1 hok
  have HF := Lib.hid (fun (W : World) (hW : PtL W a n xs) => iFoldM_any e p a n c xs W hW h100 h1 h2 h3 h4 (fun k (hk : k < n) => (⟨(hbd k hk).1, (hbd k hk).2.1⟩ : 0 ≤ (xs[k]?.getD pt0).1 ∧ (xs[k]?.getD pt0).1 ≤ 10000000)))
  clear hbd
  go_enter Try.func24, Try.ntmps24
  go_wp2_with fail
  generalize w.alloc (.cells #[.int .i64 e, .int .i64 p] 44) = v at hbx B1 ⊢
  refine (iValidEp_any e p _).mono ?_
  rintro x w2 ⟨rfl, b2⟩
  rw [he]
  have B2 := belowCall B1 b2
  go_wp2_with fail
  refine (iValidCv_any a n c xs w2 (h.mono B2) hn).mono ?_
  rintro x w3 ⟨rfl, b3⟩
  rw [hok]
  have B3 := belowCall B2 b3
  obtain ⟨hlt, k0, k1⟩ := ((hbx.mono b2).mono b3).parts
  rw [Nat.zero_add] at k1
  go_wp2_with fail
  refine (HF.out w3 (h.mono B3)).mono ?_
  rintro x w4 ⟨b, rfl, hown, b4⟩
  have HO := Lib.hid hown
  clear hown
  go_wp2
  go_ret2
  exact ⟨b, rfl, ownLow HO.out B3.size, belowCall B3 b4⟩
theorem iFold_any (e p : Int) (a : Option Addr) (n c : Nat) (xs : List Pt) (w : World) (h : PtL w a n xs) (hn : n ≤ 1048576) :
    Calls Try.prog 24 #[.agg #[.int .i64 e, .int .i64 p], .slice a n c] w fun x w' => IntRes w.heap.size (foL e p xs) (.int .i64 (foC e p xs)) w' x ∧ Below w.heap.size w w' := by
  have hbx := PtC.fresh w 44 e p
  have B1 : Below w.heap.size w (w.alloc (.cells #[.int .i64 e, .int .i64 p] 44)) := (Below.refl _ w).alloc (Nat.le_refl _) _
  cases he : ephB e p
  · have HD := Lib.hid (fo_no (xs := xs) (show (ephB e p && okP xs) = false by rw [he]; rfl))
    go_enter Try.func24, Try.ntmps24
    go_wp2_with fail
    refine (iValidEp_any e p _).mono ?_
    rintro x w2 ⟨rfl, b2⟩
    rw [he]
    go_wp2
    go_ret2
    exact ⟨by rw [HD.out.1, HD.out.2]; exact IntRes.nil _ _ _, belowCall B1 b2⟩
  cases hok : okP xs
  · have HD := Lib.hid (fo_no (show (ephB e p && okP xs) = false by rw [he, hok]; rfl))
    go_enter Try.func24, Try.ntmps24
    go_wp2_with fail
    refine (iValidEp_any e p _).mono ?_
    rintro x w2 ⟨rfl, b2⟩
    rw [he]
    have B2 := belowCall B1 b2
    go_wp2_with fail
    refine (iValidCv_any a n c xs w2 (h.mono B2) hn).mono ?_
    rintro x w3 ⟨rfl, b3⟩
    rw [hok]
    go_wp2
    go_ret2
    exact ⟨by rw [HD.out.1, HD.out.2]; exact IntRes.nil _ _ _, belowCall B2 b3⟩
  have HD := Lib.hid (fo_yes (show (ephB e p && okP xs) = true by rw [he, hok]; rfl))
  have hl := h.1
  refine (iFoldC_any e p a n c xs w h hn he hok).mono ?_
  rintro x w' ⟨b, rfl, hown, hB⟩
  exact ⟨by rw [HD.out.1, HD.out.2, hl]; exact IntRes.own hown (by rw [List.length_mergeSort, idxL_len]), hB⟩
end Go.Proofs.Ytidiiladlmaigaa
