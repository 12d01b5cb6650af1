/- The model's drawn light curves: l08Draw, A2Curve. -/
import Derived.Test.YtidiiladlmaigaaB9
import Derived.Test.YtidiiladlmaigaaJ1
import Derived.Deep.AppendLies
namespace Go.Proofs.Ytidiiladlmaigaa
open Go.ChangeShapes Go.WideShapes Go.ChangeAt Go.RowKit Go.Deep

theorem okP_snoc {xs : List Pt} {n : Nat} {x0 x1 : Int} (hn : xs.length = n) (h : ∀ k, k < n → okAtP xs k = true) (hb : ∀ k, k < n → (xs[k]?.getD pt0).1 < x0) (h0 : 0 ≤ x0) (h1 : x0 ≤ 10000000) (h2 : -2000 ≤ x1) (h3 : x1 ≤ 20000) : ∀ k, k < n + 1 → okAtP (xs ++ [(x0, x1)]) k = true := by
  intro k hk
  have hold : ∀ j, j < n → (xs ++ [(x0, x1)])[j]?.getD pt0 = xs[j]?.getD pt0 := fun j hj => by rw [List.getElem?_append_left (by omega)]
  by_cases e : k = n
  · subst e
    have hx : (xs ++ [(x0, x1)])[k]?.getD pt0 = (x0, x1) := by
      rw [List.getElem?_append_right (by omega), hn, Nat.sub_self]; rfl
    have hv : pvB (x0, x1) = true := by
      simp only [pvB, tmB, magB, Bool.and_eq_true, inB_iff]; omega
    by_cases hk0 : k = 0
    · exact okAtP_zero hx hv hk0
    · obtain ⟨k', rfl⟩ : ∃ k', k = k' + 1 := ⟨k - 1, by omega⟩
      exact okAtP_succ hx (hold k' (by omega)) hv (by simpa using hb k' (by omega))
  · have h4 := h k (by omega)
    simp only [okAtP] at h4 ⊢
    rw [hold k (by omega)]
    by_cases hk0 : k = 0
    · subst hk0; simpa using h4
    · rw [hold (k - 1) (by omega)]; exact h4
theorem snoc_lt {xs : List Pt} {n : Nat} {x0 x1 t : Int} (hn : xs.length = n) (hb : ∀ k, k < n → (xs[k]?.getD pt0).1 < x0) (ht : x0 < t) : ∀ k, k < n + 1 → ((xs ++ [(x0, x1)])[k]?.getD pt0).1 < t := by
  intro k hk
  by_cases e : k = n
  · subst e
    rw [List.getElem?_append_right (by omega), hn, Nat.sub_self]; exact ht
  · rw [List.getElem?_append_left (by omega)]
    have := hb k (by omega)
    omega
/-- what a drawn point is beside that -/
def drP (x : Pt) : Prop := x.1 % 100 = 0 ∧ 8000 ≤ x.2 ∧ x.2 ≤ 9980
theorem snoc_dr {xs : List Pt} {n : Nat} {x0 x1 : Int} (hn : xs.length = n) (h : ∀ k, k < n → drP (xs[k]?.getD pt0)) (h0 : drP (x0, x1)) : ∀ k, k < n + 1 → drP ((xs ++ [(x0, x1)])[k]?.getD pt0) := by
  intro k hk
  by_cases e : k = n
  · subst e
    rw [List.getElem?_append_right (by omega), hn, Nat.sub_self]; exact h0
  · rw [List.getElem?_append_left (by omega)]; exact h k (by omega)
set_option maxRecDepth 100000 in
set_option maxHeartbeats 4000000 in
theorem l08Draw_any (g : Nat) (a : Option Addr) (len cap M : Nat) (w : World) (h : Src w 101 g a len cap M) (hb : LstB w g a len) (hM : M ≤ 1000) (hlen : len ≤ 1048576) :
    Calls Try.prog 50 #[.pointer (some ⟨g, 0, none⟩), .int .i64 12] w fun e w' => ∃ b n c xs, e = .returned (.slice (some ⟨b, 0, none⟩) n c) ∧ PtL w' (some ⟨b, 0, none⟩) n xs ∧ okP xs = true ∧ n ≤ 12 ∧ n ≤ c ∧ (∀ j, j < n → drP (xs[j]?.getD pt0)) ∧ w.grownBy w' (some g) := by
  obtain ⟨i0, hi, hz0, hz1, hz2⟩ := info_parts Pt_info
  have hgl := src_lt h
  have k0 : Src (w.alloc (.cells #[] 28)) 101 g a len cap M := src_kept h (Below.heap_alloc _ _ _ hgl)
  have k1 : LstB (w.alloc (.cells #[] 28)) g a len := hb.below ((Below.refl _ _).alloc (Nat.le_of_lt hgl) _)
  have k2 : w.grownBy (w.alloc (.cells #[] 28)) (some g) := World.grownBy_alloc _ _ _
  have k3 : (w.alloc (.cells #[] 28)).heap.size = w.heap.size + 1 := by simp
  have k4 : (w.alloc (.cells #[] 28)).ownsRow w.heap.size 28 2 (.slice (some ⟨w.heap.size, 0, none⟩) 0 0) 0 [] := World.ownsRow_lit w #[] 0 (Nat.le_refl _) (by unfold maxLen; omega) rfl
  go_enter Try.func50, Try.ntmps50
  go_wp2_with fail
  generalize w.alloc (.cells #[] 28) = W0 at k0 k1 k2 k3 k4 ⊢
  refine (pick_any 9 8 g a len cap M W0 k0 k1 (by omega) hlen (by omega) (by omega) (by omega)).mono ?_
  rintro e W1 ⟨v0, rfl, v00, v01, hs1, hg1⟩
  have hb1 := k1.grown hg1
  have hG1 := grown_trans k2 hg1
  have hz1' := hg1.size
  have o1 := k4.kept hg1 (.inr (show (some w.heap.size : Option Nat) ≠ some g from fun e => by cases e; omega))
  clear k0 k1 k2 k4 hg1
  go_wp2_with fail
  refine (pick_any 13 12 g a len cap (M + 2) W1 hs1 hb1 (by omega) hlen (by omega) (by omega) (by omega)).mono ?_
  rintro e W2 ⟨vk, rfl, vk0, vk1, hs2, hg2⟩
  obtain ⟨K0, rfl⟩ := Int.eq_ofNat_of_zero_le vk0
  have hb2 := hb1.grown hg2
  have hG2 := grown_trans hG1 hg2
  have o2 := o1.kept hg2 (.inr (show (some w.heap.size : Option Nat) ≠ some g from fun e => by cases e; omega))
  clear hs1 hb1 hG1 hg2 o1 vk0
  go_wp2_with fail
  go_loopw [5, 6, 7] (fun o t i wr => ∃ (k M' n b c : Nat) (at0 : Int) (xs : List Pt), i = .int .i64 (k : Int) ∧ t = .int .i64 at0 ∧ o = .slice (some ⟨b, 0, none⟩) n c ∧ n ≤ c ∧ xs.length = n ∧ wr.ownsRow w.heap.size 28 2 (.slice (some ⟨b, 0, none⟩) n c) n (flatPt xs) ∧ (∀ j, j < n → okAtP xs j = true) ∧ (∀ j, j < n → (xs[j]?.getD pt0).1 < at0) ∧ (∀ j, j < n → drP (xs[j]?.getD pt0)) ∧ at0 % 100 = 0 ∧ 0 ≤ at0 ∧ at0 ≤ 8000 + 4000 * n ∧ n + k ≤ 12 ∧ M' + 4 * k ≤ M + 60 ∧ Src wr 101 g a len cap M' ∧ LstB wr g a len ∧ w.grownBy wr (some g)) (fun _ _ i _ => (intOf i).toNat)
  case atStart => exact ⟨K0, M + 2 + 2, 0, w.heap.size, 0, 1000 * v0, [], rfl, rfl, rfl, Nat.le_refl _, rfl, o2, fun j hj => absurd hj (by omega), fun j hj => absurd hj (by omega), fun j hj => absurd hj (by omega), by omega, by omega, by omega, by omega, by omega, hs2, hb2, hG2⟩
  case round =>
    obtain ⟨k, M', n, b, c, at0, xs, rfl, rfl, rfl, hnc, hxl, hown, hok, hlt, hdr, hmod, hat0, hat1, hnk, hMk, hs, hbb, hG⟩ := hrel
    clear hs2 hb2 hG2 o2
    have HOK := Lib.hid hok
    have HLT := Lib.hid hlt
    have HDR := Lib.hid hdr
    have HXL := Lib.hid hxl
    clear hok hlt hxl hdr
    have hk00 : (0 : Int) ≤ (k : Int) := by omega
    have hgw := hG.size
    have hbl := hown.lt b rfl
    by_cases hk : 0 < k
    · have hk' : (0 : Int) < (k : Int) := by omega
      have hn12 : (n : Int) ≤ 12 := by omega
      go_wp2_with fail
      refine (pick_any 100 99 g a len cap M' wr hs hbb (by omega) hlen (by omega) (by omega) (by omega)).mono ?_
      rintro e w1 ⟨v1, rfl, v10, v11, hs1, hg1⟩
      have hbb1 := hbb.grown hg1
      have hG1 := grown_trans hG hg1
      have hown1 := hown.kept hg1 (.inr (show (some b : Option Nat) ≠ some g from fun e => by cases e; omega))
      have hgl1 := src_lt hs1
      have hsz1 := hG1.size
      clear hs hbb hG hown hg1
      go_wp2_with (at_builtin; refine wpList_append_lies _ rfl _ _ 34 rfl w.heap.size 28 i0 _ 2 16 Try.underlying34 hi hz0 hz1 hz2 rfl (by decide) _ _ _ rfl (hown1.alloc _) ⟨w1.heap.size, 0, none⟩ 1 1 [.int .i64 at0, .int .i64 (8000 + 20 * v1)] rfl rfl (cellsPt w1 _ _ _) (by intro u hu; simp at hu; rcases hu with rfl | rfl <;> rfl) (by decide) (by unfold maxLen; omega) (by omega) (by simp; omega) _ rfl ?_; intro gg cc w2 hown2 hg2 hlies hglt)
      have hz : (w1.alloc (.cells #[.int .i64 at0, .int .i64 (8000 + 20 * v1)] 28)).heap.size = w1.heap.size + 1 := by simp
      have hgb : gg ≠ g := by
        rcases hlies with e | e
        · have e' : (some b : Option Nat) = some gg := e
          cases e'
          omega
        · rw [hz] at e; omega
      have hG1a := grown_trans hG1 (World.grownBy_alloc w1 (.cells #[.int .i64 at0, .int .i64 (8000 + 20 * v1)] 28) (some g))
      have hs1a := src_kept hs1 (Below.heap_alloc w1 (.cells #[.int .i64 at0, .int .i64 (8000 + 20 * v1)] 28) _ hgl1)
      have hbb1a := hbb1.below ((Below.refl g w1).alloc (Nat.le_of_lt hgl1) (.cells #[.int .i64 at0, .int .i64 (8000 + 20 * v1)] 28))
      have hg2' : (w1.alloc (.cells #[.int .i64 at0, .int .i64 (8000 + 20 * v1)] 28)).grownBy w2 (some b) := hg2
      have hs2 := src_kept hs1a (hg2'.block g (by simp; omega) (by simp; omega))
      have hbb2 := hbb1a.below (grown_below hg2' (by omega) (by simp; omega))
      have hG2 := gFar hG1a hg2' (fun j e => by cases e; exact hbl.1)
      have HO2 : Hid (w2.ownsRow w.heap.size 28 2 (.slice (some ⟨gg, 0, none⟩) (n + 1) cc) (n + 1) (flatPt (xs ++ [(at0, 8000 + 20 * v1)]))) := Lib.hid (by rw [flatPt_snoc]; exact hown2)
      have hnc2 : n + 1 ≤ cc := by
        rcases hown2.2 with ⟨e, _⟩ | ⟨_, _, _, e, hh⟩
        · cases e
        · cases e; exact hh.2.2.1
      clear hs1 hbb1 hG1 hown1 hg2 hg2' hs1a hbb1a hG1a hown2 hlies
      refine (pick_any 40 39 g a len cap (M' + 2) w2 hs2 hbb2 (by omega) hlen (by omega) (by omega) (by omega)).mono ?_
      rintro e w3 ⟨v2, rfl, v20, v21, hs3, hg3⟩
      have hbb3 := hbb2.grown hg3
      have hG3 := grown_trans hG2 hg3
      have HO3 := Lib.hid (HO2.out.kept hg3 (.inr (show (some gg : Option Nat) ≠ some g from fun e => hgb (Option.some.inj e))))
      clear hs2 hbb2 hG2 hg3 HO2
      have HOK3 := Lib.hid (okP_snoc (x0 := at0) (x1 := 8000 + 20 * v1) HXL.out HOK.out HLT.out (by omega) (by omega) (by omega) (by omega))
      have HDR3 := Lib.hid (snoc_dr (x0 := at0) (x1 := 8000 + 20 * v1) HXL.out HDR.out (by unfold drP; simp only; omega))
      have HLT3 := Lib.hid (snoc_lt (x1 := 8000 + 20 * v1) (t := at0 + 100 * (1 + v2)) HXL.out HLT.out (by omega))
      go_wp2
      go_roundw
      case rel => exact ⟨k - 1, M' + 4, n + 1, gg, cc, at0 + 100 * (1 + v2), xs ++ [(at0, 8000 + 20 * v1)], by go_num, by go_num, rfl, hnc2, by rw [List.length_append, HXL.out]; rfl, HO3.out, HOK3.out, HLT3.out, HDR3.out, by omega, by omega, by omega, by omega, by omega, hs3, hbb3, hG3⟩
      case measure => simp [intOf]; omega
    · obtain rfl : k = 0 := by omega
      go_wp2
      go_ret
      exact ⟨b, n, c, xs, rfl, PtL.of_own hown HXL.out, okP_yes HXL.out (by omega) HOK.out, by omega, hnc, HDR.out, hG⟩
theorem A2Curve_any (a : Option Addr) (len cap : Nat) (w : World) (hb : LstB w w.heap.size a len) (hlen : len ≤ 1048576) :
    Calls Try.prog 23 #[.slice a len cap] w fun e w' => ∃ b n c xs, e = .returned (.slice (some ⟨b, 0, none⟩) n c) ∧ PtL w' (some ⟨b, 0, none⟩) n xs ∧ okP xs = true ∧ n ≤ 12 ∧ n ≤ c ∧ (∀ j, j < n → drP (xs[j]?.getD pt0)) ∧ Below w.heap.size w w' := by
  go_enter Try.func23, Try.ntmps23
  go_wp2_with fail
  refine (l00From_any a len cap w).mono ?_
  rintro e w0 ⟨rfl, hs0, hB0⟩
  have hb0 := hb.below hB0
  go_wp2_with fail
  refine (l08Draw_any w.heap.size a len cap 0 w0 hs0 hb0 (by omega) hlen).mono ?_
  rintro e w1 ⟨b, n, c, xs, rfl, hL, hok, hn, hnc, hdr, hg1⟩
  have hB1 : Below w.heap.size w w1 := hB0.trans (grown_below hg1 (Nat.le_refl _) hB0.size)
  have HL := Lib.hid hL
  have HOK := Lib.hid hok
  have HDR := Lib.hid hdr
  clear hL hok hdr
  go_wp2
  go_ret
  exact ⟨b, n, c, xs, rfl, HL.out, HOK.out, hn, hnc, HDR.out, hB1⟩
end Go.Proofs.Ytidiiladlmaigaa
