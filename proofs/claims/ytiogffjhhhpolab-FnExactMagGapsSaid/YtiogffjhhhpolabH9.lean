/- MagGaps, the program's: slices.Sort, slices.BinarySearch. -/
import Derived.Test.YtiogffjhhhpolabH8
import Derived.Shelf.SortM.Plain
import Derived.Shelf.SlicesG.SearchI
import Derived.Shelf.SlGeneric
import Derived.Ground.SlgmProg
import Derived.Ground.SlgnProg
import Derived.Sort.OwnSortedInts
namespace Go.Proofs.Ytiogffjhhhpolab
open Go.ChangeShapes Go.WideShapes Go.ChangeAt Go.RowKit Go.Deep Go.Shelf
open Go.Sort (grow putRow putCells Holds)

theorem cnt_split {x : Int} : ∀ {ys : List Int}, ys.Pairwise (· ≤ ·) → ∀ i, i < ys.length → (ys[i]?.getD 0 < x ↔ i < ys.countP (· < x))
  | [], _, i, hi => absurd hi (by simp)
  | y :: t, hs, i, hi => by
    rw [List.pairwise_cons] at hs
    by_cases hy : y < x
    · have hc : (y :: t).countP (· < x) = t.countP (· < x) + 1 := by rw [List.countP_cons]; simp [hy]
      rw [hc]
      match i, hi with
      | 0, _ => simpa using hy
      | j + 1, hj =>
        have := cnt_split (x := x) hs.2 j (by simpa using hj)
        simpa using this
    · have h0 : t.countP (· < x) = 0 := by
        rw [List.countP_eq_zero]
        intro z hz
        have := hs.1 z hz
        simp; omega
      have hc : (y :: t).countP (· < x) = 0 := by rw [List.countP_cons, h0]; simp [hy]
      rw [hc]
      match i, hi with
      | 0, _ => simpa using hy
      | j + 1, hj =>
        have hj' : j < t.length := by simpa using hj
        have := hs.1 _ (List.getElem_mem hj')
        simp [hj']; omega
theorem gap_in {ms ys : List Int} {m : Int} (hp : ys.Perm ms) (hs : ys.Pairwise (· ≤ ·)) (hk : ys.countP (· < m + 1) < ys.length) : gnTo ms m ms.length = ys[ys.countP (· < m + 1)]?.getD 0 - m := by
  obtain ⟨k, hke⟩ : ∃ k, ys.countP (· < m + 1) = k := ⟨_, rfl⟩
  have hsp := fun i hi => cnt_split (x := m + 1) hs i hi
  rw [hke] at hk hsp ⊢
  have hv : ¬ ys[k]?.getD 0 < m + 1 := fun h => by have := (hsp k hk).1 h; omega
  have hmem : ys[k]?.getD 0 ∈ ms := by
    rw [List.getElem?_eq_getElem hk, Option.getD_some]
    exact hp.mem_iff.1 (List.getElem_mem hk)
  obtain ⟨j, hj, hje⟩ := List.getElem_of_mem hmem
  have hj2 : ms[j]?.getD 0 = ys[k]?.getD 0 := by rw [List.getElem?_eq_getElem hj, Option.getD_some]; exact hje
  rcases gn_is ms m ms.length with ⟨_, h2⟩ | ⟨h1, ⟨j0, hj0, h2⟩, h3⟩
  · have := h2 j hj
    omega
  · have h4 := h3 j hj (by omega)
    have hmem0 : ms[j0]?.getD 0 ∈ ys := by
      rw [List.getElem?_eq_getElem hj0, Option.getD_some]
      exact hp.mem_iff.2 (List.getElem_mem hj0)
    obtain ⟨i, hi, hie⟩ := List.getElem_of_mem hmem0
    have hi2 : ys[i]?.getD 0 = ms[j0]?.getD 0 := by rw [List.getElem?_eq_getElem hi, Option.getD_some]; exact hie
    have hik : ¬ i < k := fun h => by have := (hsp i hi).2 h; omega
    have hle : ys[k]?.getD 0 ≤ ys[i]?.getD 0 := by
      by_cases e : k = i
      · subst e; exact Int.le_refl _
      · have := List.pairwise_iff_getElem.1 hs k i hk hi (by omega)
        rw [List.getElem?_eq_getElem hk, List.getElem?_eq_getElem hi]
        exact this
    omega
theorem gap_out {ms ys : List Int} {m : Int} (hp : ys.Perm ms) (hs : ys.Pairwise (· ≤ ·)) (hk : ¬ ys.countP (· < m + 1) < ys.length) : gnTo ms m ms.length = -1 := by
  rcases gn_is ms m ms.length with ⟨h1, _⟩ | ⟨h1, ⟨j0, hj0, h2⟩, _⟩
  · exact h1
  · have hmem0 : ms[j0]?.getD 0 ∈ ys := by
      rw [List.getElem?_eq_getElem hj0, Option.getD_some]
      exact hp.mem_iff.2 (List.getElem_mem hj0)
    obtain ⟨i, hi, hie⟩ := List.getElem_of_mem hmem0
    have hi2 : ys[i]?.getD 0 = ms[j0]?.getD 0 := by rw [List.getElem?_eq_getElem hi, Option.getD_some]; exact hie
    have := (cnt_split (x := m + 1) hs i hi).2 (by omega)
    omega
def srtI (ps : List Int) : List Int := ps.mergeSort fun x y => decide (x ≤ y)
theorem srtI_perm (ps : List Int) : (srtI ps).Perm ps := List.mergeSort_perm _ _
theorem srtI_rise (ps : List Int) : (srtI ps).Pairwise (· ≤ ·) := by
  have := List.pairwise_mergeSort (le := fun a b : Int => decide (a ≤ b)) (by intro a b c; simp; omega) (by intro a b; simp; omega) ps
  exact this.imp (by intro a b h; simpa using h)
theorem srtI_len (ps : List Int) : (srtI ps).length = ps.length := (srtI_perm ps).length_eq
shelf_lay_g SlLaysM.n5 Slgm 5 at Try 81 as Try.sortInt
shelf_lay_g SlLaysN.n49 Slgn 49 at Try 82 as Try.srchInt
theorem sortI_any (g n c B : Nat) (ps : List Int) (w : World) (hown : w.ownsRow B 2 1 (.slice (some ⟨g, 0, none⟩) n c) n (ps.map (Value.int .i64))) (hl : ps.length = n) (hn : n ≤ 1048576) :
    Calls Try.prog 81 #[.slice (some ⟨g, 0, none⟩) n c] w fun e w' => e = .returned (.tuple #[]) ∧ w'.ownsRow B 2 1 (.slice (some ⟨g, 0, none⟩) n c) n ((srtI ps).map (Value.int .i64)) ∧ w.grownBy w' (some g) := by
  rcases hown.2 with ⟨h0, _⟩ | ⟨g', cap, cur, hv, hbase, hb, h1, h2, h3, h4⟩
  · cases h0
  cases hv
  subst hl
  have hH : Holds (Value.int .i64) w g 0 ps.toArray := Go.holds_of_blockI hb (by simpa using h4)
  have hcon := AnyM.slices_Sort_int Try.sortInt g 0 c ps w hH (Array.getElem?_eq_some_iff.1 hb).1 (by omega)
  change Calls Try.prog 81 _ _ _ at hcon
  refine hcon.mono ?_
  rintro e w' ⟨rfl, q, os, rfl⟩
  have ho := Go.ownsRow_sortedI (n := q) (os := os) (ss := ps) (ts := ps.mergeSort fun x y => decide (x ≤ y)) (by simp) hbase hb h1 h2 h3
  exact ⟨rfl, ho, Go.grownBy_sortedI _⟩
theorem srchI_any (g n c : Nat) (ys : List Int) (x : Int) (w : World) (h : Lst w (some ⟨g, 0, none⟩) n ys) (hs : ys.Pairwise (· ≤ ·)) (hn : n ≤ 1048576) :
    Calls Try.prog 82 #[.slice (some ⟨g, 0, none⟩) n c, .int .i64 x] w fun e w' => e = .returned (.tuple #[.int .i64 (ys.countP (· < x) : Nat), .bool (ys.contains x)]) ∧ Below w.heap.size w w' := by
  have hl := h.1
  have hcon := AnyG.slices_BinarySearch_int Try.srchInt g 0 n c ys x w (by omega) (by omega) (fun j hj => by
    obtain ⟨b, off, e, _, hc⟩ := h.2 j (by omega)
    cases e
    rw [hc]; simp [List.getD, hj]) (by rw [← hl, List.take_length]; exact hs)
  change Calls Try.prog 82 _ _ _ at hcon
  refine hcon.mono ?_
  rintro e w' ⟨rfl, q, rfl⟩
  exact ⟨by rw [← hl, List.take_length], belowDN (Below.refl _ _) _⟩
set_option maxRecDepth 100000 in
set_option maxHeartbeats 8000000 in
theorem iGaps_any (a : Option Addr) (n c : Nat) (xs : List Mk) (most : Int) (w : World) (h : MkL w a n xs) (hn : n ≤ 1048576) (hcap : n ≤ c) :
    Calls Try.prog 29 #[.slice a n c, .int .i64 most] w fun e w' => IntRes w.heap.size (mgG xs most) (.int .i64 (mgC xs most)) w' e ∧ Below w.heap.size w w' := by
  obtain ⟨i0, hi, hz0, hz1, hz2⟩ := info_parts A_info
  have HL := Lib.hid h.1
  have hl : (n : Int) ≤ 1048576 := by omega
  cases hok : okC xs
  · have HC := Lib.hid (mg_1 (most := most) hok)
    go_enter Try.func29, Try.ntmps29
    go_wp2_with fail
    (refine (iValidC_any a n c xs w h hn hcap).mono ?_; rintro e w2 ⟨rfl, b2⟩; rw [hok])
    go_wp2
    go_ret2
    exact ⟨by rw [HC.out.1, HC.out.2]; exact IntRes.nil _ _ _, b2⟩
  cases hmo : inB most 0 20000
  · have HC := Lib.hid (mg_2 hok hmo)
    go_enter Try.func29, Try.ntmps29
    go_wp2_with fail
    (refine (iValidC_any a n c xs w h hn hcap).mono ?_; rintro e w2 ⟨rfl, b2⟩; rw [hok])
    go_wp2_with (go_at_call 80; refine (inRange_any _ _ _ _).mono ?_; rintro e w' ⟨rfl, rfl⟩)
    go_ret2
    exact ⟨by rw [HC.out.1, HC.out.2]; exact IntRes.nil _ _ _, b2⟩
  have HC := Lib.hid (mg_0 HL.out hok hmo)
  have HOK := Lib.hid hok
  have hn30 := (okC_at h.1 hok).1
  obtain ⟨mo1, mo2⟩ := inB_iff.1 hmo
  go_enter Try.func29, Try.ntmps29
  go_wp2_with fail
  (refine (iValidC_any a n c xs w h hn hcap).mono ?_; rintro e w2 ⟨rfl, b2⟩; rw [hok])
  have h2 := h.mono b2
  clear hok
  go_wp2_with (go_at_call 80; refine (inRange_any _ _ _ _).mono ?_; rintro e w' ⟨rfl, rfl⟩)
  refine (iMags_any a n c xs w2 h2 hn).mono ?_
  rintro e w3 ⟨g3, rfl, hown3, b3⟩
  have hml : (mgL xs).length = n := by rw [mgL_len, h.1]
  have hg3 := (hown3.lt g3 rfl).1
  go_wp2_with fail
  refine (sortI_any g3 n n _ (mgL xs) w3 hown3 hml hn).mono ?_
  rintro e w4 ⟨rfl, hown4, hgr4⟩
  have B34 : Below w2.heap.size w2 w4 := b3.grown hgr4 b3.size (fun j e => by cases e; exact hg3)
  have h4 := h2.mono B34
  have hls := Lst.of_own hown4
  obtain ⟨ys, hys⟩ : ∃ ys, srtI (mgL xs) = ys := ⟨_, rfl⟩
  have hyp : ys.Perm (mgL xs) := by rw [← hys]; exact srtI_perm _
  have hyr : ys.Pairwise (· ≤ ·) := by rw [← hys]; exact srtI_rise _
  rw [hys] at hls
  have hyl := hls.1
  have HRS := Lib.hid hyr
  have HPM := Lib.hid hyp
  have HYL := Lib.hid hyl
  have HML := Lib.hid hml
  have hB24 := belowCall b2 B34
  clear hmo hys hyr hyp hyl hml hown3 hown4 hgr4 b3
  go_wp2
  go_loopw [7, 24] (fun oo i wr => ∃ k : Nat, k ≤ n ∧ i = .int .i64 k ∧ wr.ownsRow w4.heap.size 2 1 oo (mgS xs most k).length ((mgS xs most k).map (Value.int .i64)) ∧ Below w4.heap.size w4 wr) (fun _ i _ => n - (Go.RowKit.intOf i).toNat)
  case atStart => exact ⟨0, Nat.zero_le _, rfl, World.ownsRow_nil _ _ _ _, Below.refl _ _⟩
  case round =>
    obtain ⟨i, hin, rfl, hown, hB⟩ := hrel
    by_cases hlt : i < n
    · obtain ⟨b1, o1, rfl, hc⟩ := h4.2 i hlt
      obtain ⟨⟨x0, x1, x2⟩, hx⟩ : ∃ x, xs[i]?.getD mk0 = x := ⟨_, rfl⟩
      obtain ⟨-, -, mx1, mx2⟩ := mrkB_bd (by rw [← hx]; exact okC_mark HL.out HOK.out hlt rfl)
      rw [hx] at hc
      have HX := Lib.hid hx
      obtain ⟨-, p0, p1, p2⟩ := (hc.mono hB).parts
      have hii : (i : Int) < (n : Int) := by omega
      have hi0 : (0 : Int) ≤ (i : Int) := by omega
      have hzr := hB.size
      have hA : Below w4.heap.size w4 (wr.alloc (.cells #[.int .i64 x0, .int .i64 x1, .int .i64 x2] 98)) := by (repeat (first | assumption | exact Below.refl _ _ | refine belowDN ?_ _ | refine Below.drew ?_ | refine Below.setCell ?_ (by first | omega | (simp <;> omega)) _ | refine Below.alloc ?_ (by first | omega | (simp <;> omega)) _ | refine belowCall ?_ (by assumption)))
      have hbx := MkC.fresh wr 98 x0 x1 x2
      have hownA := hown.alloc (.cells #[.int .i64 x0, .int .i64 x1, .int .i64 x2] 98)
      have hLk := mgS_len xs most i
      obtain ⟨t, ht⟩ : ∃ t, ys.countP (· < x2 + 1) = t := ⟨_, rfl⟩
      have HT := Lib.hid ht
      have hgi : t < ys.length → gnTo (mgL xs) x2 xs.length = ys[t]?.getD 0 - x2 := fun hk => by
        rw [← ht] at hk ⊢
        have := gap_in HPM.out HRS.out hk
        rw [mgL_len] at this
        exact this
      have hgo : ¬ t < ys.length → gnTo (mgL xs) x2 xs.length = -1 := fun hk => by
        rw [← ht] at hk
        have := gap_out HPM.out HRS.out hk
        rw [mgL_len] at this
        exact this
      have hgap : gapB xs most i = decide (most < gnTo (mgL xs) x2 xs.length) := by unfold gapB; rw [HX.out]
      clear hx hc hown ht
      go_wp2_with fail
      (refine (srchI_any g3 n n ys (x2 + 1) _ (hls.mono (by (repeat (first | assumption | exact Below.refl _ _ | refine belowDN ?_ _ | refine Below.drew ?_ | refine Below.setCell ?_ (by first | omega | (simp <;> omega)) _ | refine Below.alloc ?_ (by first | omega | (simp <;> omega)) _ | refine belowCall ?_ (by assumption))))) HRS.out hn).mono ?_; rintro e w5 ⟨rfl, b5⟩; rw [HT.out])
      have hown5 := ownKeepH hownA b5
      have hB5 := belowCall hA b5
      obtain ⟨-, k0, k1, k2⟩ := (hbx.mono b5).parts
      rw [Nat.zero_add] at k1 k2
      have hls5 := hls.mono hB5
      clear hownA hbx p0 p1 p2
      by_cases htn : t < n
      · obtain ⟨_, _, he, -, hcv⟩ := hls5.2 t htn
        cases he
        rw [Nat.zero_add] at hcv
        obtain ⟨v, hv⟩ : ∃ v, ys[t]?.getD 0 = v := ⟨_, rfl⟩
        have hg := hgi (by rw [HYL.out]; exact htn)
        rw [hv] at hcv hg
        have hvb : -2000 ≤ v ∧ v ≤ 20000 := by
          have hm : v ∈ mgL xs := by
            rw [← hv, List.getElem?_eq_getElem (by rw [HYL.out]; exact htn), Option.getD_some]
            exact HPM.out.mem_iff.1 (List.getElem_mem _)
          obtain ⟨y, hy, rfl⟩ := List.mem_map.1 hm
          obtain ⟨j, hj, rfl⟩ := List.getElem_of_mem hy
          have := okC_mark rfl HOK.out hj (x := xs[j]) (by simp [hj])
          obtain ⟨⟨y0, y1, y2⟩, hye⟩ : ∃ y, xs[j] = y := ⟨_, rfl⟩
          rw [hye] at this ⊢
          exact (mrkB_bd this).2.2
        obtain ⟨v1, v2⟩ := hvb
        have htt : (t : Int) < (n : Int) := by omega
        have ht0 : (0 : Int) ≤ (t : Int) := by omega
        clear hgi hgo
        rw [hg] at hgap
        have HG := Lib.hid hgap
        clear hg hgap hv
        by_cases hmv : most < v - x2
        · have HS := Lib.hid (mgS_yes (xs := xs) (most := most) (k := i) (by rw [HG.out]; simpa using hmv))
          have HSL := Lib.hid (mgS_lens (xs := xs) (most := most) (k := i) (by rw [HG.out]; simpa using hmv))
          have hd : decide (most < v - x2) = true := by simpa using hmv
          go_wp2
          go_big_quiet (fail)
          have hbD : Below w5.heap.size w5 (w5.drewN nq) := belowDN (Below.refl _ _) _
          have hownq := ownKeepH hown5 hbD
          have hB6 := belowCall hB5 hbD
          clear hown5 k0 k1 k2 hcv
          generalize w5.drewN nq = w6 at hownq hB6 ⊢
          have hz6 := hB6.size
          go_wp2_with (at_builtin; refine wpList_append_own _ rfl _ _ 43 rfl w4.heap.size 2 i0 (.int .i64 0) 1 8 Try.underlying43 hi hz0 hz1 hz2 rfl (by decide) _ _ _ rfl (hownq.alloc _) ⟨w6.heap.size, 0, none⟩ 1 1 [.int .i64 (i : Int)] rfl rfl (cell_one_new _ _ _) (by intro u hu; simp at hu; subst hu; rfl) (by unfold maxLen; omega) (by omega) (by simp; omega) ?_; intro v7 w7 hown7 hg7 hnil7; have hB7 : Below w4.heap.size w4 w7 := (show Below w4.heap.size w4 (w6.alloc (.cells #[.int .i64 (i : Int)] 2)) by (repeat (first | assumption | exact Below.refl _ _ | refine belowDN ?_ _ | refine Below.drew ?_ | refine Below.setCell ?_ (by first | omega | (simp <;> omega)) _ | refine Below.alloc ?_ (by first | omega | (simp <;> omega)) _ | refine belowCall ?_ (by assumption)))).grown hg7 (by simp; omega) (fun j e => (hownq.lt j e).1); clear hg7 hnil7)
          have HO := Lib.hid hown7
          clear hown7 hownq
          go_wp2
          go_roundw
          case rel => exact ⟨i + 1, by omega, by go_num, by rw [HSL.out, HS.out]; exact HO.out, hB7⟩
          case measure => simp [Go.RowKit.intOf]; omega
        · have HS := Lib.hid (mgS_no (xs := xs) (most := most) (k := i) (by rw [HG.out]; simpa using hmv))
          have hd : decide (most < v - x2) = false := by simpa using hmv
          have HO := Lib.hid hown5
          go_wp2
          go_big_quiet (fail)
          go_wp2
          go_roundw
          case rel => exact ⟨i + 1, by omega, by go_num, by rw [HS.out]; exact ownKeepH HO.out (belowDN (Below.refl _ _) _), belowDN hB5 _⟩
          case measure => simp [Go.RowKit.intOf]; omega
      · have hg := hgo (by rw [HYL.out]; exact htn)
        have HS := Lib.hid (mgS_no (xs := xs) (most := most) (k := i) (by rw [hgap, hg]; simp; omega))
        have htt : ¬ (t : Int) < (n : Int) := by omega
        have hdt : decide ((t : Int) < (n : Int)) = false := by simpa using htt
        have HO := Lib.hid hown5
        clear hgi hgo hgap hg
        go_wp2
        go_big_quiet (fail)
        go_wp2
        go_roundw
        case rel => exact ⟨i + 1, by omega, by go_num, by rw [HS.out]; exact ownKeepH HO.out (belowDN (Below.refl _ _) _), belowDN hB5 _⟩
        case measure => simp [Go.RowKit.intOf]; omega
    · obtain rfl : n = i := by omega
      have HO := Lib.hid (ownLow hown hB24.size)
      clear hown
      go_wp2
      go_ret2
      exact ⟨by rw [HC.out.1, HC.out.2]; exact IntRes.own HO.out rfl, belowCall hB24 hB⟩
end Go.Proofs.Ytiogffjhhhpolab
