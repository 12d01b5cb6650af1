/- MagGaps in plain lists; the model's. -/
import Derived.Test.YtiogffjhhhpolabH6
import Derived.Test.YtiogffjhhhpolabH7
namespace Go.Proofs.Ytiogffjhhhpolab
open Go.ChangeShapes Go.WideShapes Go.ChangeAt Go.RowKit Go.Deep

/-- by how much the least number above m is greater, among the first k; -1 where there is none -/
def gnTo (ms : List Int) (m : Int) : Nat → Int
  | 0 => -1
  | k + 1 => if 0 < ms[k]?.getD 0 - m ∧ (gnTo ms m k < 0 ∨ ms[k]?.getD 0 - m < gnTo ms m k) then ms[k]?.getD 0 - m else gnTo ms m k
theorem gn_take {ms : List Int} {m d : Int} {k : Nat} (hd : ms[k]?.getD 0 - m = d) (h1 : 0 < d) (h2 : gnTo ms m k < 0 ∨ d < gnTo ms m k) : gnTo ms m (k + 1) = d := by rw [gnTo, hd, if_pos ⟨h1, h2⟩]
theorem gn_keep {ms : List Int} {m d : Int} {k : Nat} (hd : ms[k]?.getD 0 - m = d) (h : ¬ (0 < d ∧ (gnTo ms m k < 0 ∨ d < gnTo ms m k))) : gnTo ms m (k + 1) = gnTo ms m k := by rw [gnTo, hd, if_neg h]
theorem gn_is (ms : List Int) (m : Int) : ∀ k, (gnTo ms m k = -1 ∧ ∀ j, j < k → ms[j]?.getD 0 ≤ m) ∨ (0 < gnTo ms m k ∧ (∃ j, j < k ∧ ms[j]?.getD 0 - m = gnTo ms m k) ∧ ∀ j, j < k → m < ms[j]?.getD 0 → gnTo ms m k ≤ ms[j]?.getD 0 - m)
  | 0 => .inl ⟨rfl, fun j hj => absurd hj (by omega)⟩
  | k + 1 => by
    have ih := gn_is ms m k
    by_cases h : 0 < ms[k]?.getD 0 - m ∧ (gnTo ms m k < 0 ∨ ms[k]?.getD 0 - m < gnTo ms m k)
    · rw [gn_take rfl h.1 h.2]
      refine .inr ⟨h.1, ⟨k, by omega, rfl⟩, fun j hj hm => ?_⟩
      by_cases e : j = k
      · subst e; omega
      · rcases ih with ⟨h1, h2⟩ | ⟨h1, h2, h3⟩
        · have := h2 j (by omega); omega
        · have := h3 j (by omega) hm; omega
    · rw [gn_keep rfl h]
      rcases ih with ⟨h1, h2⟩ | ⟨h1, ⟨j0, h2, h2'⟩, h3⟩
      · refine .inl ⟨h1, fun j hj => ?_⟩
        by_cases e : j = k
        · subst e; omega
        · exact h2 j (by omega)
      · refine .inr ⟨h1, ⟨j0, by omega, h2'⟩, fun j hj hm => ?_⟩
        by_cases e : j = k
        · subst e; omega
        · exact h3 j (by omega) hm
theorem gn_bd {ms : List Int} {m : Int} (hm : -2000 ≤ m) (h : ∀ j : Nat, ms[j]?.getD 0 ≤ 20000) (k : Nat) : -1 ≤ gnTo ms m k ∧ gnTo ms m k ≤ 22000 := by
  rcases gn_is ms m k with ⟨h1, _⟩ | ⟨h1, ⟨j, _, h2⟩, _⟩
  · omega
  · have := h j; omega
def gapB (xs : List Mk) (most : Int) (i : Nat) : Bool := decide (most < gnTo (mgL xs) (xs[i]?.getD mk0).2.2 xs.length)
def mgS (xs : List Mk) (most : Int) (k : Nat) : List Int := ((List.range k).filter (gapB xs most)).map fun i : Nat => (i : Int)
theorem mgS_yes {xs : List Mk} {most : Int} {k : Nat} (h : gapB xs most k = true) : (mgS xs most (k + 1)).map (Value.int .i64) = (mgS xs most k).map (Value.int .i64) ++ [.int .i64 (k : Int)] := by
  unfold mgS
  rw [List.range_succ, List.filter_append, List.map_append, List.map_append]
  simp [h]
theorem mgS_no {xs : List Mk} {most : Int} {k : Nat} (h : gapB xs most k = false) : mgS xs most (k + 1) = mgS xs most k := by
  unfold mgS
  rw [List.range_succ, List.filter_append, List.map_append]
  simp [h]
theorem mgS_len (xs : List Mk) (most : Int) (k : Nat) : (mgS xs most k).length ≤ k := by
  unfold mgS
  rw [List.length_map]
  have := List.length_filter_le (gapB xs most) (List.range k)
  simpa using this
theorem mgS_lens {xs : List Mk} {most : Int} {k : Nat} (h : gapB xs most k = true) : (mgS xs most (k + 1)).length = (mgS xs most k).length + 1 := by
  have := congrArg List.length (mgS_yes h)
  simpa using this
def mgC (xs : List Mk) (most : Int) : Int := if okC xs then (if inB most 0 20000 then 0 else 2) else 1
def mgG (xs : List Mk) (most : Int) : List Int := if mgC xs most = 0 then mgS xs most xs.length else []
theorem mg_1 {xs : List Mk} {most : Int} (h : okC xs = false) : mgC xs most = 1 ∧ mgG xs most = [] := by simp [mgG, mgC, h]
theorem mg_2 {xs : List Mk} {most : Int} (h : okC xs = true) (h2 : inB most 0 20000 = false) : mgC xs most = 2 ∧ mgG xs most = [] := by simp [mgG, mgC, h, h2]
theorem mg_0 {xs : List Mk} {most : Int} {n : Nat} (hn : xs.length = n) (h : okC xs = true) (h2 : inB most 0 20000 = true) : mgC xs most = 0 ∧ mgG xs most = mgS xs most n := by simp [mgG, mgC, h, h2, hn]
theorem mgG_len (xs : List Mk) (most : Int) : (mgG xs most).length ≤ 1048576 := by
  unfold mgG
  split
  · rename_i h
    have hok : okC xs = true := by
      cases hh : okC xs
      · rw [(mg_1 hh).1] at h; omega
      · rfl
    have := (okC_at rfl hok).1
    have := mgS_len xs most xs.length
    omega
  · simp
theorem mag_le {xs : List Mk} (h : okC xs = true) (j : Nat) : (mgL xs)[j]?.getD 0 ≤ 20000 := by
  rw [mgL_at]
  by_cases hj : j < xs.length
  · have h1 := okC_mark rfl h hj rfl
    obtain ⟨⟨x0, x1, x2⟩, hx⟩ : ∃ x, xs[j]?.getD mk0 = x := ⟨_, rfl⟩
    rw [hx] at h1 ⊢
    exact (mrkB_bd h1).2.2.2
  · rw [List.getElem?_eq_none (by omega)]
    decide
set_option maxRecDepth 100000 in
set_option maxHeartbeats 8000000 in
theorem sGaps_any (a : Option Addr) (n c : Nat) (xs : List Mk) (most : Int) (w : World) (h : MkL w a n xs) (hn : n ≤ 1048576) :
    Calls Try.prog 28 #[.slice a n c, .int .i64 most] w fun e w' => IntRes w.heap.size (mgG xs most) (.int .i64 (mgC xs most)) w' e ∧ Below w.heap.size w w' := by
  obtain ⟨i0, hi, hz0, hz1, hz2⟩ := info_parts A_info
  have HL := Lib.hid h.1
  have hl : (n : Int) ≤ 1048576 := by omega
  cases hok : okC xs
  · have HC := Lib.hid (mg_1 (most := most) hok)
    go_enter Try.func28, Try.ntmps28
    go_wp2_with fail
    refine (l07Ok_any a n c xs w h hn).mono ?_
    rintro e w2 ⟨rfl, b2⟩
    rw [hok]
    go_wp2
    go_ret2
    exact ⟨by rw [HC.out.1, HC.out.2]; exact IntRes.nil _ _ _, b2⟩
  cases hmo : inB most 0 20000
  · have HC := Lib.hid (mg_2 hok hmo)
    go_enter Try.func28, Try.ntmps28
    go_wp2_with fail
    refine (l07Ok_any a n c xs w h hn).mono ?_
    rintro e w2 ⟨rfl, b2⟩
    rw [hok]
    go_wp2_with (go_at_call 79; refine (l00In_any _ _ _ _).mono ?_; rintro e w' ⟨rfl, rfl⟩)
    go_ret2
    exact ⟨by rw [HC.out.1, HC.out.2]; exact IntRes.nil _ _ _, b2⟩
  have HC := Lib.hid (mg_0 HL.out hok hmo)
  have HOK := Lib.hid hok
  have hn30 := (okC_at h.1 hok).1
  obtain ⟨mo1, mo2⟩ := inB_iff.1 hmo
  go_enter Try.func28, Try.ntmps28
  go_wp2_with fail
  refine (l07Ok_any a n c xs w h hn).mono ?_
  rintro e w2 ⟨rfl, b2⟩
  rw [hok]
  have h2 := h.mono b2
  clear hok
  go_wp2_with (go_at_call 79; refine (l00In_any _ _ _ _).mono ?_; rintro e w' ⟨rfl, rfl⟩)
  clear hmo
  go_loopw [6, 7, 8, 9, 10] (fun oo i _ _ _ wr => ∃ k : Nat, k ≤ n ∧ i = .int .i64 k ∧ wr.ownsRow w2.heap.size 2 1 oo (mgS xs most k).length ((mgS xs most k).map (Value.int .i64)) ∧ Below w2.heap.size w2 wr) (fun _ i _ _ _ _ => n - (Go.RowKit.intOf i).toNat)
  case atStart => exact ⟨0, Nat.zero_le _, rfl, by exact World.ownsRow_lit w2 #[] 0 (Nat.le_refl _) (by unfold maxLen; omega) rfl, by (repeat (first | assumption | exact Below.refl _ _ | refine belowDN ?_ _ | refine Below.drew ?_ | refine Below.setCell ?_ (by first | omega | (simp <;> omega)) _ | refine Below.alloc ?_ (by first | omega | (simp <;> omega)) _ | refine belowCall ?_ (by assumption)))⟩
  case round =>
    obtain ⟨i, hin, rfl, hown, hB⟩ := hrel
    by_cases hlt : i < n
    · obtain ⟨b1, o1, rfl, hc⟩ := h2.2 i hlt
      obtain ⟨⟨x0, x1, x2⟩, hx⟩ : ∃ x, xs[i]?.getD mk0 = x := ⟨_, rfl⟩
      obtain ⟨-, -, mx1, mx2⟩ := mrkB_bd (by rw [← hx]; exact okC_mark HL.out HOK.out hlt rfl)
      rw [hx] at hc
      have HX := Lib.hid hx
      have hbdd := gn_bd mx1 (mag_le HOK.out)
      have HBD := Lib.hid hbdd
      have HOWN := Lib.hid hown
      have hii : (i : Int) < (n : Int) := by omega
      have hi0 : (0 : Int) ≤ (i : Int) := by omega
      have hzr := hB.size
      clear hx hbdd hown
      obtain ⟨wA, hwA⟩ : ∃ x, x = wr := ⟨_, rfl⟩
      subst hwA
      go_wp2
      go_loopw [8, 9, 10] (fun nx kk _ wi => ∃ j q : Nat, j ≤ n ∧ kk = .int .i64 j ∧ nx = .int .i64 (gnTo (mgL xs) x2 j) ∧ wi = wA.drewN q) (fun _ kk _ _ => n - (Go.RowKit.intOf kk).toNat)
      case atStart => exact ⟨0, 0, Nat.zero_le _, rfl, rfl, rfl⟩
      case round =>
        obtain ⟨j, q, hjn, rfl, rfl, hwi⟩ := hrel
        have hB2 : Below wA.heap.size wA wr := by rw [hwi]; exact belowDN (Below.refl _ _) _
        have HW := Lib.hid hwi
        clear hwi
        obtain ⟨nx, hnx⟩ : ∃ x, gnTo (mgL xs) x2 j = x := ⟨_, rfl⟩
        have HBJ := HBD.out j
        rw [hnx] at HBJ
        obtain ⟨nb1, nb2⟩ := HBJ
        by_cases hj : j < n
        · obtain ⟨b1', o1', he, hc'⟩ := h2.2 j hj
          cases he
          obtain ⟨⟨y0, y1, y2⟩, hy⟩ : ∃ x, xs[j]?.getD mk0 = x := ⟨_, rfl⟩
          obtain ⟨-, -, my1, my2⟩ := mrkB_bd (by rw [← hy]; exact okC_mark HL.out HOK.out hj rfl)
          rw [hy] at hc'
          have HMD : Hid ((mgL xs)[j]?.getD 0 - x2 = y2 - x2) := Lib.hid (by rw [mgL_at, hy])
          obtain ⟨-, p0, p1, p2⟩ := ((hc.mono hB).mono hB2).parts
          obtain ⟨-, r0, r1, r2⟩ := ((hc'.mono hB).mono hB2).parts
          have hjj : (j : Int) < (n : Int) := by omega
          have hj0 : (0 : Int) ≤ (j : Int) := by omega
          by_cases d1 : 0 < y2 - x2
          · by_cases d2 : nx < 0
            · have HT := Lib.hid (gn_take HMD.out d1 (.inl (by rw [hnx]; exact d2)))
              rw [hnx]
              clear hnx hy
              go_wp2
              go_big_quiet (fail)
              go_wp2
              go_roundw
              case rel => exact ⟨j + 1, _, by omega, by go_num, by rw [HT.out], by rw [HW.out]; exact World.drewN_drewN _ _ _⟩
              case measure => simp [Go.RowKit.intOf]; omega
            · by_cases d3 : y2 - x2 < nx
              · have HT := Lib.hid (gn_take HMD.out d1 (.inr (by rw [hnx]; exact d3)))
                rw [hnx]
                clear hnx hy
                go_wp2
                go_big_quiet (fail)
                go_wp2
                go_roundw
                case rel => exact ⟨j + 1, _, by omega, by go_num, by rw [HT.out], by rw [HW.out]; exact World.drewN_drewN _ _ _⟩
                case measure => simp [Go.RowKit.intOf]; omega
              · have HT := Lib.hid (gn_keep HMD.out (by rw [hnx]; omega))
                rw [hnx] at HT
                rw [hnx]
                clear hnx hy
                go_wp2
                go_big_quiet (fail)
                go_wp2
                go_roundw
                case rel => exact ⟨j + 1, _, by omega, by go_num, by rw [HT.out], by rw [HW.out]; exact World.drewN_drewN _ _ _⟩
                case measure => simp [Go.RowKit.intOf]; omega
          · have HT := Lib.hid (gn_keep HMD.out (by omega))
            rw [hnx] at HT
            rw [hnx]
            clear hnx hy
            go_wp2
            go_big_quiet (fail)
            go_wp2
            go_roundw
            case rel => exact ⟨j + 1, _, by omega, by go_num, by rw [HT.out], by rw [HW.out]; exact World.drewN_drewN _ _ _⟩
            case measure => simp [Go.RowKit.intOf]; omega
        · obtain rfl : n = j := by omega
          rw [hnx]
          have hownq := ownKeepH HOWN.out hB2
          have hLk := mgS_len xs most i
          have hBq := belowCall hB hB2
          have hzq := hBq.size
          by_cases hg : most < nx
          · have hgb : gapB xs most i = true := by unfold gapB; rw [HX.out, HL.out]; simp only [decide_eq_true_eq]; rw [hnx]; exact hg
            have HS := Lib.hid (mgS_yes hgb)
            have HSL := Lib.hid (mgS_lens hgb)
            clear hgb hnx
            go_wp2_with (at_builtin; refine wpList_append_own _ rfl _ _ 43 rfl w2.heap.size 2 i0 (.int .i64 0) 1 8 Try.underlying43 hi hz0 hz1 hz2 rfl (by decide) _ _ _ rfl (hownq.alloc _) ⟨wr.heap.size, 0, none⟩ 1 1 [.int .i64 (i : Int)] rfl rfl (cell_one_new _ _ _) (by intro u hu; simp at hu; subst hu; rfl) (by unfold maxLen; omega) (by omega) (by simp; omega) ?_; intro v7 w7 hown7 hg7 hnil7; have hB7 : Below w2.heap.size w2 w7 := (show Below w2.heap.size w2 (wr.alloc (.cells #[.int .i64 (i : Int)] 2)) by (repeat (first | assumption | exact Below.refl _ _ | refine belowDN ?_ _ | refine Below.drew ?_ | refine Below.setCell ?_ (by first | omega | (simp <;> omega)) _ | refine Below.alloc ?_ (by first | omega | (simp <;> omega)) _ | refine belowCall ?_ (by assumption)))).grown hg7 (by simp; omega) (fun j e => (hownq.lt j e).1); clear hg7 hnil7)
            have HO := Lib.hid hown7
            clear hown7 hownq
            go_wp2
            go_roundw
            case rel => exact ⟨i + 1, by omega, by go_num, by rw [HSL.out, HS.out]; exact HO.out, hB7⟩
            case measure => simp [Go.RowKit.intOf]; omega
          · have hgb : gapB xs most i = false := by unfold gapB; rw [HX.out, HL.out]; simp only [decide_eq_false_iff_not]; rw [hnx]; exact hg
            have HS := Lib.hid (mgS_no hgb)
            have HO := Lib.hid hownq
            clear hgb hnx hownq
            go_wp2
            go_roundw
            case rel => exact ⟨i + 1, by omega, by go_num, by rw [HS.out]; exact HO.out, hBq⟩
            case measure => simp [Go.RowKit.intOf]; omega
    · obtain rfl : n = i := by omega
      have HO := Lib.hid (ownLow hown b2.size)
      clear hown
      go_wp2
      go_ret2
      exact ⟨by rw [HC.out.1, HC.out.2]; exact IntRes.own HO.out rfl, belowCall b2 hB⟩
end Go.Proofs.Ytiogffjhhhpolab
