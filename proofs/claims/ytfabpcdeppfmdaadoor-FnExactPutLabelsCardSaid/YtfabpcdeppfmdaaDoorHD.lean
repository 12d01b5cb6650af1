/- LabelClashes, the program's: a row of boxes; the pairs of them that overlap. -/
import Derived.Test.YtfabpcdeppfmdaaDoorHC
import Derived.Test.YtfabpcdeppfmdaaDoorHM
import Derived.Test.YtfabpcdeppfmdaaDoorGBq2
namespace Go.Proofs.YtfabpcdeppfmdaaDoor
open Go.ChangeShapes Go.WideShapes Go.ChangeAt Go.RowKit Go.Deep

/-- the labels' boxes -/
def bxL (xs : List Mk) (ss : List Int) (n : Nat) : List Bq := (List.range n).map fun i => bxQ (xs[i]?.getD mk0) (ss[i]?.getD 0)
theorem bxL_len (xs : List Mk) (ss : List Int) (n : Nat) : (bxL xs ss n).length = n := by simp [bxL]
theorem bxL_at {xs : List Mk} {ss : List Int} {n i : Nat} (hi : i < n) : (bxL xs ss n)[i]?.getD bq0 = bxQ (xs[i]?.getD mk0) (ss[i]?.getD 0) := by simp [bxL, hi]
theorem prP_congr {p q : Nat → Nat → Bool} {n : Nat} (h : ∀ i j, i < n → j < n → p i j = q i j) : prP p n n = prP q n n := by
  have e : (List.range n).map (fun i' => prR p i' n) = (List.range n).map (fun i' => prR q i' n) := List.map_congr_left fun i hi => by
    have hi' := List.mem_range.1 hi
    unfold prR
    refine congrArg _ (List.filter_congr fun j hj => ?_)
    rw [h i j hi' (List.mem_range.1 hj)]
  unfold prP
  rw [List.flatMap_def, List.flatMap_def, e]
set_option maxHeartbeats 2000000 in
theorem overlaps_any (a0 a1 a2 a3 b0 b1 b2 b3 : Int) (w : World) :
    Calls Tryd.prog 48 #[.agg #[.int .i64 a0, .int .i64 a1, .int .i64 a2, .int .i64 a3], .agg #[.int .i64 b0, .int .i64 b1, .int .i64 b2, .int .i64 b3]] w fun e w' => e = .returned (.bool (ovB (a0, a1, a2, a3) (b0, b1, b2, b3))) ∧ Below w.heap.size w w' := by
  cases c0 : decide (a0 < b2)
  · have HV : Hid (ovB (a0, a1, a2, a3) (b0, b1, b2, b3) = false) := Lib.hid (by simp only [ovB, c0, Bool.false_and])
    (go_enter Tryd.func48, Tryd.ntmps48; go_wp2; go_ret; exact ⟨by rw [HV.out]; rfl, by (repeat (first | assumption | exact Below.refl _ _ | refine belowDN ?_ _ | refine Below.drew ?_ | refine Below.setCell ?_ (by first | omega | (simp <;> omega)) _ | refine Below.alloc ?_ (by first | omega | (simp <;> omega)) _ | refine belowCall ?_ (by assumption)))⟩)
  cases c1 : decide (b0 < a2)
  · have HV : Hid (ovB (a0, a1, a2, a3) (b0, b1, b2, b3) = false) := Lib.hid (by simp only [ovB, c0, c1, Bool.false_and, Bool.and_false])
    (go_enter Tryd.func48, Tryd.ntmps48; go_wp2; go_ret; exact ⟨by rw [HV.out]; rfl, by (repeat (first | assumption | exact Below.refl _ _ | refine belowDN ?_ _ | refine Below.drew ?_ | refine Below.setCell ?_ (by first | omega | (simp <;> omega)) _ | refine Below.alloc ?_ (by first | omega | (simp <;> omega)) _ | refine belowCall ?_ (by assumption)))⟩)
  cases c2 : decide (a1 < b3)
  · have HV : Hid (ovB (a0, a1, a2, a3) (b0, b1, b2, b3) = false) := Lib.hid (by simp only [ovB, c0, c1, c2, Bool.false_and, Bool.and_false])
    (go_enter Tryd.func48, Tryd.ntmps48; go_wp2; go_ret; exact ⟨by rw [HV.out]; rfl, by (repeat (first | assumption | exact Below.refl _ _ | refine belowDN ?_ _ | refine Below.drew ?_ | refine Below.setCell ?_ (by first | omega | (simp <;> omega)) _ | refine Below.alloc ?_ (by first | omega | (simp <;> omega)) _ | refine belowCall ?_ (by assumption)))⟩)
  cases c3 : decide (b1 < a3)
  · have HV : Hid (ovB (a0, a1, a2, a3) (b0, b1, b2, b3) = false) := Lib.hid (by simp only [ovB, c0, c1, c2, c3, Bool.and_false])
    (go_enter Tryd.func48, Tryd.ntmps48; go_wp2; go_ret; exact ⟨by rw [HV.out]; rfl, by (repeat (first | assumption | exact Below.refl _ _ | refine belowDN ?_ _ | refine Below.drew ?_ | refine Below.setCell ?_ (by first | omega | (simp <;> omega)) _ | refine Below.alloc ?_ (by first | omega | (simp <;> omega)) _ | refine belowCall ?_ (by assumption)))⟩)
  · have HV : Hid (ovB (a0, a1, a2, a3) (b0, b1, b2, b3) = true) := Lib.hid (by simp only [ovB, c0, c1, c2, c3, Bool.and_self])
    (go_enter Tryd.func48, Tryd.ntmps48; go_wp2; go_ret; exact ⟨by rw [HV.out]; rfl, by (repeat (first | assumption | exact Below.refl _ _ | refine belowDN ?_ _ | refine Below.drew ?_ | refine Below.setCell ?_ (by first | omega | (simp <;> omega)) _ | refine Below.alloc ?_ (by first | omega | (simp <;> omega)) _ | refine belowCall ?_ (by assumption)))⟩)
set_option maxRecDepth 100000 in
set_option maxHeartbeats 8000000 in
theorem thatB_any (a : Option Addr) (n c : Nat) (ys : List Bq) (w2 : World) (h2 : BqL w2 a n ys) (hn30 : n ≤ 30) :
    Calls Tryd.prog 47 #[.slice a n c, .func (.func 48) #[] #[]] w2 fun e w' => ∃ v, e = .returned v ∧ QqB w2.heap.size 26 w' v (prP (fun i j => ovB (ys[i]?.getD bq0) (ys[j]?.getD bq0)) n n) ∧ Below w2.heap.size w2 w' := by
  have hl : (n : Int) ≤ 1048576 := by omega
  obtain ⟨iq, hiq, hzq0, hzq1, hzq2⟩ := info_parts QJ_info
  obtain ⟨P, hP⟩ : ∃ p : Nat → Nat → Bool, (fun i j => ovB (ys[i]?.getD bq0) (ys[j]?.getD bq0)) = p := ⟨_, rfl⟩
  have HPP : Hid (∀ i j, P i j = ovB (ys[i]?.getD bq0) (ys[j]?.getD bq0)) := Lib.hid (fun i j => by rw [← hP])
  rw [hP]
  clear hP
  go_enter Tryd.func47, Tryd.ntmps47
  go_wp2
  go_loopw [5, 10] (fun oo i wr => ∃ k : Nat, k ≤ n ∧ i = .int .i64 k ∧ QqB w2.heap.size 26 wr oo (prP P n k) ∧ Below w2.heap.size w2 wr) (fun _ i _ => n - (Go.RowKit.intOf i).toNat)
  case atStart => exact ⟨0, Nat.zero_le _, rfl, QqB.nil _ _ _, Below.refl _ _⟩
  case round =>
    obtain ⟨i, hin, rfl, hQ, hB⟩ := hrel
    by_cases hlt : i < n
    · obtain ⟨b1, o1, rfl, hc⟩ := h2.2 i hlt
      obtain ⟨⟨x0, x1, x2, x3⟩, hx⟩ : ∃ x, ys[i]?.getD bq0 = x := ⟨_, rfl⟩
      rw [hx] at hc
      have HX := Lib.hid hx
      clear hx
      have hii : (i : Int) < (n : Int) := by omega
      have hi0 : (0 : Int) ≤ (i : Int) := by omega
      have e0 : prP P n i = prP P n i ++ prR P i (i + 1) := by rw [prR_none (Nat.le_refl _), List.append_nil]
      have hQ0 := hQ
      rw [e0] at hQ0
      clear hQ e0
      go_wp2
      go_loopw [5, 7] (fun oo k wi => ∃ j : Nat, i < j ∧ j ≤ n ∧ k = .int .i64 j ∧ QqB w2.heap.size 26 wi oo (prP P n i ++ prR P i j) ∧ Below w2.heap.size w2 wi) (fun _ k _ => n - (Go.RowKit.intOf k).toNat)
      case atStart => exact ⟨i + 1, by omega, by omega, by go_num, hQ0, hB⟩
      case round =>
        obtain ⟨j, hij, hjn, rfl, hQj, hBi⟩ := hrel
        clear hQ0 hB
        by_cases hj : j < n
        · obtain ⟨b1', o1', he, hc'⟩ := h2.2 j hj
          cases he
          obtain ⟨⟨y0, y1, y2, y3⟩, hy⟩ : ∃ x, ys[j]?.getD bq0 = x := ⟨_, rfl⟩
          rw [hy] at hc'
          have HY := Lib.hid hy
          clear hy
          have hjj : (j : Int) < (n : Int) := by omega
          have hj0 : (0 : Int) ≤ (j : Int) := by omega
          have hcl := prP_len P n i
          have hcr := prR_len P i j
          have hml : i * n ≤ 30 * 30 := Nat.mul_le_mul (by omega) hn30
          obtain ⟨L, hLe⟩ : ∃ L, prP P n i ++ prR P i j = L := ⟨_, rfl⟩
          have hLl : L.length ≤ 2000 := by rw [← hLe, List.length_append]; omega
          rw [hLe] at hQj
          have HLE := Lib.hid hLe
          clear hLe hcl hcr hml
          obtain ⟨hb1, p0, p1, p2, p3⟩ := (hc.mono hBi).parts
          obtain ⟨-, r0, r1, r2, r3⟩ := (hc'.mono hBi).parts
          have hbl := hBi.size
          have hcp : P i j = ovB (x0, x1, x2, x3) (y0, y1, y2, y3) := by rw [HPP.out, HX.out, HY.out]
          cases hov : ovB (x0, x1, x2, x3) (y0, y1, y2, y3)
          · have HS := Lib.hid (prR_no (p := P) (i := i) (k := j) (by rw [hcp]; exact hov))
            have HQ := Lib.hid hQj
            clear hQj hcp
            go_wp2
            go_region_held3 (fun W' => W'.cell? ⟨b1, o1 + i * 4, none⟩ = some (.int .i64 x0) ∧ W'.cell? ⟨b1, o1 + i * 4 + 1, none⟩ = some (.int .i64 x1) ∧ W'.cell? ⟨b1, o1 + i * 4 + 2, none⟩ = some (.int .i64 x2) ∧ W'.cell? ⟨b1, o1 + i * 4 + 3, none⟩ = some (.int .i64 x3) ∧ W'.cell? ⟨b1, o1 + j * 4, none⟩ = some (.int .i64 y0) ∧ W'.cell? ⟨b1, o1 + j * 4 + 1, none⟩ = some (.int .i64 y1) ∧ W'.cell? ⟨b1, o1 + j * 4 + 2, none⟩ = some (.int .i64 y2) ∧ W'.cell? ⟨b1, o1 + j * 4 + 3, none⟩ = some (.int .i64 y3)) (refine ⟨?_, ?_, ?_, ?_, ?_, ?_, ?_, ?_⟩ <;> first | assumption | exact ((show Below wr.heap.size wr _ by (repeat (first | assumption | exact Below.refl _ _ | refine belowDN ?_ _ | refine Below.drew ?_ | refine Below.setCell ?_ (by first | omega | (simp <;> omega)) _ | refine Below.alloc ?_ (by first | omega | (simp <;> omega)) _ | refine belowCall ?_ (by assumption)))).cell (p := ⟨b1, o1 + i * 4, none⟩) hb1).trans p0 | exact ((show Below wr.heap.size wr _ by (repeat (first | assumption | exact Below.refl _ _ | refine belowDN ?_ _ | refine Below.drew ?_ | refine Below.setCell ?_ (by first | omega | (simp <;> omega)) _ | refine Below.alloc ?_ (by first | omega | (simp <;> omega)) _ | refine belowCall ?_ (by assumption)))).cell (p := ⟨b1, o1 + i * 4 + 1, none⟩) hb1).trans p1 | exact ((show Below wr.heap.size wr _ by (repeat (first | assumption | exact Below.refl _ _ | refine belowDN ?_ _ | refine Below.drew ?_ | refine Below.setCell ?_ (by first | omega | (simp <;> omega)) _ | refine Below.alloc ?_ (by first | omega | (simp <;> omega)) _ | refine belowCall ?_ (by assumption)))).cell (p := ⟨b1, o1 + i * 4 + 2, none⟩) hb1).trans p2 | exact ((show Below wr.heap.size wr _ by (repeat (first | assumption | exact Below.refl _ _ | refine belowDN ?_ _ | refine Below.drew ?_ | refine Below.setCell ?_ (by first | omega | (simp <;> omega)) _ | refine Below.alloc ?_ (by first | omega | (simp <;> omega)) _ | refine belowCall ?_ (by assumption)))).cell (p := ⟨b1, o1 + i * 4 + 3, none⟩) hb1).trans p3 | exact ((show Below wr.heap.size wr _ by (repeat (first | assumption | exact Below.refl _ _ | refine belowDN ?_ _ | refine Below.drew ?_ | refine Below.setCell ?_ (by first | omega | (simp <;> omega)) _ | refine Below.alloc ?_ (by first | omega | (simp <;> omega)) _ | refine belowCall ?_ (by assumption)))).cell (p := ⟨b1, o1 + j * 4, none⟩) hb1).trans r0 | exact ((show Below wr.heap.size wr _ by (repeat (first | assumption | exact Below.refl _ _ | refine belowDN ?_ _ | refine Below.drew ?_ | refine Below.setCell ?_ (by first | omega | (simp <;> omega)) _ | refine Below.alloc ?_ (by first | omega | (simp <;> omega)) _ | refine belowCall ?_ (by assumption)))).cell (p := ⟨b1, o1 + j * 4 + 1, none⟩) hb1).trans r1 | exact ((show Below wr.heap.size wr _ by (repeat (first | assumption | exact Below.refl _ _ | refine belowDN ?_ _ | refine Below.drew ?_ | refine Below.setCell ?_ (by first | omega | (simp <;> omega)) _ | refine Below.alloc ?_ (by first | omega | (simp <;> omega)) _ | refine belowCall ?_ (by assumption)))).cell (p := ⟨b1, o1 + j * 4 + 2, none⟩) hb1).trans r2 | exact ((show Below wr.heap.size wr _ by (repeat (first | assumption | exact Below.refl _ _ | refine belowDN ?_ _ | refine Below.drew ?_ | refine Below.setCell ?_ (by first | omega | (simp <;> omega)) _ | refine Below.alloc ?_ (by first | omega | (simp <;> omega)) _ | refine belowCall ?_ (by assumption)))).cell (p := ⟨b1, o1 + j * 4 + 3, none⟩) hb1).trans r3) (first | (go_at_call 48; refine (overlaps_any x0 x1 x2 x3 y0 y1 y2 y3 _).mono ?_; rintro e wM ⟨rfl, bM⟩; rw [hov]; have hbD : Below wr.heap.size wr wM := (by (repeat (first | assumption | exact Below.refl _ _ | refine belowDN ?_ _ | refine Below.drew ?_ | refine Below.setCell ?_ (by first | omega | (simp <;> omega)) _ | refine Below.alloc ?_ (by first | omega | (simp <;> omega)) _ | refine belowCall ?_ (by assumption))))))
            all_goals
              have HF := Lib.hid (HQ.out.below hbD)
              have hBM := belowCall hBi hbD
              clear bM
              go_wp2
              go_roundw
              case rel => exact ⟨j + 1, by omega, by omega, by go_num, by rw [HS.out, HLE.out]; exact HF.out, hBM⟩
              case measure => simp [Go.RowKit.intOf]; omega
          · have HS := Lib.hid (prR_yes (p := P) hij (by rw [hcp]; exact hov))
            obtain ⟨bs, hq1, hq2, hq3⟩ := hQj
            clear hcp
            go_wp2
            go_region_held3 (fun W' => W'.cell? ⟨b1, o1 + i * 4, none⟩ = some (.int .i64 x0) ∧ W'.cell? ⟨b1, o1 + i * 4 + 1, none⟩ = some (.int .i64 x1) ∧ W'.cell? ⟨b1, o1 + i * 4 + 2, none⟩ = some (.int .i64 x2) ∧ W'.cell? ⟨b1, o1 + i * 4 + 3, none⟩ = some (.int .i64 x3) ∧ W'.cell? ⟨b1, o1 + j * 4, none⟩ = some (.int .i64 y0) ∧ W'.cell? ⟨b1, o1 + j * 4 + 1, none⟩ = some (.int .i64 y1) ∧ W'.cell? ⟨b1, o1 + j * 4 + 2, none⟩ = some (.int .i64 y2) ∧ W'.cell? ⟨b1, o1 + j * 4 + 3, none⟩ = some (.int .i64 y3)) (refine ⟨?_, ?_, ?_, ?_, ?_, ?_, ?_, ?_⟩ <;> first | assumption | exact ((show Below wr.heap.size wr _ by (repeat (first | assumption | exact Below.refl _ _ | refine belowDN ?_ _ | refine Below.drew ?_ | refine Below.setCell ?_ (by first | omega | (simp <;> omega)) _ | refine Below.alloc ?_ (by first | omega | (simp <;> omega)) _ | refine belowCall ?_ (by assumption)))).cell (p := ⟨b1, o1 + i * 4, none⟩) hb1).trans p0 | exact ((show Below wr.heap.size wr _ by (repeat (first | assumption | exact Below.refl _ _ | refine belowDN ?_ _ | refine Below.drew ?_ | refine Below.setCell ?_ (by first | omega | (simp <;> omega)) _ | refine Below.alloc ?_ (by first | omega | (simp <;> omega)) _ | refine belowCall ?_ (by assumption)))).cell (p := ⟨b1, o1 + i * 4 + 1, none⟩) hb1).trans p1 | exact ((show Below wr.heap.size wr _ by (repeat (first | assumption | exact Below.refl _ _ | refine belowDN ?_ _ | refine Below.drew ?_ | refine Below.setCell ?_ (by first | omega | (simp <;> omega)) _ | refine Below.alloc ?_ (by first | omega | (simp <;> omega)) _ | refine belowCall ?_ (by assumption)))).cell (p := ⟨b1, o1 + i * 4 + 2, none⟩) hb1).trans p2 | exact ((show Below wr.heap.size wr _ by (repeat (first | assumption | exact Below.refl _ _ | refine belowDN ?_ _ | refine Below.drew ?_ | refine Below.setCell ?_ (by first | omega | (simp <;> omega)) _ | refine Below.alloc ?_ (by first | omega | (simp <;> omega)) _ | refine belowCall ?_ (by assumption)))).cell (p := ⟨b1, o1 + i * 4 + 3, none⟩) hb1).trans p3 | exact ((show Below wr.heap.size wr _ by (repeat (first | assumption | exact Below.refl _ _ | refine belowDN ?_ _ | refine Below.drew ?_ | refine Below.setCell ?_ (by first | omega | (simp <;> omega)) _ | refine Below.alloc ?_ (by first | omega | (simp <;> omega)) _ | refine belowCall ?_ (by assumption)))).cell (p := ⟨b1, o1 + j * 4, none⟩) hb1).trans r0 | exact ((show Below wr.heap.size wr _ by (repeat (first | assumption | exact Below.refl _ _ | refine belowDN ?_ _ | refine Below.drew ?_ | refine Below.setCell ?_ (by first | omega | (simp <;> omega)) _ | refine Below.alloc ?_ (by first | omega | (simp <;> omega)) _ | refine belowCall ?_ (by assumption)))).cell (p := ⟨b1, o1 + j * 4 + 1, none⟩) hb1).trans r1 | exact ((show Below wr.heap.size wr _ by (repeat (first | assumption | exact Below.refl _ _ | refine belowDN ?_ _ | refine Below.drew ?_ | refine Below.setCell ?_ (by first | omega | (simp <;> omega)) _ | refine Below.alloc ?_ (by first | omega | (simp <;> omega)) _ | refine belowCall ?_ (by assumption)))).cell (p := ⟨b1, o1 + j * 4 + 2, none⟩) hb1).trans r2 | exact ((show Below wr.heap.size wr _ by (repeat (first | assumption | exact Below.refl _ _ | refine belowDN ?_ _ | refine Below.drew ?_ | refine Below.setCell ?_ (by first | omega | (simp <;> omega)) _ | refine Below.alloc ?_ (by first | omega | (simp <;> omega)) _ | refine belowCall ?_ (by assumption)))).cell (p := ⟨b1, o1 + j * 4 + 3, none⟩) hb1).trans r3) (first | (go_at_call 48; refine (overlaps_any x0 x1 x2 x3 y0 y1 y2 y3 _).mono ?_; rintro e wM ⟨rfl, bM⟩; rw [hov]; have hbD : Below wr.heap.size wr wM := (by (repeat (first | assumption | exact Below.refl _ _ | refine belowDN ?_ _ | refine Below.drew ?_ | refine Below.setCell ?_ (by first | omega | (simp <;> omega)) _ | refine Below.alloc ?_ (by first | omega | (simp <;> omega)) _ | refine belowCall ?_ (by assumption))))))
            all_goals
              obtain ⟨hrA, hcA, hbA', hszA⟩ := two_newsP wM (i : Int) (j : Int) 2 26 rfl
              have hzD := hbD.size
              have hbA := belowCall hbD hbA'
              have hBA := belowCall hBi hbA
              clear bM
              go_wp2_with (at_builtin; refine wpList_append_own_at _ rfl _ _ 31 rfl w2.heap.size 26 iq _ 1 24 Tryd.underlying31 hiq hzq0 hzq1 hzq2 rfl (by decide) _ _ _ rfl (ownKeepQ hq1 hbA) ⟨wM.heap.size + 1, 0, none⟩ 1 1 [.slice (some ⟨wM.heap.size, 0, none⟩) 2 2] rfl rfl hcA (by intro u hu; simp at hu; subst hu; rfl) (by unfold maxLen; omega) (by omega) (by rw [hszA]; omega) ?_; intro v7 w7 hown7 hg7 hnil7 hl7)
              have hQ' := QqB.snoc hq1 hq2 hq3 hbA hrA (by omega) (by omega) hown7 hg7 hl7
              have hB7 : Below w2.heap.size w2 w7 := hBA.grown hg7 hBA.size (fun r e => (hq1.lt r e).1)
              have HQ := Lib.hid hQ'
              clear hQ' hown7 hg7 hl7 hnil7 hq1 hq2 hq3
              go_wp2
              go_roundw
              case rel => exact ⟨j + 1, by omega, by omega, by go_num, by rw [HS.out, ← List.append_assoc, HLE.out]; exact HQ.out, hB7⟩
              case measure => simp [Go.RowKit.intOf]; omega
        · obtain rfl : n = j := by omega
          rw [← prP_step] at hQj
          have HQ := Lib.hid hQj
          clear hQj
          go_wp2
          go_roundw
          case rel => exact ⟨i + 1, by omega, by go_num, HQ.out, hBi⟩
          case measure => simp [Go.RowKit.intOf]; omega
    · obtain rfl : n = i := by omega
      go_wp2
      go_ret
      exact ⟨_, rfl, hQ, hB⟩
set_option maxRecDepth 100000 in
set_option maxHeartbeats 8000000 in
theorem iClash_any (a b : Option Addr) (n c m c' : Nat) (xs : List Mk) (ss : List Int) (w : World) (h : MkL w a n xs) (hs : Lst w b m ss) (hn : n ≤ 1048576) (hm : m ≤ 1048576) (hcap : n ≤ c) (hp : Pow w) (hw : Ways w) :
    Calls Tryd.prog 13 #[.slice a n c, .slice b m c'] w fun e w' => QqRes w.heap.size (clL xs ss) (.int .i64 (clC xs ss)) w' e ∧ Below w.heap.size w w' := by
  have HL := Lib.hid h.1
  have HM := Lib.hid hs.1
  have hl : (n : Int) ≤ 1048576 := by omega
  have hl2 : (m : Int) ≤ 1048576 := by omega
  obtain ⟨i0, hi, hz0, hz1, hz2⟩ := info_parts Bq_info
  cases hok : okC xs
  · have HC := Lib.hid (cl_1 (ss := ss) hok)
    go_enter Tryd.func13, Tryd.ntmps13
    go_wp2_with fail
    (refine (iValidC_any a n c xs w h hn hcap).mono ?_; rintro e w2 ⟨rfl, b2⟩; rw [hok])
    go_wp2
    go_ret2
    exact ⟨by rw [HC.out.1, HC.out.2]; exact QqRes.nil _ _ _, b2⟩
  by_cases hmn : m = n
  rotate_left
  · have HC := Lib.hid (cl_2 HL.out hok (sd_len (ss := ss) (by rw [HM.out]; exact hmn)))
    have hd : ((m : Int) != (n : Int)) = true := by simp; omega
    clear hmn
    go_enter Tryd.func13, Tryd.ntmps13
    go_wp2_with fail
    (refine (iValidC_any a n c xs w h hn hcap).mono ?_; rintro e w2 ⟨rfl, b2⟩; rw [hok])
    go_wp2
    go_ret2
    exact ⟨by rw [HC.out.1, HC.out.2]; exact QqRes.nil _ _ _, b2⟩
  have hd : ((m : Int) != (n : Int)) = false := by simp; omega
  have HMN := Lib.hid hmn
  have hn30 := (okC_at h.1 hok).1
  have HOK := Lib.hid hok
  go_enter Tryd.func13, Tryd.ntmps13
  go_wp2_with fail
  (refine (iValidC_any a n c xs w h hn hcap).mono ?_; rintro e w2 ⟨rfl, b2⟩; rw [hok])
  have h2 := h.mono b2
  have hs2 := hs.mono b2
  have hp2 := hp.mono b2
  have hw2 := hw.mono b2
  clear hok hmn hp hw
  have hb : n ≤ maxLen := by unfold maxLen; omega
  go_wp2_with (at_make; refine wpList_make_full _ rfl _ _ 68 rfl w2.heap.size 70 i0 _ 4 Tryd.underlying68 hi hz0 hz1 .i64 .i64 n n n rfl rfl rfl rfl (by rw [hz2]; omega) hb (Nat.le_refl _) ?_; intro w1 hown hgrow)
  have hrow := (rowM hown).congr (fun j hj => made_colBq n j hj (bxL xs ss n))
  have hB1 : Below w2.heap.size w2 w1 := (Below.refl _ _).grown hgrow (Nat.le_refl _) (fun k hk => by cases hk)
  clear hown hgrow
  go_loopw [22] (fun i wr => ∃ k : Nat, k ≤ n ∧ i = .int .i64 k ∧ (∀ j, j < k → inB (ss[j]?.getD 0) 0 3 = true) ∧ wr.rowIs w2.heap.size 70 (n * 4) (colBq (bxL xs ss n) k) ∧ Below w2.heap.size w2 wr) (fun i _ => n - (Go.RowKit.intOf i).toNat)
  case atStart => exact ⟨0, Nat.zero_le _, rfl, fun j hj => absurd hj (by omega), hrow, hB1⟩
  case round =>
    obtain ⟨k, hk, rfl, hall, hr, hB⟩ := hrel
    clear hrow hB1
    have HALL := Lib.hid hall
    clear hall
    by_cases hlt : k < n
    · obtain ⟨b1, o1, rfl, hc⟩ := h2.2 k hlt
      obtain ⟨⟨x0, x1, x2⟩, hx⟩ : ∃ x, xs[k]?.getD mk0 = x := ⟨_, rfl⟩
      have HVX := Lib.hid (okC_mark HL.out HOK.out hlt hx)
      rw [hx] at hc
      obtain ⟨sb, so, rfl, hsbl, hsc⟩ := hs2.2 k (by have := HMN.out; omega)
      obtain ⟨si, hsie⟩ : ∃ s, ss[k]?.getD 0 = s := ⟨_, rfl⟩
      rw [hsie] at hsc
      have t3 := (hB.cell (p := ⟨sb, so + k, none⟩) hsbl).trans hsc
      obtain ⟨-, p0, p1, p2⟩ := (hc.mono hB).parts
      have hsz := hB.size
      have hsbw : sb < wr.heap.size := Nat.lt_of_lt_of_le hsbl hsz
      have t3' : (wr.alloc (.cells #[.int .i64 x0, .int .i64 x1, .int .i64 x2] 35)).cell? ⟨sb, so + k, none⟩ = some (.int .i64 si) := by go_keep
      have hkk : (k : Int) < (n : Int) := by omega
      have hk0 : (0 : Int) ≤ (k : Int) := by omega
      have hkm : (k : Int) < (m : Int) := by have := HMN.out; omega
      cases hsi : inB si 0 3
      · have HC := Lib.hid (cl_2 HL.out HOK.out (sd_bad (n := n) (k := k) HM.out (by have := HMN.out; omega) (by rw [hsie]; exact hsi)))
        clear hx hsie
        go_wp2_with (go_at_call 45; refine (isSide_any _ _).mono ?_; rintro e w' ⟨rfl, rfl⟩)
        go_ret2
        exact ⟨by rw [HC.out.1, HC.out.2]; exact QqRes.nil _ _ _, belowCall b2 (by (repeat (first | assumption | exact Below.refl _ _ | refine belowDN ?_ _ | refine Below.drew ?_ | refine Below.setCell ?_ (by first | omega | (simp <;> omega)) _ | refine Below.alloc ?_ (by first | omega | (simp <;> omega)) _ | refine belowCall ?_ (by assumption))))⟩
      · obtain ⟨hsi0, hsi3⟩ := inB_iff.1 hsi
        obtain ⟨⟨a0, a1, a2, a3⟩, ha⟩ : ∃ q, bxQ (x0, x1, x2) si = q := ⟨_, rfl⟩
        have HA := Lib.hid ha
        have HBX : Hid ((bxL xs ss n)[k]?.getD bq0 = (a0, a1, a2, a3)) := Lib.hid (by rw [bxL_at hlt, hx, hsie, ha])
        have HK := Lib.hid (show ∀ j, j < k + 1 → inB (ss[j]?.getD 0) 0 3 = true from fun j hj => by
          by_cases e : j = k
          · subst e; rw [hsie]; exact hsi
          · exact HALL.out j (by omega))
        have hA : Below w2.heap.size w2 (wr.alloc (.cells #[.int .i64 x0, .int .i64 x1, .int .i64 x2] 35)) := by (repeat (first | assumption | exact Below.refl _ _ | refine belowDN ?_ _ | refine Below.drew ?_ | refine Below.setCell ?_ (by first | omega | (simp <;> omega)) _ | refine Below.alloc ?_ (by first | omega | (simp <;> omega)) _ | refine belowCall ?_ (by assumption)))
        have hr1 := rowB hr ((Below.refl _ _).alloc (Nat.le_refl _) (.cells #[.int .i64 x0, .int .i64 x1, .int .i64 x2] 35))
        have hm1 := MkC.fresh wr 35 x0 x1 x2
        have hwz : wr.heap.size < (wr.alloc (.cells #[.int .i64 x0, .int .i64 x1, .int .i64 x2] 35)).heap.size := by simp
        have hsb1 : sb < (wr.alloc (.cells #[.int .i64 x0, .int .i64 x1, .int .i64 x2] 35)).heap.size := Nat.lt_of_lt_of_le hsbl hA.size
        have hpA := hp2.mono hA
        have hwA := hw2.mono hA
        clear hx hsie ha hc hr
        go_wp2_with (go_at_call 45; refine (isSide_any _ _).mono ?_; rintro e w' ⟨rfl, rfl⟩)
        generalize wr.alloc (.cells #[.int .i64 x0, .int .i64 x1, .int .i64 x2] 35) = w1 at hA hr1 hm1 t3' hwz hsb1 hpA hwA ⊢
        obtain ⟨hml, m0, m1, m2⟩ := hm1.parts
        rw [Nat.zero_add] at m1 m2
        have z1s := hA.size
        clear t3 p0 p1 p2
        go_region_with (first | (go_at_call 46; refine (labelOn_any x0 x1 x2 si _ HVX.out hsi0 hsi3 (hpA.mono (by (repeat (first | assumption | exact Below.refl _ _ | refine belowDN ?_ _ | refine Below.drew ?_ | refine Below.setCell ?_ (by first | omega | (simp <;> omega)) _ | refine Below.alloc ?_ (by first | omega | (simp <;> omega)) _ | refine belowCall ?_ (by assumption))))) (hwA.mono (by (repeat (first | assumption | exact Below.refl _ _ | refine belowDN ?_ _ | refine Below.drew ?_ | refine Below.setCell ?_ (by first | omega | (simp <;> omega)) _ | refine Below.alloc ?_ (by first | omega | (simp <;> omega)) _ | refine belowCall ?_ (by assumption))))) a0 a1 a2 a3 HA.out).mono ?_; rintro e w3 ⟨rfl, b3⟩; have hb13 : Below w1.heap.size w1 w3 := (by (repeat (first | assumption | exact Below.refl _ _ | refine belowDN ?_ _ | refine Below.drew ?_ | refine Below.setCell ?_ (by first | omega | (simp <;> omega)) _ | refine Below.alloc ?_ (by first | omega | (simp <;> omega)) _ | refine belowCall ?_ (by assumption)))); have hr3 := rowB hr1 hb13; have d0 := hr3.cell (show k * 4 < n * 4 by omega); have d1 := hr3.cell (show k * 4 + 1 < n * 4 by omega); have d2 := hr3.cell (show k * 4 + 2 < n * 4 by omega); have d3 := hr3.cell (show k * 4 + 3 < n * 4 by omega); have z0 := hr3.frozen (k * 4); have z1 := hr3.frozen (k * 4 + 1); have z2 := hr3.frozen (k * 4 + 2); have z3 := hr3.frozen (k * 4 + 3)))
        all_goals
          have hP := colBq_put hr3 HBX.out
          have HP := Lib.hid hP
          have hB3 := belowCall hA hb13
          have z3s := hB3.size
          clear hP hr3 hr1 hm1
          go_wp2
          go_roundw
          case rel => exact ⟨k + 1, by omega, by go_num, HK.out, HP.out, by (repeat (first | assumption | exact Below.refl _ _ | refine belowDN ?_ _ | refine Below.drew ?_ | refine Below.setCell ?_ (by first | omega | (simp <;> omega)) _ | refine Below.alloc ?_ (by first | omega | (simp <;> omega)) _ | refine belowCall ?_ (by assumption)))⟩
          case measure => simp [Go.RowKit.intOf]; omega
    · obtain rfl : n = k := by omega
      have HC := Lib.hid (cl_0 HL.out HOK.out (sd_yes HM.out HMN.out (fun j hj => HALL.out j (by have := HMN.out; omega))))
      have hbl := BqL.of_row (bxL_len xs ss n) hr
      have HPC : Hid (prP (fun i j => ovB ((bxL xs ss n)[i]?.getD bq0) ((bxL xs ss n)[j]?.getD bq0)) n n = prP (clP xs ss) n n) := Lib.hid (prP_congr fun i j hi hj => by rw [bxL_at hi, bxL_at hj]; rfl)
      clear hr
      go_wp2_with fail
      refine (thatB_any _ n n (bxL xs ss n) wr hbl hn30).mono ?_
      rintro e w5 ⟨v5, rfl, hQ, b5⟩
      rw [HPC.out] at hQ
      have HQ := Lib.hid (hQ.low (Nat.le_trans b2.size hB.size))
      clear hQ hbl
      go_wp2
      go_ret2
      exact ⟨by rw [HC.out.1, HC.out.2]; exact QqRes.own HQ.out, belowCall (belowCall b2 hB) b5⟩
end Go.Proofs.YtfabpcdeppfmdaaDoor
