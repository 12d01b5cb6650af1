/- Contradictions, the program's: a generic function over pairs with a closure. -/
import Derived.Test.YtfabpcdeppfmdabQ1
namespace Go.Proofs.Ytfabpcdeppfmdab
open Go.ChangeShapes Go.WideShapes Go.ChangeAt Go.RowKit Go.Deep

set_option maxRecDepth 100000 in
set_option maxHeartbeats 2000000 in
theorem clash_any (x0 : Int) (x1 x2 : ByteArray) (x3 : Int) (x4 : Bool) (y0 : Int) (y1 y2 : ByteArray) (y3 : Int) (y4 : Bool) (ap b' : Int) (ga gb : Nat) (w : World) (ha : ga < w.heap.size) (hb : gb < w.heap.size) (ca : w.cell? ⟨ga, 0, none⟩ = some (.int .i64 ap)) (cb : w.cell? ⟨gb, 0, none⟩ = some (.int .i64 b'))
    (xt : 0 ≤ x0 ∧ x0 ≤ 10000000) (yt : 0 ≤ y0 ∧ y0 ≤ 10000000) (xm1 : -2000 ≤ x3) (xm2 : x3 ≤ 20000) (ym1 : -2000 ≤ y3) (ym2 : y3 ≤ 20000) (by1 : 1 ≤ b') (by2 : b' ≤ 20000) :
    Calls Try.prog 54 #[.agg #[.int .i64 x0, .string x1, .string x2, .int .i64 x3, .bool x4], .agg #[.int .i64 y0, .string y1, .string y2, .int .i64 y3, .bool y4], .pointer (some ⟨ga, 0, none⟩), .pointer (some ⟨gb, 0, none⟩)] w fun e w' => e = .returned (.bool (conB ap b' (x0, x1, x2, x3, x4) (y0, y1, y2, y3, y4))) ∧ Below w.heap.size w w' := by
  obtain ⟨xt1, xt2⟩ := xt
  obtain ⟨yt1, yt2⟩ := yt
  have B1 : Below w.heap.size w ((w.alloc (.cells #[.int .i64 x0, .string x1, .string x2, .int .i64 x3, .bool x4] 41)).alloc (.cells #[.int .i64 y0, .string y1, .string y2, .int .i64 y3, .bool y4] 41)) := by (repeat (first | assumption | exact Below.refl _ _ | refine belowDN ?_ _ | refine Below.drew ?_ | refine Below.setCell ?_ (by first | omega | (simp <;> omega)) _ | refine Below.alloc ?_ (by first | omega | (simp <;> omega)) _ | refine belowCall ?_ (by assumption)))
  have ca1 := (B1.cell (p := ⟨ga, 0, none⟩) ha).trans ca
  have cb1 := (B1.cell (p := ⟨gb, 0, none⟩) hb).trans cb
  cases heq0 : (x1.toList == y1.toList)
  · have heq : (y1.toList == x1.toList) = false := by rw [← heq0]; exact Bool.beq_comm ..
    have HV : Hid (conB ap b' (x0, x1, x2, x3, x4) (y0, y1, y2, y3, y4) = false) := Lib.hid (by simp [conB, heq0])
    clear heq0
    go_enter Try.func54, Try.ntmps54
    go_wp2
    go_ret
    exact ⟨by rw [HV.out]; rfl, B1⟩
  · have heq : (y1.toList == x1.toList) = true := by rw [beq_iff_eq] at heq0 ⊢; exact heq0.symm
    by_cases hle : y0 - x0 ≤ ap
    · have hd : decide (y0 - x0 ≤ ap) = true := by simpa using hle
      cases hag : agnB b' (x0, x1, x2, x3, x4) (y0, y1, y2, y3, y4)
      all_goals
        have HV : Hid (conB ap b' (x0, x1, x2, x3, x4) (y0, y1, y2, y3, y4) = _) := Lib.hid (by simp only [conB]; rw [heq0, hag, hd])
        clear heq0 hle
        go_enter Try.func54, Try.ntmps54
        go_wp2_with (go_at_call 55; refine (contra_any x0 x1 x2 x3 x4 y0 y1 y2 y3 y4 b' _ xm1 xm2 ym1 ym2 by1 by2).mono ?_; rintro e W ⟨rfl, bW⟩; rw [hag])
        go_ret
        exact ⟨by rw [HV.out]; rfl, belowCall B1 bW⟩
    · have hd : decide (y0 - x0 ≤ ap) = false := by simpa using hle
      have HV : Hid (conB ap b' (x0, x1, x2, x3, x4) (y0, y1, y2, y3, y4) = false) := Lib.hid (by simp only [conB]; rw [hd]; simp)
      clear heq0 hle
      go_enter Try.func54, Try.ntmps54
      go_wp2
      go_ret
      exact ⟨by rw [HV.out]; rfl, B1⟩
set_option maxRecDepth 100000 in
set_option maxHeartbeats 8000000 in
theorem thatE_any (a : Option Addr) (n c : Nat) (xs : List Es) (ap b' : Int) (ga gb : Nat) (w2 : World) (h2 : EsL w2 a n xs) (hok : okE xs = true) (ha : ga < w2.heap.size) (hb : gb < w2.heap.size) (ca : w2.cell? ⟨ga, 0, none⟩ = some (.int .i64 ap)) (cb : w2.cell? ⟨gb, 0, none⟩ = some (.int .i64 b')) (by1 : 1 ≤ b') (by2 : b' ≤ 20000) :
    Calls Try.prog 56 #[.slice a n c, .func (.func 54) #[] #[.pointer (some ⟨ga, 0, none⟩), .pointer (some ⟨gb, 0, none⟩)]] w2 fun e w' => ∃ v, e = .returned v ∧ QqB w2.heap.size 39 w' v (cnP xs ap b' n n) ∧ Below w2.heap.size w2 w' := by
  have HL := Lib.hid h2.1
  have HOK := Lib.hid hok
  have hn100 := (okE_at h2.1 hok).1
  have hl : (n : Int) ≤ 1048576 := by omega
  obtain ⟨iq, hiq, hzq0, hzq1, hzq2⟩ := info_parts QI_info
  clear hok
  go_enter Try.func56, Try.ntmps56
  go_wp2
  go_loopw [5, 10] (fun oo i wr => ∃ k : Nat, k ≤ n ∧ i = .int .i64 k ∧ QqB w2.heap.size 39 wr oo (cnP xs ap b' n k) ∧ Below w2.heap.size w2 wr) (fun _ i _ => n - (Go.RowKit.intOf i).toNat)
  case atStart => exact ⟨0, Nat.zero_le _, rfl, QqB.nil _ _ _, Below.refl _ _⟩
  case round =>
    obtain ⟨i, hin, rfl, hQ, hB⟩ := hrel
    by_cases hlt : i < n
    · obtain ⟨b1, o1, rfl, hc⟩ := h2.2 i hlt
      obtain ⟨⟨x0, x1, x2, x3, x4⟩, hx⟩ : ∃ x, xs[i]?.getD es0 = x := ⟨_, rfl⟩
      rw [hx] at hc
      obtain ⟨xt, xm1, xm2⟩ := okE_bd HL.out HOK.out hlt hx
      have HX := Lib.hid hx
      clear hx
      have hii : (i : Int) < (n : Int) := by omega
      have hi0 : (0 : Int) ≤ (i : Int) := by omega
      have e0 : cnP xs ap b' n i = cnP xs ap b' n i ++ cnR xs ap b' i (i + 1) := by rw [cnR_none (Nat.le_refl _), List.append_nil]
      have hQ0 := hQ
      rw [e0] at hQ0
      clear hQ e0
      go_wp2
      go_loopw [5, 7] (fun oo k wi => ∃ j : Nat, i < j ∧ j ≤ n ∧ k = .int .i64 j ∧ QqB w2.heap.size 39 wi oo (cnP xs ap b' n i ++ cnR xs ap b' i j) ∧ Below w2.heap.size w2 wi) (fun _ k _ => n - (Go.RowKit.intOf k).toNat)
      case atStart => exact ⟨i + 1, by omega, by omega, by go_num, hQ0, hB⟩
      case round =>
        obtain ⟨j, hij, hjn, rfl, hQj, hBi⟩ := hrel
        clear hQ0 hB
        by_cases hj : j < n
        · obtain ⟨b1', o1', he, hc'⟩ := h2.2 j hj
          cases he
          obtain ⟨⟨y0, y1, y2, y3, y4⟩, hy⟩ : ∃ x, xs[j]?.getD es0 = x := ⟨_, rfl⟩
          rw [hy] at hc'
          obtain ⟨yt, ym1, ym2⟩ := okE_bd HL.out HOK.out hj hy
          have HY := Lib.hid hy
          clear hy
          have hjj : (j : Int) < (n : Int) := by omega
          have hj0 : (0 : Int) ≤ (j : Int) := by omega
          have hcl := cnP_len xs ap b' n i
          have hcr := cnR_len xs ap b' i j
          have hml : i * n ≤ 100 * 100 := Nat.mul_le_mul (by omega) hn100
          obtain ⟨L, hLe⟩ : ∃ L, cnP xs ap b' n i ++ cnR xs ap b' i j = L := ⟨_, rfl⟩
          have hLl : L.length ≤ 20000 := by rw [← hLe, List.length_append]; omega
          rw [hLe] at hQj
          have HLE := Lib.hid hLe
          clear hLe hcl hcr hml
          obtain ⟨hb1, p0, p1, p2, p3, p4⟩ := (hc.mono hBi).parts
          obtain ⟨-, r0, r1, r2, r3, r4⟩ := (hc'.mono hBi).parts
          have hbl := hBi.size
          have hgaw : ga < wr.heap.size := by omega
          have hgbw : gb < wr.heap.size := by omega
          have caw := (hBi.cell (p := ⟨ga, 0, none⟩) ha).trans ca
          have cbw := (hBi.cell (p := ⟨gb, 0, none⟩) hb).trans cb
          cases hov : conB ap b' (x0, x1, x2, x3, x4) (y0, y1, y2, y3, y4)
          · have HS := Lib.hid (cnR_no (i := i) HX.out HY.out hov)
            have HQ := Lib.hid hQj
            clear hQj
            go_wp2
            go_region_held3 (fun W' => W'.cell? ⟨b1, o1 + i * 5, none⟩ = some (.int .i64 x0) ∧ W'.cell? ⟨b1, o1 + i * 5 + 1, none⟩ = some (.string x1) ∧ W'.cell? ⟨b1, o1 + i * 5 + 2, none⟩ = some (.string x2) ∧ W'.cell? ⟨b1, o1 + i * 5 + 3, none⟩ = some (.int .i64 x3) ∧ W'.cell? ⟨b1, o1 + i * 5 + 4, none⟩ = some (.bool x4) ∧ W'.cell? ⟨b1, o1 + j * 5, none⟩ = some (.int .i64 y0) ∧ W'.cell? ⟨b1, o1 + j * 5 + 1, none⟩ = some (.string y1) ∧ W'.cell? ⟨b1, o1 + j * 5 + 2, none⟩ = some (.string y2) ∧ W'.cell? ⟨b1, o1 + j * 5 + 3, none⟩ = some (.int .i64 y3) ∧ W'.cell? ⟨b1, o1 + j * 5 + 4, none⟩ = some (.bool y4)) (refine ⟨?_, ?_, ?_, ?_, ?_, ?_, ?_, ?_, ?_, ?_⟩ <;> first | assumption | exact ((show Below wr.heap.size wr _ by (repeat (first | assumption | exact Below.refl _ _ | refine belowDN ?_ _ | refine Below.drew ?_ | refine Below.setCell ?_ (by first | omega | (simp <;> omega)) _ | refine Below.alloc ?_ (by first | omega | (simp <;> omega)) _ | refine belowCall ?_ (by assumption)))).cell (p := ⟨b1, o1 + i * 5, none⟩) hb1).trans p0 | exact ((show Below wr.heap.size wr _ by (repeat (first | assumption | exact Below.refl _ _ | refine belowDN ?_ _ | refine Below.drew ?_ | refine Below.setCell ?_ (by first | omega | (simp <;> omega)) _ | refine Below.alloc ?_ (by first | omega | (simp <;> omega)) _ | refine belowCall ?_ (by assumption)))).cell (p := ⟨b1, o1 + i * 5 + 1, none⟩) hb1).trans p1 | exact ((show Below wr.heap.size wr _ by (repeat (first | assumption | exact Below.refl _ _ | refine belowDN ?_ _ | refine Below.drew ?_ | refine Below.setCell ?_ (by first | omega | (simp <;> omega)) _ | refine Below.alloc ?_ (by first | omega | (simp <;> omega)) _ | refine belowCall ?_ (by assumption)))).cell (p := ⟨b1, o1 + i * 5 + 2, none⟩) hb1).trans p2 | exact ((show Below wr.heap.size wr _ by (repeat (first | assumption | exact Below.refl _ _ | refine belowDN ?_ _ | refine Below.drew ?_ | refine Below.setCell ?_ (by first | omega | (simp <;> omega)) _ | refine Below.alloc ?_ (by first | omega | (simp <;> omega)) _ | refine belowCall ?_ (by assumption)))).cell (p := ⟨b1, o1 + i * 5 + 3, none⟩) hb1).trans p3 | exact ((show Below wr.heap.size wr _ by (repeat (first | assumption | exact Below.refl _ _ | refine belowDN ?_ _ | refine Below.drew ?_ | refine Below.setCell ?_ (by first | omega | (simp <;> omega)) _ | refine Below.alloc ?_ (by first | omega | (simp <;> omega)) _ | refine belowCall ?_ (by assumption)))).cell (p := ⟨b1, o1 + i * 5 + 4, none⟩) hb1).trans p4 | exact ((show Below wr.heap.size wr _ by (repeat (first | assumption | exact Below.refl _ _ | refine belowDN ?_ _ | refine Below.drew ?_ | refine Below.setCell ?_ (by first | omega | (simp <;> omega)) _ | refine Below.alloc ?_ (by first | omega | (simp <;> omega)) _ | refine belowCall ?_ (by assumption)))).cell (p := ⟨b1, o1 + j * 5, none⟩) hb1).trans r0 | exact ((show Below wr.heap.size wr _ by (repeat (first | assumption | exact Below.refl _ _ | refine belowDN ?_ _ | refine Below.drew ?_ | refine Below.setCell ?_ (by first | omega | (simp <;> omega)) _ | refine Below.alloc ?_ (by first | omega | (simp <;> omega)) _ | refine belowCall ?_ (by assumption)))).cell (p := ⟨b1, o1 + j * 5 + 1, none⟩) hb1).trans r1 | exact ((show Below wr.heap.size wr _ by (repeat (first | assumption | exact Below.refl _ _ | refine belowDN ?_ _ | refine Below.drew ?_ | refine Below.setCell ?_ (by first | omega | (simp <;> omega)) _ | refine Below.alloc ?_ (by first | omega | (simp <;> omega)) _ | refine belowCall ?_ (by assumption)))).cell (p := ⟨b1, o1 + j * 5 + 2, none⟩) hb1).trans r2 | exact ((show Below wr.heap.size wr _ by (repeat (first | assumption | exact Below.refl _ _ | refine belowDN ?_ _ | refine Below.drew ?_ | refine Below.setCell ?_ (by first | omega | (simp <;> omega)) _ | refine Below.alloc ?_ (by first | omega | (simp <;> omega)) _ | refine belowCall ?_ (by assumption)))).cell (p := ⟨b1, o1 + j * 5 + 3, none⟩) hb1).trans r3 | exact ((show Below wr.heap.size wr _ by (repeat (first | assumption | exact Below.refl _ _ | refine belowDN ?_ _ | refine Below.drew ?_ | refine Below.setCell ?_ (by first | omega | (simp <;> omega)) _ | refine Below.alloc ?_ (by first | omega | (simp <;> omega)) _ | refine belowCall ?_ (by assumption)))).cell (p := ⟨b1, o1 + j * 5 + 4, none⟩) hb1).trans r4) (first | (go_at_call 54; refine (clash_any x0 x1 x2 x3 x4 y0 y1 y2 y3 y4 ap b' ga gb _ (Nat.lt_of_lt_of_le hgaw (show Below wr.heap.size wr _ by (repeat (first | assumption | exact Below.refl _ _ | refine belowDN ?_ _ | refine Below.drew ?_ | refine Below.setCell ?_ (by first | omega | (simp <;> omega)) _ | refine Below.alloc ?_ (by first | omega | (simp <;> omega)) _ | refine belowCall ?_ (by assumption)))).size) (Nat.lt_of_lt_of_le hgbw (show Below wr.heap.size wr _ by (repeat (first | assumption | exact Below.refl _ _ | refine belowDN ?_ _ | refine Below.drew ?_ | refine Below.setCell ?_ (by first | omega | (simp <;> omega)) _ | refine Below.alloc ?_ (by first | omega | (simp <;> omega)) _ | refine belowCall ?_ (by assumption)))).size) (((show Below wr.heap.size wr _ by (repeat (first | assumption | exact Below.refl _ _ | refine belowDN ?_ _ | refine Below.drew ?_ | refine Below.setCell ?_ (by first | omega | (simp <;> omega)) _ | refine Below.alloc ?_ (by first | omega | (simp <;> omega)) _ | refine belowCall ?_ (by assumption)))).cell (p := ⟨ga, 0, none⟩) hgaw).trans caw) (((show Below wr.heap.size wr _ by (repeat (first | assumption | exact Below.refl _ _ | refine belowDN ?_ _ | refine Below.drew ?_ | refine Below.setCell ?_ (by first | omega | (simp <;> omega)) _ | refine Below.alloc ?_ (by first | omega | (simp <;> omega)) _ | refine belowCall ?_ (by assumption)))).cell (p := ⟨gb, 0, none⟩) hgbw).trans cbw) xt yt xm1 xm2 ym1 ym2 by1 by2).mono ?_; rintro e wM ⟨rfl, bM⟩; rw [hov]; have hbD : Below wr.heap.size wr wM := (by (repeat (first | assumption | exact Below.refl _ _ | refine belowDN ?_ _ | refine Below.drew ?_ | refine Below.setCell ?_ (by first | omega | (simp <;> omega)) _ | refine Below.alloc ?_ (by first | omega | (simp <;> omega)) _ | refine belowCall ?_ (by assumption))))))
            all_goals
              have HF := Lib.hid (HQ.out.below hbD)
              have hBM := belowCall hBi hbD
              clear bM
              go_wp2
              go_roundw
              case rel => exact ⟨j + 1, by omega, by omega, by go_num, by rw [HS.out, HLE.out]; exact HF.out, hBM⟩
              case measure => simp [Go.RowKit.intOf]; omega
          · have HS := Lib.hid (cnR_yes hij HX.out HY.out hov)
            obtain ⟨bs, hq1, hq2, hq3⟩ := hQj
            go_wp2
            go_region_held3 (fun W' => W'.cell? ⟨b1, o1 + i * 5, none⟩ = some (.int .i64 x0) ∧ W'.cell? ⟨b1, o1 + i * 5 + 1, none⟩ = some (.string x1) ∧ W'.cell? ⟨b1, o1 + i * 5 + 2, none⟩ = some (.string x2) ∧ W'.cell? ⟨b1, o1 + i * 5 + 3, none⟩ = some (.int .i64 x3) ∧ W'.cell? ⟨b1, o1 + i * 5 + 4, none⟩ = some (.bool x4) ∧ W'.cell? ⟨b1, o1 + j * 5, none⟩ = some (.int .i64 y0) ∧ W'.cell? ⟨b1, o1 + j * 5 + 1, none⟩ = some (.string y1) ∧ W'.cell? ⟨b1, o1 + j * 5 + 2, none⟩ = some (.string y2) ∧ W'.cell? ⟨b1, o1 + j * 5 + 3, none⟩ = some (.int .i64 y3) ∧ W'.cell? ⟨b1, o1 + j * 5 + 4, none⟩ = some (.bool y4)) (refine ⟨?_, ?_, ?_, ?_, ?_, ?_, ?_, ?_, ?_, ?_⟩ <;> first | assumption | exact ((show Below wr.heap.size wr _ by (repeat (first | assumption | exact Below.refl _ _ | refine belowDN ?_ _ | refine Below.drew ?_ | refine Below.setCell ?_ (by first | omega | (simp <;> omega)) _ | refine Below.alloc ?_ (by first | omega | (simp <;> omega)) _ | refine belowCall ?_ (by assumption)))).cell (p := ⟨b1, o1 + i * 5, none⟩) hb1).trans p0 | exact ((show Below wr.heap.size wr _ by (repeat (first | assumption | exact Below.refl _ _ | refine belowDN ?_ _ | refine Below.drew ?_ | refine Below.setCell ?_ (by first | omega | (simp <;> omega)) _ | refine Below.alloc ?_ (by first | omega | (simp <;> omega)) _ | refine belowCall ?_ (by assumption)))).cell (p := ⟨b1, o1 + i * 5 + 1, none⟩) hb1).trans p1 | exact ((show Below wr.heap.size wr _ by (repeat (first | assumption | exact Below.refl _ _ | refine belowDN ?_ _ | refine Below.drew ?_ | refine Below.setCell ?_ (by first | omega | (simp <;> omega)) _ | refine Below.alloc ?_ (by first | omega | (simp <;> omega)) _ | refine belowCall ?_ (by assumption)))).cell (p := ⟨b1, o1 + i * 5 + 2, none⟩) hb1).trans p2 | exact ((show Below wr.heap.size wr _ by (repeat (first | assumption | exact Below.refl _ _ | refine belowDN ?_ _ | refine Below.drew ?_ | refine Below.setCell ?_ (by first | omega | (simp <;> omega)) _ | refine Below.alloc ?_ (by first | omega | (simp <;> omega)) _ | refine belowCall ?_ (by assumption)))).cell (p := ⟨b1, o1 + i * 5 + 3, none⟩) hb1).trans p3 | exact ((show Below wr.heap.size wr _ by (repeat (first | assumption | exact Below.refl _ _ | refine belowDN ?_ _ | refine Below.drew ?_ | refine Below.setCell ?_ (by first | omega | (simp <;> omega)) _ | refine Below.alloc ?_ (by first | omega | (simp <;> omega)) _ | refine belowCall ?_ (by assumption)))).cell (p := ⟨b1, o1 + i * 5 + 4, none⟩) hb1).trans p4 | exact ((show Below wr.heap.size wr _ by (repeat (first | assumption | exact Below.refl _ _ | refine belowDN ?_ _ | refine Below.drew ?_ | refine Below.setCell ?_ (by first | omega | (simp <;> omega)) _ | refine Below.alloc ?_ (by first | omega | (simp <;> omega)) _ | refine belowCall ?_ (by assumption)))).cell (p := ⟨b1, o1 + j * 5, none⟩) hb1).trans r0 | exact ((show Below wr.heap.size wr _ by (repeat (first | assumption | exact Below.refl _ _ | refine belowDN ?_ _ | refine Below.drew ?_ | refine Below.setCell ?_ (by first | omega | (simp <;> omega)) _ | refine Below.alloc ?_ (by first | omega | (simp <;> omega)) _ | refine belowCall ?_ (by assumption)))).cell (p := ⟨b1, o1 + j * 5 + 1, none⟩) hb1).trans r1 | exact ((show Below wr.heap.size wr _ by (repeat (first | assumption | exact Below.refl _ _ | refine belowDN ?_ _ | refine Below.drew ?_ | refine Below.setCell ?_ (by first | omega | (simp <;> omega)) _ | refine Below.alloc ?_ (by first | omega | (simp <;> omega)) _ | refine belowCall ?_ (by assumption)))).cell (p := ⟨b1, o1 + j * 5 + 2, none⟩) hb1).trans r2 | exact ((show Below wr.heap.size wr _ by (repeat (first | assumption | exact Below.refl _ _ | refine belowDN ?_ _ | refine Below.drew ?_ | refine Below.setCell ?_ (by first | omega | (simp <;> omega)) _ | refine Below.alloc ?_ (by first | omega | (simp <;> omega)) _ | refine belowCall ?_ (by assumption)))).cell (p := ⟨b1, o1 + j * 5 + 3, none⟩) hb1).trans r3 | exact ((show Below wr.heap.size wr _ by (repeat (first | assumption | exact Below.refl _ _ | refine belowDN ?_ _ | refine Below.drew ?_ | refine Below.setCell ?_ (by first | omega | (simp <;> omega)) _ | refine Below.alloc ?_ (by first | omega | (simp <;> omega)) _ | refine belowCall ?_ (by assumption)))).cell (p := ⟨b1, o1 + j * 5 + 4, none⟩) hb1).trans r4) (first | (go_at_call 54; refine (clash_any x0 x1 x2 x3 x4 y0 y1 y2 y3 y4 ap b' ga gb _ (Nat.lt_of_lt_of_le hgaw (show Below wr.heap.size wr _ by (repeat (first | assumption | exact Below.refl _ _ | refine belowDN ?_ _ | refine Below.drew ?_ | refine Below.setCell ?_ (by first | omega | (simp <;> omega)) _ | refine Below.alloc ?_ (by first | omega | (simp <;> omega)) _ | refine belowCall ?_ (by assumption)))).size) (Nat.lt_of_lt_of_le hgbw (show Below wr.heap.size wr _ by (repeat (first | assumption | exact Below.refl _ _ | refine belowDN ?_ _ | refine Below.drew ?_ | refine Below.setCell ?_ (by first | omega | (simp <;> omega)) _ | refine Below.alloc ?_ (by first | omega | (simp <;> omega)) _ | refine belowCall ?_ (by assumption)))).size) (((show Below wr.heap.size wr _ by (repeat (first | assumption | exact Below.refl _ _ | refine belowDN ?_ _ | refine Below.drew ?_ | refine Below.setCell ?_ (by first | omega | (simp <;> omega)) _ | refine Below.alloc ?_ (by first | omega | (simp <;> omega)) _ | refine belowCall ?_ (by assumption)))).cell (p := ⟨ga, 0, none⟩) hgaw).trans caw) (((show Below wr.heap.size wr _ by (repeat (first | assumption | exact Below.refl _ _ | refine belowDN ?_ _ | refine Below.drew ?_ | refine Below.setCell ?_ (by first | omega | (simp <;> omega)) _ | refine Below.alloc ?_ (by first | omega | (simp <;> omega)) _ | refine belowCall ?_ (by assumption)))).cell (p := ⟨gb, 0, none⟩) hgbw).trans cbw) xt yt xm1 xm2 ym1 ym2 by1 by2).mono ?_; rintro e wM ⟨rfl, bM⟩; rw [hov]; have hbD : Below wr.heap.size wr wM := (by (repeat (first | assumption | exact Below.refl _ _ | refine belowDN ?_ _ | refine Below.drew ?_ | refine Below.setCell ?_ (by first | omega | (simp <;> omega)) _ | refine Below.alloc ?_ (by first | omega | (simp <;> omega)) _ | refine belowCall ?_ (by assumption))))))
            all_goals
              obtain ⟨hrA, hcA, hbA', hszA⟩ := two_news wM (i : Int) (j : Int) 2 39 rfl
              have hzD := hbD.size
              have hbA := belowCall hbD hbA'
              have hBA := belowCall hBi hbA
              clear bM
              go_wp2_with (at_builtin; refine wpList_append_own_at _ rfl _ _ 24 rfl w2.heap.size 39 iq _ 1 24 Try.underlying24 hiq hzq0 hzq1 hzq2 rfl (by decide) _ _ _ rfl (ownKeepQ hq1 hbA) ⟨wM.heap.size + 1, 0, none⟩ 1 1 [.slice (some ⟨wM.heap.size, 0, none⟩) 2 2] rfl rfl hcA (by intro u hu; simp at hu; subst hu; rfl) (by unfold maxLen; omega) (by omega) (by rw [hszA]; omega) ?_; intro v7 w7 hown7 hg7 hnil7 hl7)
              have hQ' := QqB.snoc hq1 hq2 hq3 hbA hrA (by omega) (by omega) hown7 hg7 hl7
              have hB7 : Below w2.heap.size w2 w7 := hBA.grown hg7 hBA.size (fun r e => (hq1.lt r e).1)
              have HQ := Lib.hid hQ'
              clear hQ' hown7 hg7 hl7 hnil7 hq1 hq2 hq3
              go_wp2
              go_roundw
              case rel => exact ⟨j + 1, by omega, by omega, by go_num, by rw [HS.out, ← List.append_assoc, HLE.out]; exact HQ.out, hB7⟩
              case measure => simp [Go.RowKit.intOf]; omega
        · obtain rfl : n = j := by omega
          rw [← cnP_step] at hQj
          have HQ := Lib.hid hQj
          clear hQj
          go_wp2
          go_roundw
          case rel => exact ⟨i + 1, by omega, by go_num, HQ.out, hBi⟩
          case measure => simp [Go.RowKit.intOf]; omega
    · obtain rfl : n = i := by omega
      go_wp2
      go_ret
      exact ⟨_, rfl, hQ, hB⟩
set_option maxRecDepth 100000 in
set_option maxHeartbeats 4000000 in
theorem iContra_any (a : Option Addr) (n c : Nat) (xs : List Es) (ap b' : Int) (w : World) (h : EsL w a n xs) (hn : n ≤ 1048576) :
    Calls Try.prog 12 #[.slice a n c, .int .i64 ap, .int .i64 b'] w fun e w' => QqRes w.heap.size (cnL xs ap b') (.int .i64 (cnC xs ap b')) w' e ∧ Below w.heap.size w w' := by
  have HL := Lib.hid h.1
  have hl : (n : Int) ≤ 1048576 := by omega
  have B1 : Below w.heap.size w ((w.alloc (.cells #[.int .i64 ap] 2)).alloc (.cells #[.int .i64 b'] 2)) := by (repeat (first | assumption | exact Below.refl _ _ | refine belowDN ?_ _ | refine Below.drew ?_ | refine Below.setCell ?_ (by first | omega | (simp <;> omega)) _ | refine Below.alloc ?_ (by first | omega | (simp <;> omega)) _ | refine belowCall ?_ (by assumption)))
  have h1 := h.mono B1
  have hz : ((w.alloc (.cells #[.int .i64 ap] 2)).alloc (.cells #[.int .i64 b'] 2)).heap.size = w.heap.size + 2 := by simp
  have ca1 : ((w.alloc (.cells #[.int .i64 ap] 2)).alloc (.cells #[.int .i64 b'] 2)).cell? ⟨w.heap.size, 0, none⟩ = some (.int .i64 ap) := by go_keep
  have cb1 : ((w.alloc (.cells #[.int .i64 ap] 2)).alloc (.cells #[.int .i64 b'] 2)).cell? ⟨w.heap.size + 1, 0, none⟩ = some (.int .i64 b') := by go_keep
  cases hok : okE xs
  · have HC := Lib.hid (cn_1 (ap := ap) (b := b') hok)
    (go_enter Try.func12, Try.ntmps12; go_wp2_with fail; generalize ((w.alloc (.cells #[.int .i64 ap] 2)).alloc (.cells #[.int .i64 b'] 2)) = w1 at B1 h1 hz ca1 cb1 ⊢; refine (iValidEs_any a n c xs w1 h1 hn).mono ?_; rintro e w2 ⟨rfl, b2⟩; rw [hok]; have ca2 := (b2.cell (p := ⟨w.heap.size, 0, none⟩) (show w.heap.size < w1.heap.size by omega)).trans ca1; have cb2 := (b2.cell (p := ⟨w.heap.size + 1, 0, none⟩) (show w.heap.size + 1 < w1.heap.size by omega)).trans cb1; have hz2 := b2.size)
    go_wp2
    go_ret2
    exact ⟨by rw [HC.out.1, HC.out.2]; exact QqRes.nil _ _ _, belowCall B1 b2⟩
  cases hap : inB ap 0 100000
  · have HC := Lib.hid (cn_2 (ap := ap) (b := b') hok (by simp [hap]))
    (go_enter Try.func12, Try.ntmps12; go_wp2_with fail; generalize ((w.alloc (.cells #[.int .i64 ap] 2)).alloc (.cells #[.int .i64 b'] 2)) = w1 at B1 h1 hz ca1 cb1 ⊢; refine (iValidEs_any a n c xs w1 h1 hn).mono ?_; rintro e w2 ⟨rfl, b2⟩; rw [hok]; have ca2 := (b2.cell (p := ⟨w.heap.size, 0, none⟩) (show w.heap.size < w1.heap.size by omega)).trans ca1; have cb2 := (b2.cell (p := ⟨w.heap.size + 1, 0, none⟩) (show w.heap.size + 1 < w1.heap.size by omega)).trans cb1; have hz2 := b2.size)
    go_wp2_with (go_at_call 53; refine (inRange_any _ _ _ _).mono ?_; rintro e w' ⟨rfl, rfl⟩; (first | rw [hap] | rw [hby]))
    go_ret2
    exact ⟨by rw [HC.out.1, HC.out.2]; exact QqRes.nil _ _ _, belowCall B1 b2⟩
  cases hby : inB b' 1 20000
  · have HC := Lib.hid (cn_2 (ap := ap) (b := b') hok (by simp [hap, hby]))
    (go_enter Try.func12, Try.ntmps12; go_wp2_with fail; generalize ((w.alloc (.cells #[.int .i64 ap] 2)).alloc (.cells #[.int .i64 b'] 2)) = w1 at B1 h1 hz ca1 cb1 ⊢; refine (iValidEs_any a n c xs w1 h1 hn).mono ?_; rintro e w2 ⟨rfl, b2⟩; rw [hok]; have ca2 := (b2.cell (p := ⟨w.heap.size, 0, none⟩) (show w.heap.size < w1.heap.size by omega)).trans ca1; have cb2 := (b2.cell (p := ⟨w.heap.size + 1, 0, none⟩) (show w.heap.size + 1 < w1.heap.size by omega)).trans cb1; have hz2 := b2.size)
    go_wp2_with (go_at_call 53; refine (inRange_any _ _ _ _).mono ?_; rintro e w' ⟨rfl, rfl⟩; (first | rw [hap] | rw [hby]))
    go_ret2
    exact ⟨by rw [HC.out.1, HC.out.2]; exact QqRes.nil _ _ _, belowCall B1 b2⟩
  have HC := Lib.hid (cn_0 (ap := ap) (b := b') hok (by simp [hap, hby]))
  have HOK := Lib.hid hok
  (go_enter Try.func12, Try.ntmps12; go_wp2_with fail; generalize ((w.alloc (.cells #[.int .i64 ap] 2)).alloc (.cells #[.int .i64 b'] 2)) = w1 at B1 h1 hz ca1 cb1 ⊢; refine (iValidEs_any a n c xs w1 h1 hn).mono ?_; rintro e w2 ⟨rfl, b2⟩; rw [hok]; have ca2 := (b2.cell (p := ⟨w.heap.size, 0, none⟩) (show w.heap.size < w1.heap.size by omega)).trans ca1; have cb2 := (b2.cell (p := ⟨w.heap.size + 1, 0, none⟩) (show w.heap.size + 1 < w1.heap.size by omega)).trans cb1; have hz2 := b2.size)
  obtain ⟨ap1, ap2⟩ := inB_iff.1 hap
  obtain ⟨by1, by2⟩ := inB_iff.1 hby
  go_wp2_with (go_at_call 53; refine (inRange_any _ _ _ _).mono ?_; rintro e w' ⟨rfl, rfl⟩; (first | rw [hap] | rw [hby]))
  refine (thatE_any a n c xs ap b' w.heap.size (w.heap.size + 1) w2 (h1.mono b2) HOK.out (by omega) (by omega) ca2 cb2 by1 by2).mono ?_
  rintro e w5 ⟨v5, rfl, hQ, b5⟩
  rw [show cnP xs ap b' n n = cnP xs ap b' xs.length xs.length from by rw [HL.out]] at hQ
  have HQ := Lib.hid (hQ.low (belowCall B1 b2).size)
  clear hQ
  go_wp2
  go_ret2
  exact ⟨by rw [HC.out.1, HC.out.2]; exact QqRes.own HQ.out, belowCall (belowCall B1 b2) b5⟩
end Go.Proofs.Ytfabpcdeppfmdab
