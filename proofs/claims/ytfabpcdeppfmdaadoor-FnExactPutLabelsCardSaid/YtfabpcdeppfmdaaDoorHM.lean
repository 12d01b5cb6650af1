/- A label's box, the program's; LabelBox, both sides. -/
import Derived.Test.YtfabpcdeppfmdaaDoorHL
namespace Go.Proofs.YtfabpcdeppfmdaaDoor
open Go.ChangeShapes Go.WideShapes Go.ChangeAt Go.RowKit Go.Deep

set_option maxRecDepth 100000 in
set_option maxHeartbeats 4000000 in
theorem labelOn_any (x0 x1 x2 s : Int) (w : World) (hv : mrkB (x0, x1, x2) = true) (h0 : 0 ≤ s) (h3 : s ≤ 3) (hp : Pow w) (hw : Ways w) (r0 r1 r2 r3 : Int) (hr : bxQ (x0, x1, x2) s = (r0, r1, r2, r3)) :
    Calls Tryd.prog 46 #[.agg #[.int .i64 x0, .int .i64 x1, .int .i64 x2], .int .i64 s] w fun e w' => e = .returned (.agg #[.int .i64 r0, .int .i64 r1, .int .i64 r2, .int .i64 r3]) ∧ Below w.heap.size w w' := by
  obtain ⟨⟨m1, m2⟩, ⟨m3, m4⟩, m5, m6⟩ := mrkB_bd hv
  have hS := labB_len m5 m6
  have HV := Lib.hid (labS_yes (magB_iff.2 ⟨m5, m6⟩))
  have hbx := MkC.fresh2 w 35 (.cells #[.int .i64 0, .int .i64 0, .int .i64 0, .int .i64 0] 70) x0 x1 x2
  have hrs := Bx4.fresh (w.alloc (.cells #[.int .i64 x0, .int .i64 x1, .int .i64 x2] 35)) 70 0 0 0 0
  rw [World.size_alloc] at hrs
  have hb1 : Below w.heap.size w ((w.alloc (.cells #[.int .i64 x0, .int .i64 x1, .int .i64 x2] 35)).alloc (.cells #[.int .i64 0, .int .i64 0, .int .i64 0, .int .i64 0] 70)) := ((Below.refl _ w).alloc (Nat.le_refl _) _).alloc (by simp) _
  have hr' : (x0 + 4 = r0 ∧ x1 - 4 = r1 ∧ x0 + 4 + 6 * ((labB x2).size : Int) = r2 ∧ x1 + 4 = r3 ∧ s = 0) ∨ (x0 - 4 - 6 * ((labB x2).size : Int) = r0 ∧ x1 - 4 = r1 ∧ x0 - 4 = r2 ∧ x1 + 4 = r3 ∧ s = 1) ∨ (x0 - 3 * ((labB x2).size : Int) = r0 ∧ x1 + 4 = r1 ∧ x0 + 3 * ((labB x2).size : Int) = r2 ∧ x1 + 12 = r3 ∧ s = 2) ∨ (x0 - 3 * ((labB x2).size : Int) = r0 ∧ x1 - 12 = r1 ∧ x0 + 3 * ((labB x2).size : Int) = r2 ∧ x1 - 4 = r3 ∧ s = 3) := by
    have hs : s = 0 ∨ s = 1 ∨ s = 2 ∨ s = 3 := by omega
    rcases hs with rfl | rfl | rfl | rfl
    · rw [bx_0] at hr; simp only [Prod.mk.injEq] at hr; exact .inl ⟨hr.1, hr.2.1, hr.2.2.1, hr.2.2.2, rfl⟩
    · rw [bx_1] at hr; simp only [Prod.mk.injEq] at hr; exact .inr (.inl ⟨hr.1, hr.2.1, hr.2.2.1, hr.2.2.2, rfl⟩)
    · rw [bx_2] at hr; simp only [Prod.mk.injEq] at hr; exact .inr (.inr (.inl ⟨hr.1, hr.2.1, hr.2.2.1, hr.2.2.2, rfl⟩))
    · rw [bx_3] at hr; simp only [Prod.mk.injEq] at hr; exact .inr (.inr (.inr ⟨hr.1, hr.2.1, hr.2.2.1, hr.2.2.2, rfl⟩))
  clear hr hv h0 h3
  go_enter Tryd.func46, Tryd.ntmps46
  go_wp2_with fail
  refine (iLabelOf_any x2 _ (hp.mono hb1)).mono ?_
  rintro e w2 ⟨rfl, b2⟩
  rw [HV.out]
  obtain ⟨hbl, k0, k1, k2⟩ := (hbx.mono b2).parts
  rw [Nat.zero_add] at k1 k2
  have hrs2 := hrs.below b2
  have hrl := hrs2.parts.1
  have hb2 := belowCall hb1 b2
  have z2 := hb2.size
  obtain ⟨hg, hways⟩ := (hw.mono hb2).at
  have g0 := hways 0 (by decide)
  have g1 := hways 1 (by decide)
  have g2 := hways 2 (by decide)
  have g3 := hways 3 (by decide)
  have g4 := hways 4 (by decide)
  have g5 := hways 5 (by decide)
  have g6 := hways 6 (by decide)
  have g7 := hways 7 (by decide)
  simp only [waysL, List.getD_cons_zero, List.getD_cons_succ] at g0 g1 g2 g3 g4 g5 g6 g7
  clear hbx hrs hb1 b2 hp hw hways HV
  generalize labB x2 = S at hS hr' ⊢
  have hq : ((S.size : Int) * 6).tdiv 2 = 3 * (S.size : Int) := by rw [Int.tdiv_eq_ediv_of_nonneg (by omega)]; omega
  rcases hr' with ⟨e0, e1, e2, e3, rfl⟩ | ⟨e0, e1, e2, e3, rfl⟩ | ⟨e0, e1, e2, e3, rfl⟩ | ⟨e0, e1, e2, e3, rfl⟩
  all_goals
    have E0 := Lib.hid e0
    have E1 := Lib.hid e1
    have E2 := Lib.hid e2
    have E3 := Lib.hid e3
    clear e0 e1 e2 e3
    go_wp2_with fail
    have e0 := E0.out
    have e1 := E1.out
    have e2 := E2.out
    have e3 := E3.out
    refine (moved_any _ _ _ _ _ _ r0 r1 r2 r3 _ (by omega) (by omega) (by omega) (by omega) (by omega) (by omega) (by omega) (by omega)).mono ?_
    rintro e w3 ⟨rfl, b3⟩
    clear e0 e1 e2 e3 E0 E1 E2 E3
    have B23 : Below w2.heap.size w2 w3 := belowCall (((Below.refl _ w2).alloc (Nat.le_refl _) _).alloc (by simp) _) b3
    have hrs3 := hrs2.below B23
    obtain ⟨-, ⟨i0, i1, i2, i3⟩, y0, y1, y2, y3⟩ := hrs3.parts
    have hb3 := belowCall hb2 B23
    have z3 := B23.size
    obtain ⟨-, ⟨q0, q1, q2, q3⟩, -⟩ := (hrs3.put r0 r1 r2 r3).parts
    have hB4 : Below w.heap.size w ((((w3.setCell ⟨w.heap.size + 1, 0, none⟩ (.int .i64 r0)).setCell ⟨w.heap.size + 1, 1, none⟩ (.int .i64 r1)).setCell ⟨w.heap.size + 1, 2, none⟩ (.int .i64 r2)).setCell ⟨w.heap.size + 1, 3, none⟩ (.int .i64 r3)) := by (repeat (first | assumption | exact Below.refl _ _ | refine belowDN ?_ _ | refine Below.drew ?_ | refine Below.setCell ?_ (by first | omega | (simp <;> omega)) _ | refine Below.alloc ?_ (by first | omega | (simp <;> omega)) _ | refine belowCall ?_ (by assumption)))
    clear hrs2 hrs3 k0 k1 k2 b3 B23 g0 g1 g2 g3 g4 g5 g6 g7 hb2 hb3
    go_wp2
    generalize (((w3.setCell ⟨w.heap.size + 1, 0, none⟩ (.int .i64 r0)).setCell ⟨w.heap.size + 1, 1, none⟩ (.int .i64 r1)).setCell ⟨w.heap.size + 1, 2, none⟩ (.int .i64 r2)).setCell ⟨w.heap.size + 1, 3, none⟩ (.int .i64 r3) = w4 at q0 q1 q2 q3 hB4 ⊢
    exact bodyPost_ret (v := .agg #[.int .i64 r0, .int .i64 r1, .int .i64 r2, .int .i64 r3]) (by simp [results, Tryd.results46, go_sem, q0, q1, q2, q3]) rfl ⟨rfl, hB4⟩
def lbC (x : Mk) (s : Int) : Int := if mrkB x then (if inB s 0 3 then 0 else 2) else 1
def lbL (x : Mk) (s : Int) : List Int := if lbC x s = 0 then q4L (bxQ x s) else []
theorem lb_1 {x : Mk} {s : Int} (h : mrkB x = false) : lbC x s = 1 ∧ lbL x s = [] := by simp [lbL, lbC, h]
theorem lb_2 {x : Mk} {s : Int} (h : mrkB x = true) (h2 : inB s 0 3 = false) : lbC x s = 2 ∧ lbL x s = [] := by simp [lbL, lbC, h, h2]
theorem lb_0 {x : Mk} {s : Int} (h : mrkB x = true) (h2 : inB s 0 3 = true) : lbC x s = 0 ∧ lbL x s = q4L (bxQ x s) := by simp [lbL, lbC, h, h2]
theorem lbL_len (x : Mk) (s : Int) : (lbL x s).length ≤ 1048576 := by
  unfold lbL
  split <;> simp [q4L]
set_option maxHeartbeats 1000000 in
theorem sLabelBox_any (x0 x1 x2 s : Int) (w : World) :
    Calls Tryd.prog 17 #[.agg #[.int .i64 x0, .int .i64 x1, .int .i64 x2], .int .i64 s] w fun e w' => IntRes w.heap.size (lbL (x0, x1, x2) s) (.int .i64 (lbC (x0, x1, x2) s)) w' e ∧ Below w.heap.size w w' := by
  have hbx := MkC.fresh w 35 x0 x1 x2
  have hb1 : Below w.heap.size w (w.alloc (.cells #[.int .i64 x0, .int .i64 x1, .int .i64 x2] 35)) := (Below.refl _ w).alloc (Nat.le_refl _) _
  cases hv : mrkB (x0, x1, x2)
  · have HC := Lib.hid (lb_1 (s := s) hv)
    go_enter Tryd.func17, Tryd.ntmps17
    go_wp2_with fail
    (refine (l07One_any x0 x1 x2 _).mono ?_; rintro e w2 ⟨rfl, b2⟩; rw [hv]; obtain ⟨-, k0, k1, k2⟩ := (hbx.mono b2).parts; rw [Nat.zero_add] at k1 k2; have hb2 := belowCall hb1 b2)
    go_wp2
    go_ret2
    exact ⟨by rw [HC.out.1, HC.out.2]; exact IntRes.nil _ _ _, hb2⟩
  cases hs : inB s 0 3
  · have HC := Lib.hid (lb_2 hv hs)
    go_enter Tryd.func17, Tryd.ntmps17
    go_wp2_with fail
    (refine (l07One_any x0 x1 x2 _).mono ?_; rintro e w2 ⟨rfl, b2⟩; rw [hv]; obtain ⟨-, k0, k1, k2⟩ := (hbx.mono b2).parts; rw [Nat.zero_add] at k1 k2; have hb2 := belowCall hb1 b2)
    go_wp2_with (go_at_call 56; refine (l00In_any _ _ _ _).mono ?_; rintro e w' ⟨rfl, rfl⟩)
    go_ret2
    exact ⟨by rw [HC.out.1, HC.out.2]; exact IntRes.nil _ _ _, hb2⟩
  · have HC := Lib.hid (lb_0 hv hs)
    obtain ⟨h0, h3⟩ := inB_iff.1 hs
    have HV := Lib.hid hv
    go_enter Tryd.func17, Tryd.ntmps17
    go_wp2_with fail
    (refine (l07One_any x0 x1 x2 _).mono ?_; rintro e w2 ⟨rfl, b2⟩; rw [hv]; obtain ⟨-, k0, k1, k2⟩ := (hbx.mono b2).parts; rw [Nat.zero_add] at k1 k2; have hb2 := belowCall hb1 b2)
    clear hv
    go_wp2_with (go_at_call 56; refine (l00In_any _ _ _ _).mono ?_; rintro e w' ⟨rfl, rfl⟩)
    refine (l07Box_any x0 x1 x2 s _ HV.out h0 h3).mono ?_
    rintro e w5 ⟨g5, rfl, hown, b5⟩
    have HO := Lib.hid (ownLow hown hb2.size)
    clear hown
    go_wp2
    go_ret2
    exact ⟨by rw [HC.out.1, HC.out.2]; exact IntRes.own HO.out rfl, belowCall hb2 b5⟩
theorem isSide_any (n : Int) (w : World) :
    Calls Tryd.prog 45 #[.int .i64 n] w fun e w' => e = .returned (.bool (inB n 0 3)) ∧ w = w' := by
  go_enter Tryd.func45, Tryd.ntmps45
  go_wp2_with (go_at_call 71; refine (inRange_any _ _ _ _).mono ?_; rintro e w' ⟨rfl, rfl⟩)
  go_ret
  exact ⟨rfl, rfl⟩
set_option maxHeartbeats 1000000 in
theorem iLabelBox_any (x0 x1 x2 s : Int) (w : World) (hp : Pow w) (hw : Ways w) :
    Calls Tryd.prog 16 #[.agg #[.int .i64 x0, .int .i64 x1, .int .i64 x2], .int .i64 s] w fun e w' => IntRes w.heap.size (lbL (x0, x1, x2) s) (.int .i64 (lbC (x0, x1, x2) s)) w' e ∧ Below w.heap.size w w' := by
  have hbx := MkC.fresh w 35 x0 x1 x2
  have hb1 : Below w.heap.size w (w.alloc (.cells #[.int .i64 x0, .int .i64 x1, .int .i64 x2] 35)) := (Below.refl _ w).alloc (Nat.le_refl _) _
  cases hv : mrkB (x0, x1, x2)
  · have HC := Lib.hid (lb_1 (s := s) hv)
    go_enter Tryd.func16, Tryd.ntmps16
    go_wp2_with fail
    (refine (mkValid_any x0 x1 x2 _).mono ?_; rintro e w2 ⟨rfl, b2⟩; rw [hv]; obtain ⟨-, k0, k1, k2⟩ := (hbx.mono b2).parts; rw [Nat.zero_add] at k1 k2; have hb2 := belowCall hb1 b2)
    go_wp2
    go_ret2
    exact ⟨by rw [HC.out.1, HC.out.2]; exact IntRes.nil _ _ _, hb2⟩
  cases hs : inB s 0 3
  · have HC := Lib.hid (lb_2 hv hs)
    go_enter Tryd.func16, Tryd.ntmps16
    go_wp2_with fail
    (refine (mkValid_any x0 x1 x2 _).mono ?_; rintro e w2 ⟨rfl, b2⟩; rw [hv]; obtain ⟨-, k0, k1, k2⟩ := (hbx.mono b2).parts; rw [Nat.zero_add] at k1 k2; have hb2 := belowCall hb1 b2)
    go_wp2_with (go_at_call 45; refine (isSide_any _ _).mono ?_; rintro e w' ⟨rfl, rfl⟩)
    go_ret2
    exact ⟨by rw [HC.out.1, HC.out.2]; exact IntRes.nil _ _ _, hb2⟩
  · have HC := Lib.hid (lb_0 hv hs)
    obtain ⟨h0, h3⟩ := inB_iff.1 hs
    have HV := Lib.hid hv
    obtain ⟨⟨r0, r1, r2, r3⟩, hr⟩ : ∃ r, bxQ (x0, x1, x2) s = r := ⟨_, rfl⟩
    rw [hr] at HC
    have HR := Lib.hid hr
    clear hr
    go_enter Tryd.func16, Tryd.ntmps16
    go_wp2_with fail
    (refine (mkValid_any x0 x1 x2 _).mono ?_; rintro e w2 ⟨rfl, b2⟩; rw [hv]; obtain ⟨-, k0, k1, k2⟩ := (hbx.mono b2).parts; rw [Nat.zero_add] at k1 k2; have hb2 := belowCall hb1 b2)
    clear hv
    go_wp2_with (go_at_call 45; refine (isSide_any _ _).mono ?_; rintro e w' ⟨rfl, rfl⟩)
    refine (labelOn_any x0 x1 x2 s _ HV.out h0 h3 (hp.mono hb2) (hw.mono hb2) r0 r1 r2 r3 HR.out).mono ?_
    rintro e w4 ⟨rfl, b4⟩
    have hb4 := belowCall hb2 b4
    go_wp2_with fail
    refine (boxList_any r0 r1 r2 r3 _).mono ?_
    rintro e w5 ⟨g5, rfl, hown, b5⟩
    have HO := Lib.hid (ownLow hown hb4.size)
    clear hown
    go_wp2
    go_ret2
    exact ⟨by rw [HC.out.1, HC.out.2]; exact IntRes.own HO.out rfl, belowCall hb4 b5⟩
end Go.Proofs.YtfabpcdeppfmdaaDoor
