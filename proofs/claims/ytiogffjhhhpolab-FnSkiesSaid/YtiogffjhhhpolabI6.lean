/- InBox, the program's. -/
import Derived.Test.YtiogffjhhhpolabI5
import Derived.Test.YtiogffjhhhpolabI3
import Derived.Lib.SmallJoins
namespace Go.Proofs.Ytiogffjhhhpolab
open Go.ChangeShapes Go.WideShapes Go.ChangeAt Go.RowKit
theorem bvalid_any (fa ta fd td : Int) (w : World) :
    Calls Try.prog 93 #[boxV fa ta fd td] w fun e w' => e = .returned (.bool (boxOk fa ta fd td)) ∧ Below w.heap.size w w' := by
  cases h1 : ascB fa
  · (go_enter Try.func93, Try.ntmps93; go_wp2_with (first | (go_at_call 111; refine (isAsc_any _ _).mono ?_; rintro e w' ⟨rfl, rfl⟩) | (go_at_call 135; refine (isDec_any _ _).mono ?_; rintro e w' ⟨rfl, rfl⟩)); go_ret; exact ⟨by simp [boxOk, *], by (repeat (first | assumption | exact Below.refl _ _ | refine belowDN ?_ _ | refine Below.drew ?_ | refine Below.setCell ?_ (by first | omega | (simp <;> omega)) _ | refine Below.alloc ?_ (by first | omega | (simp <;> omega)) _ | refine belowCall ?_ (by assumption)))⟩)
  cases h2 : ascB ta
  · (go_enter Try.func93, Try.ntmps93; go_wp2_with (first | (go_at_call 111; refine (isAsc_any _ _).mono ?_; rintro e w' ⟨rfl, rfl⟩) | (go_at_call 135; refine (isDec_any _ _).mono ?_; rintro e w' ⟨rfl, rfl⟩)); go_ret; exact ⟨by simp [boxOk, *], by (repeat (first | assumption | exact Below.refl _ _ | refine belowDN ?_ _ | refine Below.drew ?_ | refine Below.setCell ?_ (by first | omega | (simp <;> omega)) _ | refine Below.alloc ?_ (by first | omega | (simp <;> omega)) _ | refine belowCall ?_ (by assumption)))⟩)
  cases h3 : decB fd
  · (go_enter Try.func93, Try.ntmps93; go_wp2_with (first | (go_at_call 111; refine (isAsc_any _ _).mono ?_; rintro e w' ⟨rfl, rfl⟩) | (go_at_call 135; refine (isDec_any _ _).mono ?_; rintro e w' ⟨rfl, rfl⟩)); go_ret; exact ⟨by simp [boxOk, *], by (repeat (first | assumption | exact Below.refl _ _ | refine belowDN ?_ _ | refine Below.drew ?_ | refine Below.setCell ?_ (by first | omega | (simp <;> omega)) _ | refine Below.alloc ?_ (by first | omega | (simp <;> omega)) _ | refine belowCall ?_ (by assumption)))⟩)
  cases h4 : decB td
  · (go_enter Try.func93, Try.ntmps93; go_wp2_with (first | (go_at_call 111; refine (isAsc_any _ _).mono ?_; rintro e w' ⟨rfl, rfl⟩) | (go_at_call 135; refine (isDec_any _ _).mono ?_; rintro e w' ⟨rfl, rfl⟩)); go_ret; exact ⟨by simp [boxOk, *], by (repeat (first | assumption | exact Below.refl _ _ | refine belowDN ?_ _ | refine Below.drew ?_ | refine Below.setCell ?_ (by first | omega | (simp <;> omega)) _ | refine Below.alloc ?_ (by first | omega | (simp <;> omega)) _ | refine belowCall ?_ (by assumption)))⟩)
  by_cases h6 : fd ≤ td
  · (go_enter Try.func93, Try.ntmps93; go_wp2_with (first | (go_at_call 111; refine (isAsc_any _ _).mono ?_; rintro e w' ⟨rfl, rfl⟩) | (go_at_call 135; refine (isDec_any _ _).mono ?_; rintro e w' ⟨rfl, rfl⟩)); go_ret; exact ⟨by simp [boxOk, *], by (repeat (first | assumption | exact Below.refl _ _ | refine belowDN ?_ _ | refine Below.drew ?_ | refine Below.setCell ?_ (by first | omega | (simp <;> omega)) _ | refine Below.alloc ?_ (by first | omega | (simp <;> omega)) _ | refine belowCall ?_ (by assumption)))⟩)
  · (go_enter Try.func93, Try.ntmps93; go_wp2_with (first | (go_at_call 111; refine (isAsc_any _ _).mono ?_; rintro e w' ⟨rfl, rfl⟩) | (go_at_call 135; refine (isDec_any _ _).mono ?_; rintro e w' ⟨rfl, rfl⟩)); go_ret; exact ⟨by simp [boxOk, *], by (repeat (first | assumption | exact Below.refl _ _ | refine belowDN ?_ _ | refine Below.drew ?_ | refine Below.setCell ?_ (by first | omega | (simp <;> omega)) _ | refine Below.alloc ?_ (by first | omega | (simp <;> omega)) _ | refine belowCall ?_ (by assumption)))⟩)
theorem box_bd {fa ta fd td : Int} (h : boxOk fa ta fd td = true) : 0 ≤ fa ∧ fa ≤ 86399 ∧ 0 ≤ ta ∧ ta ≤ 86399 := by
  simp only [boxOk, Bool.and_eq_true, decide_eq_true_eq] at h
  obtain ⟨⟨⟨⟨h1, h2⟩, h3⟩, h4⟩, h5⟩ := h
  obtain ⟨a1, a2⟩ := inB_iff.1 h1
  obtain ⟨d1, d2⟩ := inB_iff.1 h2
  exact ⟨a1, a2, d1, d2⟩
theorem okS_star {xs : List St} {n : Nat} (hn : xs.length = n) (h : okS xs = true) : ∀ k, k < n → starB (xs[k]?.getD st0) = true := fun k hk => by
  simp only [okS, Bool.and_eq_true, List.all_eq_true, List.mem_range, okAt] at h
  exact (h.2 k (by omega)).1
theorem star_asc {x : St} (h : starB x = true) : ascB x.2.1 = true := by
  simp only [starB, Bool.and_eq_true] at h
  exact h.1.1.1.1.2
set_option maxRecDepth 100000 in
set_option maxHeartbeats 4000000 in
theorem iInBox_any (a : Option Addr) (n c : Nat) (xs : List St) (fa ta fd td : Int) (w : World) (h : StL w a n xs) (hn : n ≤ 1048576) :
    Calls Try.prog 40 #[.slice a n c, boxV fa ta fd td] w fun e w' => ChosenI w.heap.size (okS xs && boxOk fa ta fd td) 1 (selL (inP fa ta fd td) xs n) w' e ∧ Below w.heap.size w w' := by
  have B1 : Below w.heap.size w (w.alloc (.cells #[.int .i64 fa, .int .i64 ta, .int .i64 fd, .int .i64 td] 58)) := (Below.refl _ w).alloc (Nat.le_refl _) _
  have h1 := h.mono B1
  have hbx := BxC.fresh w 58 fa ta fd td
  cases hok : okS xs
  · go_enter Try.func40, Try.ntmps40
    go_wp2_with (go_at_call 92; refine (iValidStars_any a n c xs _ h1 hn).mono ?_; rintro e w2 ⟨rfl, hb2⟩; rw [hok]; have kb := hbx.mono hb2; obtain ⟨klt, k0, k1, k2, k3⟩ := kb)
    go_ret2
    exact ⟨.inr ⟨rfl, rfl⟩, belowCall B1 hb2⟩
  cases hbo : boxOk fa ta fd td
  · go_enter Try.func40, Try.ntmps40
    go_wp2_with (first | (go_at_call 92; refine (iValidStars_any a n c xs _ h1 hn).mono ?_; rintro e w2 ⟨rfl, hb2⟩; rw [hok]; have kb := hbx.mono hb2; obtain ⟨klt, k0, k1, k2, k3⟩ := kb) | (go_at_call 93; refine (bvalid_any _ _ _ _ _).mono ?_; rintro e w3 ⟨rfl, hb3⟩; rw [hbo]))
    go_ret2
    exact ⟨.inr ⟨rfl, rfl⟩, belowCall (belowCall B1 hb2) hb3⟩
  go_enter Try.func40, Try.ntmps40
  go_wp2_with fail
  refine (iValidStars_any a n c xs _ h1 hn).mono ?_
  rintro e w2 ⟨rfl, hb2⟩
  rw [hok]
  have kb := hbx.mono hb2
  obtain ⟨klt, k0, k1, k2, k3⟩ := kb
  go_wp2_with fail
  refine (bvalid_any _ _ _ _ _).mono ?_
  rintro e w3 ⟨rfl, hb3⟩
  rw [hbo]
  obtain ⟨jlt, j0, j1, j2, j3⟩ := (hbx.mono hb2).mono hb3
  have B3 : Below w.heap.size w w3 := belowCall (belowCall B1 hb2) hb3
  go_wp2_with (first | (go_at_call 95; refine (starsThat_any _ _ _ _ _ _ _).mono ?_; rintro e w4 ⟨rfl, hb4, c1, c2⟩))
  have hBw : Below w.heap.size w w4 := belowCall B3 hb4
  obtain ⟨q1, q2, q3, q4⟩ := box_bd hbo
  refine (Collect_any _ _ (selL (inP fa ta fd td) xs n) n hn w4 (enters_of Try.func137 (by kernel_rfl) rfl) (stars1_has w3.heap.size (w3.heap.size + 1) a n c xs fa ta fd td w4 (h.mono hBw) hn q1 q2 q3 q4 (fun k hk => star_asc (okS_star h.1 hok k hk)) c1 c2)).mono ?_
  rintro e w5 ⟨v, rfl, hown, hb5⟩
  go_wp2
  go_ret2
  exact ⟨.inl ⟨rfl, v, rfl, Go.Joins.ownsRow_le hown hBw.size⟩, belowCall hBw hb5⟩
end Go.Proofs.Ytiogffjhhhpolab
