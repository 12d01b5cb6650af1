/- CycleOf, PhaseOf, NextTime, both sides. -/
import Derived.Test.YtidiiladlmaigaaF1
namespace Go.Proofs.Ytidiiladlmaigaa
open Go.ChangeShapes Go.WideShapes Go.ChangeAt Go.RowKit Go.Deep

theorem cyV_1 {e p t : Int} (h : ephB e p = false) : cycV e p t = duo 0 1 := by simp [cycV, h]
theorem cyV_2 {e p t : Int} (h : ephB e p = true) (h2 : tmB t = false) : cycV e p t = duo 0 2 := by simp [cycV, h, h2]
theorem cyV_0 {e p t : Int} (h : ephB e p = true) (h2 : tmB t = true) : cycV e p t = duo (cyc e p t) 0 := by simp [cycV, h, h2]
theorem phV_1 {e p t : Int} (h : ephB e p = false) : phsV e p t = duo 0 1 := by simp [phsV, h]
theorem phV_2 {e p t : Int} (h : ephB e p = true) (h2 : tmB t = false) : phsV e p t = duo 0 2 := by simp [phsV, h, h2]
theorem phV_0 {e p t : Int} (h : ephB e p = true) (h2 : tmB t = true) : phsV e p t = duo (phs e p t) 0 := by simp [phsV, h, h2]
theorem nxV_1 {e p t : Int} (h : ephB e p = false) : nxtV e p t = duo 0 1 := by simp [nxtV, h]
theorem nxV_2 {e p t : Int} (h : ephB e p = true) (h2 : tmB t = false) : nxtV e p t = duo 0 2 := by simp [nxtV, h, h2]
theorem nxV_0 {e p t : Int} (h : ephB e p = true) (h2 : tmB t = true) : nxtV e p t = duo (nxt e p t) 0 := by simp [nxtV, h, h2]
theorem ecd_1 {e p t : Int} (h : ephB e p = false) : ecd e p [t] = 1 := ecd_eph h
theorem ecd_2 {e p t : Int} (h : ephB e p = true) (h2 : tmB t = false) : ecd e p [t] = 2 := ecd_tm h (by simp [h2])
theorem ecd_0 {e p t : Int} (h : ephB e p = true) (h2 : tmB t = true) : ecd e p [t] = 0 := ecd_ok h (by simp [h2])
theorem sPhsOf_any (e p t : Int) (w : World) :
    Calls Try.prog 26 #[.agg #[.int .i64 e, .int .i64 p], .int .i64 t] w fun x w' => x = .returned (phsV e p t) ∧ Below w.heap.size w w' := by
  (have hbx := PtC.fresh w 44 e p; have B1 : Below w.heap.size w (w.alloc (.cells #[.int .i64 e, .int .i64 p] 44)) := (Below.refl _ w).alloc (Nat.le_refl _) _)
  cases he : ephB e p
  · have HC := Lib.hid (ecd_1 (t := t) he)
    have HD := Lib.hid (phV_1 (t := t) he)
    go_enter Try.func26, Try.ntmps26
    go_wp2_with fail
    (generalize w.alloc (.cells #[.int .i64 e, .int .i64 p] 44) = v at hbx B1 ⊢; refine (l09Code_any e p t v).mono ?_; rintro x w2 ⟨rfl, b2⟩; have B2 := belowCall B1 b2; obtain ⟨-, k0, k1⟩ := (hbx.mono b2).parts; rw [Nat.zero_add] at k1)
    rw [HC.out]
    go_wp2
    go_ret2
    exact ⟨by rw [HD.out]; rfl, B2⟩
  cases ht : tmB t
  · have HC := Lib.hid (ecd_2 he ht)
    have HD := Lib.hid (phV_2 he ht)
    go_enter Try.func26, Try.ntmps26
    go_wp2_with fail
    (generalize w.alloc (.cells #[.int .i64 e, .int .i64 p] 44) = v at hbx B1 ⊢; refine (l09Code_any e p t v).mono ?_; rintro x w2 ⟨rfl, b2⟩; have B2 := belowCall B1 b2; obtain ⟨-, k0, k1⟩ := (hbx.mono b2).parts; rw [Nat.zero_add] at k1)
    rw [HC.out]
    go_wp2
    go_ret2
    exact ⟨by rw [HD.out]; rfl, B2⟩
  have HC := Lib.hid (ecd_0 he ht)
  have HD := Lib.hid (phV_0 he ht)
  obtain ⟨⟨h1, h2⟩, h3, h4⟩ := ephB_iff.1 he
  obtain ⟨h5, h6⟩ := tmB_iff.1 ht
  go_enter Try.func26, Try.ntmps26
  go_wp2_with fail
  (generalize w.alloc (.cells #[.int .i64 e, .int .i64 p] 44) = v at hbx B1 ⊢; refine (l09Code_any e p t v).mono ?_; rintro x w2 ⟨rfl, b2⟩; have B2 := belowCall B1 b2; obtain ⟨-, k0, k1⟩ := (hbx.mono b2).parts; rw [Nat.zero_add] at k1)
  rw [HC.out]
  go_wp2_with fail
  refine (sPhs_any e p t _ h1 h2 h3 h4 (by omega) (by omega)).mono ?_
  rintro x w3 ⟨rfl, b3⟩
  go_wp2
  go_ret2
  exact ⟨by rw [HD.out]; rfl, belowCall B2 b3⟩
end Go.Proofs.Ytidiiladlmaigaa
