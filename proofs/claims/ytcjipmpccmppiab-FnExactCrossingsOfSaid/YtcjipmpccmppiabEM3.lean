/- Crossings, the model's side. -/
import Derived.Test.YtcjipmpccmppiabEM2
namespace Go.Proofs.Ytcjipmpccmppiab
open Go.ChangeShapes Go.WideShapes Go.ChangeAt Go.RowKit Go.Deep

theorem l12Level_any (a : Option Addr) (n c : Nat) (xs : List Pt) (l : Int) (w : World) (h : PtL w a n xs) (hn : n ≤ 1048576) :
    Calls Try.prog 83 #[.slice a n c, .int .i64 l] w fun x w' => x = .returned (.int .i64 (crC xs l)) ∧ Below w.heap.size w w' := by
  cases hok : okP xs
  · have HD := Lib.hid (cr_1 (l := l) hok).1
    go_enter Try.func83, Try.ntmps83
    go_wp2_with fail
    refine (l08Ok_below a n c xs w h hn).mono ?_
    rintro x w2 ⟨rfl, b2⟩
    rw [hok]
    go_wp2
    go_ret
    exact ⟨by rw [HD.out]; rfl, b2⟩
  cases hin : magB l
  · have HD := Lib.hid (cr_2 hok hin).1
    go_enter Try.func83, Try.ntmps83
    go_wp2_with fail
    refine (l08Ok_below a n c xs w h hn).mono ?_
    rintro x w2 ⟨rfl, b2⟩
    rw [hok]
    go_wp2_with ((go_at_call 68; refine (l02Mag_any _ _).mono ?_; rintro x w' ⟨rfl, rfl⟩; rw [hin]))
    go_ret
    exact ⟨by rw [HD.out]; rfl, b2⟩
  · have HD := Lib.hid (cr_0 h.1 hok hin).1
    go_enter Try.func83, Try.ntmps83
    go_wp2_with fail
    refine (l08Ok_below a n c xs w h hn).mono ?_
    rintro x w2 ⟨rfl, b2⟩
    rw [hok]
    go_wp2_with ((go_at_call 68; refine (l02Mag_any _ _).mono ?_; rintro x w' ⟨rfl, rfl⟩; rw [hin]))
    go_ret
    exact ⟨by rw [HD.out]; rfl, b2⟩
theorem crC_parts {xs : List Pt} {l : Int} (h : crC xs l = 0) : okP xs = true ∧ magB l = true := by
  unfold crC at h
  cases h1 : okP xs
  · simp [h1] at h
  · cases h2 : magB l
    · simp [h1, h2] at h
    · exact ⟨rfl, rfl⟩
theorem crA_not {xs : List Pt} {l : Int} (h : crC xs l ≠ 0) : crA xs l = [] := by simp [crA, h]
/-- the model's numerator and denominator of a crossing -/
theorem cr_model {x0 x1 y0 y1 l : Int} (hc : (decide (x1 < l) != decide (y1 < l)) = true) :
    ∃ D G : Int, (((y1 - l) - (x1 - l)).natAbs : Int) = D ∧ ((x1 - l).natAbs : Int) = G ∧ 1 ≤ D ∧ D ≤ (x1 - y1).natAbs ∧
      qtN (x0 * (y1 - l) + y0 * (l - x1)) (y1 - x1) = lowN (x0 * D + (y0 - x0) * G) D ∧ qtD (x0 * (y1 - l) + y0 * (l - x1)) (y1 - x1) = lowD (x0 * D + (y0 - x0) * G) D := by
  refine ⟨_, _, rfl, rfl, ?_⟩
  by_cases h1 : x1 < l
  · have h2 : ¬ y1 < l := by
      intro h2
      simp [h1, h2] at hc
    have e1 : (((y1 - l) - (x1 - l)).natAbs : Int) = y1 - x1 := by omega
    have e2 : ((x1 - l).natAbs : Int) = l - x1 := by omega
    have hq := qt_pos (a := x0 * (y1 - l) + y0 * (l - x1)) (b := y1 - x1) (by omega)
    rw [e1, e2, cr_up]
    exact ⟨by omega, by omega, hq.1, hq.2⟩
  · have h2 : y1 < l := by
      by_cases h2 : y1 < l
      · exact h2
      · simp [h1, h2] at hc
    have e1 : (((y1 - l) - (x1 - l)).natAbs : Int) = x1 - y1 := by omega
    have e2 : ((x1 - l).natAbs : Int) = x1 - l := by omega
    have hq := qt_neg (a := x0 * (y1 - l) + y0 * (l - x1)) (b := y1 - x1) (by omega)
    rw [show -(y1 - x1) = x1 - y1 by omega] at hq
    rw [e1, e2, cr_down]
    exact ⟨by omega, by omega, hq.1, hq.2⟩
end Go.Proofs.Ytcjipmpccmppiab
