/- Chapter 4: ascensions apart, the box around a star; the program's and the model's. -/
import Derived.Test.YtiogffjhhhpolabS1
namespace Go.Proofs.Ytiogffjhhhpolab
open Go.ChangeShapes Go.WideShapes Go.ChangeAt Go.RowKit

theorem flipS {P : Program} {f : FuncId} {args : Array Value} {w : World} {v : Value} (h : Calls P f args w fun e w' => e = .returned v ∧ w = w') : Calls P f args w fun e w' => e = .returned v ∧ w' = w :=
  h.mono fun _ _ hh => ⟨hh.1, hh.2.symm⟩
def mn (a b : Int) : Int := if b < a then b else a
def mx (a b : Int) : Int := if a < b then b else a
theorem mn_le {a b : Int} (h : a ≤ b) : mn a b = a := by unfold mn; rw [if_neg (by omega)]
theorem mn_gt {a b : Int} (h : b < a) : mn a b = b := by unfold mn; rw [if_pos h]
theorem mx_le {a b : Int} (h : b ≤ a) : mx a b = a := by unfold mx; rw [if_neg (by omega)]
theorem mx_gt {a b : Int} (h : a < b) : mx a b = b := by unfold mx; rw [if_pos h]
theorem sMin_any (a b : Int) (w : World) :
    Calls Try.prog 56 #[.int .i64 a, .int .i64 b] w fun e w' => e = .returned (.int .i64 (mn a b)) ∧ w = w' := by
  by_cases h : a < b
  all_goals
    go_enter Try.func56, Try.ntmps56
    go_wp2
    go_ret
    exact ⟨ret_int (by simp only [mn]; split <;> omega), rfl⟩
theorem sMax_any (a b : Int) (w : World) :
    Calls Try.prog 57 #[.int .i64 a, .int .i64 b] w fun e w' => e = .returned (.int .i64 (mx a b)) ∧ w = w' := by
  by_cases h : a > b
  all_goals
    go_enter Try.func57, Try.ntmps57
    go_wp2
    go_ret
    exact ⟨ret_int (by simp only [mx]; split <;> omega), rfl⟩
theorem around_any (n : Int) (w : World) (h1 : -86400 ≤ n) (h2 : n ≤ 1000000) :
    Calls Try.prog 110 #[.int .i64 n] w fun e w' => e = .returned (.int .i64 (n % 86400)) ∧ w = w' := by
  have tm : (n + 86400).tmod 86400 = n % 86400 := by rw [Int.tmod_eq_emod_of_nonneg (by omega)]; omega
  have e0 : 0 ≤ n % 86400 := by omega
  have e1 : n % 86400 ≤ 86399 := by omega
  go_enter Try.func110, Try.ntmps110
  go_wp2
  go_ret
  exact ⟨ret_int (by omega), rfl⟩
theorem upwards_any (a b : Int) (w : World) (h1 : 0 ≤ a) (h2 : a ≤ 86399) (h3 : 0 ≤ b) (h4 : b ≤ 86399) :
    Calls Try.prog 112 #[.int .i64 a, .int .i64 b] w fun e w' => e = .returned (.int .i64 ((b - a) % 86400)) ∧ w = w' := by
  go_enter Try.func112, Try.ntmps112
  go_wp2_with (go_at_call 110; refine (around_any _ _ (by omega) (by omega)).mono ?_; rintro e w' ⟨rfl, rfl⟩)
  go_ret
  exact ⟨rfl, rfl⟩
def apV (a b : Int) : Value := if ascB a && ascB b then .tuple #[.int .i64 (mn (a - b).natAbs (86400 - (a - b).natAbs)), .int .i64 0] else .tuple #[.int .i64 0, .int .i64 2]
theorem apV_no {a b : Int} (h : (ascB a && ascB b) = false) : apV a b = .tuple #[.int .i64 0, .int .i64 2] := by simp [apV, h]
theorem apV_yes {a b : Int} (h1 : ascB a = true) (h2 : ascB b = true) : apV a b = .tuple #[.int .i64 (mn (a - b).natAbs (86400 - (a - b).natAbs)), .int .i64 0] := by simp [apV, h1, h2]
theorem iApart_any (a b : Int) (w : World) :
    Calls Try.prog 53 #[.int .i64 a, .int .i64 b] w fun e w' => e = .returned (apV a b) ∧ w = w' := by
  cases h1 : ascB a
  · have HV := Lib.hid (apV_no (a := a) (b := b) (by rw [h1]; rfl))
    go_enter Try.func53, Try.ntmps53
    go_wp2_with (go_at_call 111; refine (isAsc_any _ _).mono ?_; rintro e w' ⟨rfl, rfl⟩)
    go_ret2
    exact ⟨by rw [HV.out]; rfl, rfl⟩
  cases h2 : ascB b
  · have HV := Lib.hid (apV_no (a := a) (b := b) (by rw [h1, h2]; rfl))
    go_enter Try.func53, Try.ntmps53
    go_wp2_with (go_at_call 111; refine (isAsc_any _ _).mono ?_; rintro e w' ⟨rfl, rfl⟩)
    go_ret2
    exact ⟨by rw [HV.out]; rfl, rfl⟩
  have HV := Lib.hid (apV_yes h1 h2)
  obtain ⟨a1, a2⟩ := inB_iff.1 h1
  obtain ⟨b1, b2⟩ := inB_iff.1 h2
  obtain ⟨x, hx⟩ : ∃ x, (b - a) % 86400 = x := ⟨_, rfl⟩
  obtain ⟨y, hy⟩ : ∃ y, (a - b) % 86400 = y := ⟨_, rfl⟩
  have hq : mn (a - b).natAbs (86400 - (a - b).natAbs) = (if y < x then y else x) := by unfold mn; split <;> split <;> omega
  rw [hq] at HV
  have HX := Lib.hid hx
  have HY := Lib.hid hy
  clear hq hx hy
  by_cases hxy : y < x
  all_goals
    go_enter Try.func53, Try.ntmps53
    go_wp2_with (first | (go_at_call 111; refine (isAsc_any _ _).mono ?_; rintro e w' ⟨rfl, rfl⟩) | ((go_at_call 112; refine (upwards_any _ _ _ (by omega) (by omega) (by omega) (by omega)).mono ?_; rintro e w' ⟨rfl, rfl⟩); rw [HX.out]) | ((go_at_call 112; refine (upwards_any _ _ _ (by omega) (by omega) (by omega) (by omega)).mono ?_; rintro e w' ⟨rfl, rfl⟩); rw [HY.out]))
    go_ret2
    exact ⟨by rw [HV.out]; first | (simp; done) | (simp; omega) | (simp [hxy]; done), rfl⟩
end Go.Proofs.Ytiogffjhhhpolab
