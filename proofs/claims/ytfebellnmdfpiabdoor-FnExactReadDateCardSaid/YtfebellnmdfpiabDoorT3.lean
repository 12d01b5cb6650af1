/- Contracts of chapter 3's functions of dates without loops, the program's and the model's. -/
import Derived.Test.YtfebellnmdfpiabDoorT2
import Derived.LaidSub
import Derived.Lib.LaidTab
import Derived.Lib.AppendIntMem
namespace Go.Proofs.YtfebellnmdfpiabDoor
open Go.ChangeShapes Go.WideShapes Go.ChangeAt Go.RowKit

def dt (y m d : Int) : Value := .agg #[.int .i64 y, .int .i64 m, .int .i64 d]
def dtx (y m d c : Int) : Value := .tuple #[.agg #[.int .i64 y, .int .i64 m, .int .i64 d], .int .i64 c]
theorem iLeap_any (y : Int) (w : World) (h0 : 0 ≤ y) :
    Calls Tryd.prog 69 #[.int .i64 y] w fun e w' => e = .returned (.bool (leapB y)) ∧ w = w' := by
  cases h1 : (y % 4 == 0) <;> cases h2 : (y % 100 != 0) <;> cases h3 : (y % 400 == 0)
  all_goals
    go_enter Tryd.func69, Tryd.ntmps69
    go_wp2; go_ret; exact ⟨by simp [leapB, *], rfl⟩
theorem sLeap_any (y : Int) (w : World) (h0 : 0 ≤ y) :
    Calls Tryd.prog 84 #[.int .i64 y] w fun e w' => e = .returned (.bool (leapB y)) ∧ w = w' := by
  cases h1 : (y % 4 == 0) <;> cases h2 : (y % 100 != 0) <;> cases h3 : (y % 400 == 0)
  all_goals
    go_enter Tryd.func84, Tryd.ntmps84
    go_wp2; go_ret; exact ⟨by simp [leapB, *], rfl⟩
theorem leapYears_any (y : Int) (w : World) (h0 : 0 ≤ y) (h1 : y ≤ 1000000) :
    Calls Tryd.prog 85 #[.int .i64 y] w fun e w' => e = .returned (.int .i64 (lyN y)) ∧ w = w' := by
  go_enter Tryd.func85, Tryd.ntmps85
  go_wp2
  go_ret
  exact ⟨rfl, rfl⟩
theorem lyN_bd (y : Int) (h0 : 0 ≤ y) : 0 ≤ lyN y ∧ lyN y ≤ y := by unfold lyN; omega
theorem startOfMarch_any (y : Int) (w : World) (h0 : 0 ≤ y) (h1 : y ≤ 1000000) :
    Calls Tryd.prog 70 #[.int .i64 y] w fun e w' => e = .returned (.int .i64 (mst y)) ∧ w = w' := by
  have b := lyN_bd y h0
  have e : lyN 2000 = 485 := by decide
  go_enter Tryd.func70, Tryd.ntmps70
  go_wp2_with (go_at_call 85; refine (leapYears_any _ _ (by omega) (by omega)).mono ?_; rintro e w' ⟨rfl, rfl⟩; (try rw [e]))
  go_ret
  exact ⟨rfl, rfl⟩
theorem l03Start_any (y : Int) (w : World) (h0 : 2001 ≤ y) (h1 : y ≤ 1000000) :
    Calls Tryd.prog 68 #[.int .i64 y] w fun e w' => e = .returned (.int .i64 (yst y)) ∧ w = w' := by
  go_enter Tryd.func68, Tryd.ntmps68
  go_wp2
  go_ret
  exact ⟨rfl, rfl⟩
set_option maxHeartbeats 4000000 in
theorem l03Days_any (y : Int) (m : Nat) (w : World) (h0 : 0 ≤ y) (h1 : 1 ≤ m) (h2 : m ≤ 12) :
    Calls Tryd.prog 67 #[.int .i64 y, .int .i64 m] w fun e w' => e = .returned (.int .i64 (mdB (leapB y) m)) ∧ Below w.heap.size w w' := by
  rcases (show m = 1 ∨ m = 2 ∨ m = 3 ∨ m = 4 ∨ m = 5 ∨ m = 6 ∨ m = 7 ∨ m = 8 ∨ m = 9 ∨ m = 10 ∨ m = 11 ∨ m = 12 by omega) with rfl | rfl | rfl | rfl | rfl | rfl | rfl | rfl | rfl | rfl | rfl | rfl
  case inr.inl =>
    cases hl : leapB y
    all_goals
      go_enter Tryd.func67, Tryd.ntmps67
      go_wp2_with (go_at_call 84; refine (sLeap_any _ _ (by omega)).mono ?_; rintro e w' ⟨rfl, rfl⟩)
      go_ret
      exact ⟨by simp [mdB, mdL], by (repeat (first | assumption | exact Below.refl _ _ | refine belowDN ?_ _ | refine Below.drew ?_ | refine Below.setCell ?_ (by first | omega | (simp <;> omega)) _ | refine Below.alloc ?_ (by first | omega | (simp <;> omega)) _ | refine belowCall ?_ (by assumption)))⟩
  all_goals
    go_enter Tryd.func67, Tryd.ntmps67
    go_wp2_with (go_at_call 84; refine (sLeap_any _ _ (by omega)).mono ?_; rintro e w' ⟨rfl, rfl⟩)
    go_ret
    exact ⟨by simp [mdB, mdL], by (repeat (first | assumption | exact Below.refl _ _ | refine belowDN ?_ _ | refine Below.drew ?_ | refine Below.setCell ?_ (by first | omega | (simp <;> omega)) _ | refine Below.alloc ?_ (by first | omega | (simp <;> omega)) _ | refine belowCall ?_ (by assumption)))⟩
/-! ### The program's table of months -/
def Mon (w : World) : Prop := ∀ k : Nat, k < 12 → w.cell? ⟨0, k, none⟩ = some (.int .i64 (mlB k)) ∧ 0 < w.heap.size
theorem Mon.mono {w w' : World} (h : Mon w) (hb : Below w.heap.size w w') : Mon w' := fun k hk =>
  ⟨by rw [hb.cell (p := ⟨0, k, none⟩) (h k hk).2]; exact (h k hk).1, Nat.lt_of_lt_of_le (h k hk).2 hb.size⟩
theorem shifted_any (y : Int) (m : Nat) (d : Int) (w : World) (h0 : 0 ≤ y) (h1 : y ≤ 1000000) (h2 : m ≤ 1000000) (hd : (Lit.int .i64 d).wf = true) :
    Calls Tryd.prog 53 #[dt y m d] w fun e w' => ∃ x, e = .returned (dt (shY y m) (shM m : Nat) x) ∧ (1 ≤ d → x = d - 1) ∧ Below w.heap.size w w' := by
  have hb := bounds_i64 hd
  obtain ⟨x, hx, hx2⟩ : ∃ x, wrap64 (d - 1) = x ∧ (1 ≤ d → x = d - 1) := ⟨_, rfl, fun h => IntWalk.wrap64_in _ ⟨by omega, by omega⟩⟩
  clear hd
  unfold dt
  by_cases hm : m < 3
  · have e1 : shY y m = y - 1 := by unfold shY; rw [if_pos hm]
    have e2 : ((shM m : Nat) : Int) = (m : Int) + 9 := by unfold shM; rw [if_pos hm]; omega
    rw [e1, e2]
    go_enter Tryd.func53, Tryd.ntmps53
    go_wp2
    rw [hx]
    go_wp2
    exact bodyPost_ret (v := .agg #[.int .i64 (y - 1), .int .i64 ((m : Int) + 9), .int .i64 x]) (by simp [results, Tryd.results53, go_sem]) rfl ⟨x, rfl, hx2, by (repeat (first | assumption | exact Below.refl _ _ | refine belowDN ?_ _ | refine Below.drew ?_ | refine Below.setCell ?_ (by first | omega | (simp <;> omega)) _ | refine Below.alloc ?_ (by first | omega | (simp <;> omega)) _ | refine belowCall ?_ (by assumption)))⟩
  · have e1 : shY y m = y := by unfold shY; rw [if_neg hm]
    have e2 : ((shM m : Nat) : Int) = (m : Int) - 3 := by unfold shM; rw [if_neg hm]; omega
    rw [e1, e2]
    go_enter Tryd.func53, Tryd.ntmps53
    go_wp2
    rw [hx]
    go_wp2
    exact bodyPost_ret (v := .agg #[.int .i64 y, .int .i64 ((m : Int) - 3), .int .i64 x]) (by simp [results, Tryd.results53, go_sem]) rfl ⟨x, rfl, hx2, by (repeat (first | assumption | exact Below.refl _ _ | refine belowDN ?_ _ | refine Below.drew ?_ | refine Below.setCell ?_ (by first | omega | (simp <;> omega)) _ | refine Below.alloc ?_ (by first | omega | (simp <;> omega)) _ | refine belowCall ?_ (by assumption)))⟩
theorem mlength_any (y : Int) (k : Nat) (d : Int) (w : World) (hM : Mon w) (h0 : 0 ≤ y) (h1 : y ≤ 1000000) (h2 : k < 12) :
    Calls Tryd.prog 54 #[dt y k d] w fun e w' => e = .returned (.int .i64 (mlen y k)) ∧ Below w.heap.size w w' := by
  obtain ⟨hk, hg⟩ := hM k h2
  obtain ⟨l1, l2⟩ := ml_bd k h2
  have hne : w.heap.size ≠ 0 := by omega
  unfold dt
  by_cases h11 : k = 11
  · have hk11 : ((k : Int) == 11) = true := by simp [h11]
    cases hl : leapB (y + 1)
    · have e : mlen y k = mlB k := by unfold mlen; rw [if_neg (by simp [hl])]; omega
      rw [e]
      clear h11
      go_enter Tryd.func54, Tryd.ntmps54
      go_wp2_with (go_at_call 69; refine (iLeap_any _ _ (by omega)).mono ?_; rintro e w' ⟨rfl, rfl⟩)
      go_ret
      exact ⟨rfl, by (repeat (first | assumption | exact Below.refl _ _ | refine belowDN ?_ _ | refine Below.drew ?_ | refine Below.setCell ?_ (by first | omega | (simp <;> omega)) _ | refine Below.alloc ?_ (by first | omega | (simp <;> omega)) _ | refine belowCall ?_ (by assumption)))⟩
    · have e : mlen y k = mlB k + 1 := by unfold mlen; rw [if_pos ⟨h11, hl⟩]
      rw [e]
      clear h11
      go_enter Tryd.func54, Tryd.ntmps54
      go_wp2_with (go_at_call 69; refine (iLeap_any _ _ (by omega)).mono ?_; rintro e w' ⟨rfl, rfl⟩)
      go_ret
      exact ⟨rfl, by (repeat (first | assumption | exact Below.refl _ _ | refine belowDN ?_ _ | refine Below.drew ?_ | refine Below.setCell ?_ (by first | omega | (simp <;> omega)) _ | refine Below.alloc ?_ (by first | omega | (simp <;> omega)) _ | refine belowCall ?_ (by assumption)))⟩
  · have hk11 : ((k : Int) == 11) = false := by simp; omega
    have e : mlen y k = mlB k := by unfold mlen; rw [if_neg (fun h => h11 h.1)]; omega
    rw [e]
    go_enter Tryd.func54, Tryd.ntmps54
    go_wp2_with (go_at_call 69; refine (iLeap_any _ _ (by omega)).mono ?_; rintro e w' ⟨rfl, rfl⟩)
    go_ret
    exact ⟨rfl, by (repeat (first | assumption | exact Below.refl _ _ | refine belowDN ?_ _ | refine Below.drew ?_ | refine Below.setCell ?_ (by first | omega | (simp <;> omega)) _ | refine Below.alloc ?_ (by first | omega | (simp <;> omega)) _ | refine belowCall ?_ (by assumption)))⟩
end Go.Proofs.YtfebellnmdfpiabDoor
