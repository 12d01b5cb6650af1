/- Contracts of chapter 3's functions of dates: the day of a date, valid dates; the program's and the model's. -/
import Derived.Test.YtfebellnmdfpiabDoorT3
import Derived.WalkSpells
import Derived.Deep.RegionHeld3
namespace Go.Proofs.YtfebellnmdfpiabDoor
open Go.ChangeShapes Go.WideShapes Go.ChangeAt Go.RowKit

theorem flipW {P : Program} {f : FuncId} {args : Array Value} {w : World} {v : Value} (h : Calls P f args w fun e w' => e = .returned v ∧ w = w') : Calls P f args w fun e w' => e = .returned v ∧ w' = w :=
  h.mono fun _ _ hh => ⟨hh.1, hh.2.symm⟩
def dateB (y m d : Int) : Bool := (inB y 2001 2300 && inB m 1 12) && inB d 1 (mdB (leapB y) m.toNat)
set_option maxHeartbeats 4000000 in
theorem l03Date_in (y : Int) (k : Nat) (d : Int) (w : World) (hy : inB y 2001 2300 = true) (hm : inB k 1 12 = true) :
    Calls Tryd.prog 49 #[.agg #[.int .i64 y, .int .i64 k, .int .i64 d]] w fun e w' => e = .returned (.bool (inB d 1 (mdB (leapB y) k))) ∧ Below w.heap.size w w' := by
  obtain ⟨y1, y2⟩ := inB_iff.1 hy
  obtain ⟨m1, m2⟩ := inB_iff.1 hm
  go_enter Tryd.func49, Tryd.ntmps49
  go_wp2
  go_region_held3 (fun w' => Below w.heap.size w w' ∧ w.heap.size < w'.heap.size ∧ w'.cell? ⟨w.heap.size, 0, none⟩ = some (.int .i64 y) ∧ w'.cell? ⟨w.heap.size, 1, none⟩ = some (.int .i64 k) ∧ w'.cell? ⟨w.heap.size, 2, none⟩ = some (.int .i64 d)) ((refine ⟨by (repeat (first | assumption | exact Below.refl _ _ | refine belowDN ?_ _ | refine Below.drew ?_ | refine Below.setCell ?_ (by first | omega | (simp <;> omega)) _ | refine Below.alloc ?_ (by first | omega | (simp <;> omega)) _ | refine belowCall ?_ (by assumption))), by (first | assumption | omega | (simp; done) | (simp; omega)), ?_, ?_, ?_⟩ <;> go_keep)) (first | (go_at_call 43; refine (l00In_any _ _ _ _).mono ?_; rintro e w' ⟨rfl, rfl⟩) | (go_at_call 67; refine (l03Days_any _ _ _ (by omega) (by omega) (by omega)).mono ?_; rintro e w' ⟨rfl, hbel⟩; obtain ⟨hc, hf⟩ := bcell hbel; have hz := hbel.size; (try simp at hz); (try simp only [Nat.add_one_le_iff] at hz); (try (have hzw : w.heap.size < w'.heap.size := by omega))))
  go_wp2
  go_ret
  exact ⟨rfl, by (repeat (first | assumption | exact Below.refl _ _ | refine belowDN ?_ _ | refine Below.drew ?_ | refine Below.setCell ?_ (by first | omega | (simp <;> omega)) _ | refine Below.alloc ?_ (by first | omega | (simp <;> omega)) _ | refine belowCall ?_ (by assumption)))⟩
set_option maxHeartbeats 4000000 in
theorem l03Date_out (y k d : Int) (w : World) (h : inB y 2001 2300 = false ∨ (inB y 2001 2300 = true ∧ inB k 1 12 = false)) :
    Calls Tryd.prog 49 #[.agg #[.int .i64 y, .int .i64 k, .int .i64 d]] w fun e w' => e = .returned (.bool false) ∧ Below w.heap.size w w' := by
  rcases h with hy | ⟨hy, hm⟩
  all_goals
    go_enter Tryd.func49, Tryd.ntmps49
    go_wp2
    go_quiet ((go_at_call 43; refine Calls.quiet_of_same (flipW (l00In_any _ _ _ _))))
    go_wp2
    go_ret
    exact ⟨rfl, by (repeat (first | assumption | exact Below.refl _ _ | refine belowDN ?_ _ | refine Below.drew ?_ | refine Below.setCell ?_ (by first | omega | (simp <;> omega)) _ | refine Below.alloc ?_ (by first | omega | (simp <;> omega)) _ | refine belowCall ?_ (by assumption)))⟩
theorem l03Date_any (y m d : Int) (w : World) :
    Calls Tryd.prog 49 #[dt y m d] w fun e w' => e = .returned (.bool (dateB y m d)) ∧ Below w.heap.size w w' := by
  unfold dt
  cases hy : inB y 2001 2300
  case false =>
    rw [show dateB y m d = false from by simp [dateB, hy]]
    exact l03Date_out y m d w (.inl hy)
  cases hm : inB m 1 12
  case false =>
    rw [show dateB y m d = false from by simp [dateB, hm]]
    exact l03Date_out y m d w (.inr ⟨hy, hm⟩)
  obtain ⟨m1, m2⟩ := inB_iff.1 hm
  obtain ⟨k, rfl⟩ := Int.eq_ofNat_of_zero_le (show 0 ≤ m by omega)
  rw [show dateB y k d = inB d 1 (mdB (leapB y) k) from by simp [dateB, hy, hm]]
  exact l03Date_in y k d w hy hm
theorem l03Number_any (y : Int) (m : Nat) (d : Int) (w : World) (h1 : 2001 ≤ y) (h2 : y ≤ 2300) (h3 : 1 ≤ m) (h4 : m ≤ 12) (h5 : 1 ≤ d) (h6 : d ≤ 31) :
    Calls Tryd.prog 50 #[.agg #[.int .i64 y, .int .i64 m, .int .i64 d]] w fun e w' => e = .returned (.int .i64 (dnum y m d)) ∧ Below w.heap.size w w' := by
  obtain ⟨b1, b2⟩ := yst_bd y h1
  go_enter Tryd.func50, Tryd.ntmps50
  go_wp2_with (go_at_call 68; refine (l03Start_any _ _ (by omega) (by omega)).mono ?_; rintro e w' ⟨rfl, rfl⟩)
  go_loopw [3, 4] (fun n i wr => ∃ k : Nat, 1 ≤ k ∧ k ≤ m ∧ i = .int .i64 k ∧ n = .int .i64 (yst y + cuB (leapB y) k) ∧ Below w.heap.size w wr ∧ w.heap.size < wr.heap.size ∧ wr.cell? ⟨w.heap.size, 0, none⟩ = some (.int .i64 y) ∧ wr.cell? ⟨w.heap.size, 1, none⟩ = some (.int .i64 m) ∧ wr.cell? ⟨w.heap.size, 2, none⟩ = some (.int .i64 d)) (fun _ i _ => m - (intOf i).toNat)
  case atStart => exact ⟨1, by omega, h3, rfl, by rw [show cuB (leapB y) 1 = 0 from rfl]; simp, by (repeat (first | assumption | exact Below.refl _ _ | refine belowDN ?_ _ | refine Below.drew ?_ | refine Below.setCell ?_ (by first | omega | (simp <;> omega)) _ | refine Below.alloc ?_ (by first | omega | (simp <;> omega)) _ | refine belowCall ?_ (by assumption))), by simp, by go_keep, by go_keep, by go_keep⟩
  case round =>
    obtain ⟨k, hk1, hk2, rfl, rfl, hb, hs, hc0, hc1, hc2⟩ := hrel
    obtain ⟨c1, c2, c3, c4⟩ := cu_bd (leapB y) k hk1 (by omega)
    have c5 : cuB (leapB y) k ≤ 366 := by have : (if leapB y = true then (1 : Int) else 0) ≤ 1 := by split <;> omega
                                          omega
    clear c4
    have hnx := cu_next (leapB y) k hk1
    by_cases hlt : k < m
    · have HN := Lib.hid hnx
      clear hnx
      go_wp2_with (go_at_call 67; refine (l03Days_any _ _ _ (by omega) (by omega) (by omega)).mono ?_; rintro e w' ⟨rfl, hbel⟩; obtain ⟨hc, hf⟩ := bcell hbel; have hz := hbel.size; (try simp at hz); (try simp only [Nat.add_one_le_iff] at hz); (try (have hzw : w.heap.size < w'.heap.size := by omega)))
      go_roundw
      case rel => exact ⟨k + 1, by omega, by omega, by go_num, by rw [HN.out, ← Int.add_assoc], by (repeat (first | assumption | exact Below.refl _ _ | refine belowDN ?_ _ | refine Below.drew ?_ | refine Below.setCell ?_ (by first | omega | (simp <;> omega)) _ | refine Below.alloc ?_ (by first | omega | (simp <;> omega)) _ | refine belowCall ?_ (by assumption))), by omega, by rw [hc _ _ hs]; exact hc0, by rw [hc _ _ hs]; exact hc1, by rw [hc _ _ hs]; exact hc2⟩
      case measure => simp [intOf]; omega
    · obtain rfl : k = m := by omega
      clear hnx
      go_wp2
      go_ret
      exact ⟨rfl, by (repeat (first | assumption | exact Below.refl _ _ | refine belowDN ?_ _ | refine Below.drew ?_ | refine Below.setCell ?_ (by first | omega | (simp <;> omega)) _ | refine Below.alloc ?_ (by first | omega | (simp <;> omega)) _ | refine belowCall ?_ (by assumption)))⟩
end Go.Proofs.YtfebellnmdfpiabDoor
