/- Chapter 2's functions of lists of magnitudes, the program's and the model's. -/
import Derived.Test.YtcjipmpccmppiaaB2
import Derived.Test.YtcjipmpccmppiaaB3
namespace Go.Proofs.Ytcjipmpccmppiaa
open Go.ChangeShapes Go.WideShapes Go.ChangeAt Go.RowKit

def okMags (xs : List Int) : Bool := decide (xs.length ≤ 100) && xs.all magB
theorem all_of {xs : List Int} {n : Nat} (h1 : xs.length = n) (h : ∀ j, j < n → magB (xs[j]?.getD 0) = true) : xs.all magB = true := by
  rw [List.all_eq_true]
  intro x hx
  obtain ⟨j, hj, rfl⟩ := List.getElem_of_mem hx
  have := h j (by omega)
  simpa [hj] using this
theorem not_all_of {xs : List Int} {k n : Nat} (h1 : xs.length = n) (hk : k < n) (h : magB (xs[k]?.getD 0) = false) : xs.all magB = false := by
  rw [List.all_eq_false]
  have hkx : k < xs.length := by omega
  exact ⟨xs[k], List.getElem_mem hkx, by simpa [hkx] using h⟩
theorem okMags_at {xs : List Int} (h : okMags xs = true) (j : Nat) (hj : j < xs.length) : -2000 ≤ xs[j]?.getD 0 ∧ xs[j]?.getD 0 ≤ 20000 := by
  simp only [okMags, Bool.and_eq_true] at h
  have := List.all_eq_true.1 h.2 xs[j] (List.getElem_mem hj)
  rw [magB_iff] at this
  simpa [hj] using this

theorem areMags_any (a : Option Addr) (len cap : Nat) (xs : List Int) (w : World) (h : Lst w a len xs) (hlen : len ≤ 1048576) :
    Calls Try.prog 70 #[.slice a len cap] w fun e w' => e = .returned (.bool (okMags xs)) ∧ Below w.heap.size w w' := by
  by_cases hl : len ≤ 100
  · have h100 : decide ((100 : Int) < (len : Int)) = false := by simp; omega
    go_enter Try.func70, Try.ntmps70
    go_wp2
    go_loop [10] (fun i => ∃ k : Nat, k ≤ len ∧ i = .int .i64 k ∧ (∀ j, j < k → magB (xs[j]?.getD 0) = true)) (fun i => len - (intOf i).toNat)
    case atStart => exact ⟨0, Nat.zero_le _, rfl, fun j hj => by omega⟩
    case round =>
      obtain ⟨k, hk, rfl, hall⟩ := hrel
      have HALL := Lib.hid hall
      clear hall
      by_cases hlt : k < len
      · obtain ⟨b1, o1, rfl, hb1, hc1⟩ := h.2 k hlt
        cases hm : magB (xs[k]?.getD 0)
        · have hd : okMags xs = false := by rw [okMags, not_all_of h.1 hlt hm]; simp
          have HD := Lib.hid hd
          clear hd
          go_wp2_with (go_at_call 84; refine (iValidMag_any _ _).mono ?_; rintro e w' ⟨rfl, rfl⟩)
          go_ret
          exact ⟨by rw [HD.out]; rfl, by (repeat (first | assumption | exact Below.refl _ _ | refine belowDN ?_ _ | refine Below.drew ?_ | refine Below.setCell ?_ (by first | omega | (simp <;> omega)) _ | refine Below.alloc ?_ (by first | omega | (simp <;> omega)) _ | refine belowCall ?_ (by assumption)))⟩
        · go_wp2_with (go_at_call 84; refine (iValidMag_any _ _).mono ?_; rintro e w' ⟨rfl, rfl⟩)
          go_round
          case rel =>
            refine ⟨k + 1, by omega, by go_num, fun j hj => ?_⟩
            by_cases hjk : j = k
            · subst hjk; exact hm
            · exact HALL.out j (by omega)
          case measure => simp [intOf]; omega
      · obtain rfl : k = len := by omega
        go_wp2
        go_ret
        refine ⟨?_, by (repeat (first | assumption | exact Below.refl _ _ | refine belowDN ?_ _ | refine Below.drew ?_ | refine Below.setCell ?_ (by first | omega | (simp <;> omega)) _ | refine Below.alloc ?_ (by first | omega | (simp <;> omega)) _ | refine belowCall ?_ (by assumption)))⟩
        have hd : okMags xs = true := by rw [okMags, all_of h.1 HALL.out, h.1]; simp; omega
        rw [hd]; rfl
  · have hd : okMags xs = false := by simp [okMags, h.1]; omega
    have HD := Lib.hid hd
    clear hd
    go_enter Try.func70, Try.ntmps70
    go_wp2
    go_ret
    exact ⟨by rw [HD.out]; rfl, by (repeat (first | assumption | exact Below.refl _ _ | refine belowDN ?_ _ | refine Below.drew ?_ | refine Below.setCell ?_ (by first | omega | (simp <;> omega)) _ | refine Below.alloc ?_ (by first | omega | (simp <;> omega)) _ | refine belowCall ?_ (by assumption)))⟩
def listCode (xs : List Int) : Int := if okMags xs then 0 else 2
def someCode (xs : List Int) : Int := if okMags xs then (if xs.length = 0 then 3 else 0) else 2
theorem l02List_any (a : Option Addr) (len cap : Nat) (xs : List Int) (w : World) (h : Lst w a len xs) (hlen : len ≤ 1048576) :
    Calls Try.prog 67 #[.slice a len cap] w fun e w' => e = .returned (.int .i64 (listCode xs)) ∧ Below w.heap.size w w' := by
  go_enter Try.func67, Try.ntmps67
  go_wp2
  go_loop [3] (fun i => ∃ k : Nat, k ≤ len ∧ i = .int .i64 k ∧ (∀ j, j < k → magB (xs[j]?.getD 0) = true)) (fun i => len - (intOf i).toNat)
  case atStart => exact ⟨0, Nat.zero_le _, rfl, fun j hj => by omega⟩
  case round =>
    obtain ⟨k, hk, rfl, hall⟩ := hrel
    have HALL := Lib.hid hall
    clear hall
    by_cases hlt : k < len
    · obtain ⟨b1, o1, rfl, hb1, hc1⟩ := h.2 k hlt
      cases hm : magB (xs[k]?.getD 0)
      · have hd : listCode xs = 2 := by rw [listCode, okMags, not_all_of h.1 hlt hm]; simp
        have HD := Lib.hid hd
        clear hd
        go_wp2_with (go_at_call 89; refine (l02Mag_any _ _).mono ?_; rintro e w' ⟨rfl, rfl⟩)
        go_ret
        exact ⟨by rw [HD.out]; rfl, by (repeat (first | assumption | exact Below.refl _ _ | refine belowDN ?_ _ | refine Below.drew ?_ | refine Below.setCell ?_ (by first | omega | (simp <;> omega)) _ | refine Below.alloc ?_ (by first | omega | (simp <;> omega)) _ | refine belowCall ?_ (by assumption)))⟩
      · go_wp2_with (go_at_call 89; refine (l02Mag_any _ _).mono ?_; rintro e w' ⟨rfl, rfl⟩)
        go_round
        case rel =>
          refine ⟨k + 1, by omega, by go_num, fun j hj => ?_⟩
          by_cases hjk : j = k
          · subst hjk; exact hm
          · exact HALL.out j (by omega)
        case measure => simp [intOf]; omega
    · obtain rfl : k = len := by omega
      by_cases hl : k ≤ 100
      · have h100 : decide ((100 : Int) < (k : Int)) = false := by simp; omega
        go_wp2
        go_ret
        refine ⟨?_, by (repeat (first | assumption | exact Below.refl _ _ | refine belowDN ?_ _ | refine Below.drew ?_ | refine Below.setCell ?_ (by first | omega | (simp <;> omega)) _ | refine Below.alloc ?_ (by first | omega | (simp <;> omega)) _ | refine belowCall ?_ (by assumption)))⟩
        have hd : listCode xs = 0 := by rw [listCode, okMags, all_of h.1 HALL.out, h.1]; simp; omega
        rw [hd]; rfl
      · have h100 : decide ((100 : Int) < (k : Int)) = true := by simp; omega
        go_wp2
        go_ret
        refine ⟨?_, by (repeat (first | assumption | exact Below.refl _ _ | refine belowDN ?_ _ | refine Below.drew ?_ | refine Below.setCell ?_ (by first | omega | (simp <;> omega)) _ | refine Below.alloc ?_ (by first | omega | (simp <;> omega)) _ | refine belowCall ?_ (by assumption)))⟩
        have hd : listCode xs = 2 := by rw [listCode, okMags, h.1]; simp; omega
        rw [hd]; rfl
theorem checkSome_any (a : Option Addr) (len cap : Nat) (xs : List Int) (w : World) (h : Lst w a len xs) (hlen : len ≤ 1048576) :
    Calls Try.prog 64 #[.slice a len cap] w fun e w' => e = .returned (.int .i64 (someCode xs)) ∧ Below w.heap.size w w' := by
  have HL := Lib.hid h.1
  cases hok : okMags xs
  · have hd : someCode xs = 2 := by simp [someCode, hok]
    have HD := Lib.hid hd
    clear hd
    go_enter Try.func64, Try.ntmps64
    go_wp2_with (go_at_call 70; refine (areMags_any _ _ _ _ _ h (by omega)).mono ?_; rintro e w' ⟨rfl, hbel⟩; obtain ⟨hc, hf⟩ := bcell hbel; have hz := hbel.size; (try simp at hz); (try simp only [Nat.add_one_le_iff] at hz); (try (have hzw : w.heap.size < w'.heap.size := by omega)))
    go_ret
    exact ⟨by rw [HD.out]; rfl, by (repeat (first | assumption | exact Below.refl _ _ | refine belowDN ?_ _ | refine Below.drew ?_ | refine Below.setCell ?_ (by first | omega | (simp <;> omega)) _ | refine Below.alloc ?_ (by first | omega | (simp <;> omega)) _ | refine belowCall ?_ (by assumption)))⟩
  · by_cases hz : len = 0
    · have hd : someCode xs = 3 := by simp [someCode, hok, h.1, hz]
      have hz' : ((len : Int) == 0) = true := by simp [hz]
      have HD := Lib.hid hd
      clear hd hz
      go_enter Try.func64, Try.ntmps64
      go_wp2_with (go_at_call 70; refine (areMags_any _ _ _ _ _ h (by omega)).mono ?_; rintro e w' ⟨rfl, hbel⟩; obtain ⟨hc, hf⟩ := bcell hbel; have hz := hbel.size; (try simp at hz); (try simp only [Nat.add_one_le_iff] at hz); (try (have hzw : w.heap.size < w'.heap.size := by omega)))
      go_ret
      exact ⟨by rw [HD.out]; rfl, by (repeat (first | assumption | exact Below.refl _ _ | refine belowDN ?_ _ | refine Below.drew ?_ | refine Below.setCell ?_ (by first | omega | (simp <;> omega)) _ | refine Below.alloc ?_ (by first | omega | (simp <;> omega)) _ | refine belowCall ?_ (by assumption)))⟩
    · have hd : someCode xs = 0 := by simp [someCode, hok, h.1, hz]
      have hz' : ((len : Int) == 0) = false := by simp [hz]
      have HD := Lib.hid hd
      clear hd hz
      go_enter Try.func64, Try.ntmps64
      go_wp2_with (go_at_call 70; refine (areMags_any _ _ _ _ _ h (by omega)).mono ?_; rintro e w' ⟨rfl, hbel⟩; obtain ⟨hc, hf⟩ := bcell hbel; have hz := hbel.size; (try simp at hz); (try simp only [Nat.add_one_le_iff] at hz); (try (have hzw : w.heap.size < w'.heap.size := by omega)))
      go_ret
      exact ⟨by rw [HD.out]; rfl, by (repeat (first | assumption | exact Below.refl _ _ | refine belowDN ?_ _ | refine Below.drew ?_ | refine Below.setCell ?_ (by first | omega | (simp <;> omega)) _ | refine Below.alloc ?_ (by first | omega | (simp <;> omega)) _ | refine belowCall ?_ (by assumption)))⟩
end Go.Proofs.Ytcjipmpccmppiaa
