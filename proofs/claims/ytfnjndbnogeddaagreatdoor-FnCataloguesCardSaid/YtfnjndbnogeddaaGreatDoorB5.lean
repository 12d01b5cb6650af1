/- MeanMag, RangeOfMags, EnclosingPair: the program's and the model's. -/
import Derived.Test.YtfnjndbnogeddaaGreatDoorB4
namespace Go.Proofs.YtfnjndbnogeddaaGreatDoor
open Go.ChangeShapes Go.WideShapes Go.ChangeAt Go.RowKit

def sumTo (xs : List Int) : Nat → Int
  | 0 => 0
  | k + 1 => sumTo xs k + xs[k]?.getD 0
theorem sumTo_bd {xs : List Int} (h : okMags xs = true) : ∀ k, k ≤ xs.length → -2000 * (k : Int) ≤ sumTo xs k ∧ sumTo xs k ≤ 20000 * (k : Int)
  | 0, _ => by simp [sumTo]
  | k + 1, hk => by
    have h1 := sumTo_bd h k (by omega)
    have h2 := okMags_at h k (by omega)
    simp only [sumTo]
    omega
theorem ok_len {xs : List Int} (h : okMags xs = true) : xs.length ≤ 100 := by
  simp only [okMags, Bool.and_eq_true, decide_eq_true_eq] at h
  exact h.1
theorem some_zero {xs : List Int} (h : someCode xs = 0) : okMags xs = true ∧ xs.length ≠ 0 := by
  unfold someCode at h
  split at h
  · split at h
    · omega
    · exact ⟨by assumption, by assumption⟩
  · omega
def meanV (xs : List Int) : Value := if someCode xs = 0 then two (rnd (sumTo xs xs.length) xs.length) 0 else two 0 (someCode xs)

theorem iMean_any (a : Option Addr) (len cap : Nat) (xs : List Int) (w : World) (h : Lst w a len xs) (hlen : len ≤ 1048576) :
    Calls Tryz.prog 20 #[.slice a len cap] w fun e w' => e = .returned (meanV xs) ∧ Below w.heap.size w w' := by
  cases hc0 : (someCode xs != 0)
  · have hs : someCode xs = 0 := by simpa using hc0
    obtain ⟨hok, hne⟩ := some_zero hs
    have hl := ok_len hok
    have hd : meanV xs = two (rnd (sumTo xs len) len) 0 := by rw [meanV, if_pos hs, h.1]
    have HD := Lib.hid hd
    have hlen1 : 1 ≤ (len : Int) := by have := h.1; omega
    have hlen2 : (len : Int) ≤ 100 := by have := h.1; omega
    have HS := Lib.hid hs
    have HX := Lib.hid h.1
    clear hd hs hl hne hc0
    go_enter Tryz.func20, Tryz.ntmps20
    go_wp2_with (go_at_call 48; refine (checkSome_any _ _ _ _ _ h hlen).mono ?_; rintro e w' ⟨rfl, hbel⟩; have h' := h.mono hbel; rw [HS.out])
    go_loop [5, 7, 15] (fun s _ i => ∃ k : Nat, k ≤ len ∧ i = .int .i64 k ∧ s = .int .i64 (sumTo xs k)) (fun _ _ i => len - (intOf i).toNat)
    case atStart => exact ⟨0, Nat.zero_le _, rfl, rfl⟩
    case round =>
      obtain ⟨k, hk, rfl, rfl⟩ := hrel
      have b1 := sumTo_bd hok k (by have := h.1; omega)
      by_cases hlt : k < len
      · obtain ⟨b1, o1, rfl, hb1, hc1⟩ := h'.2 k hlt
        have b2 := okMags_at hok k (by have := h.1; omega)
        go_wp2
        go_round
        case rel => exact ⟨k + 1, by omega, by go_num, rfl⟩
        case measure => simp [intOf]; omega
      · obtain rfl : k = len := by omega
        go_wp2_with (go_at_call 50; refine (nearest_any _ _ _ (by omega) (by omega) (by omega) (by omega)).mono ?_; rintro e w' ⟨rfl, hbel⟩; obtain ⟨hc, hf⟩ := bcell hbel; have hz := hbel.size; (try simp at hz); (try simp only [Nat.add_one_le_iff] at hz); (try (have hzw : w.heap.size < w'.heap.size := by omega)))
        go_ret2
        exact ⟨by rw [HD.out]; rfl, by (repeat (first | assumption | exact Below.refl _ _ | refine belowDN ?_ _ | refine Below.drew ?_ | refine Below.setCell ?_ (by first | omega | (simp <;> omega)) _ | refine Below.alloc ?_ (by first | omega | (simp <;> omega)) _ | refine belowCall ?_ (by assumption)))⟩
  · have hd : meanV xs = two 0 (someCode xs) := by rw [meanV, if_neg (by simpa using hc0)]
    have HD := Lib.hid hd
    clear hd
    go_enter Tryz.func20, Tryz.ntmps20
    go_wp2_with (go_at_call 48; refine (checkSome_any _ _ _ _ _ h hlen).mono ?_; rintro e w' ⟨rfl, hbel⟩)
    go_ret2
    exact ⟨by rw [HD.out]; rfl, by (repeat (first | assumption | exact Below.refl _ _ | refine belowDN ?_ _ | refine Below.drew ?_ | refine Below.setCell ?_ (by first | omega | (simp <;> omega)) _ | refine Below.alloc ?_ (by first | omega | (simp <;> omega)) _ | refine belowCall ?_ (by assumption)))⟩
def mnTo (xs : List Int) : Nat → Int
  | 0 => xs[0]?.getD 0
  | k + 1 => if xs[k]?.getD 0 < mnTo xs k then xs[k]?.getD 0 else mnTo xs k
def mxTo (xs : List Int) : Nat → Int
  | 0 => xs[0]?.getD 0
  | k + 1 => if mxTo xs k < xs[k]?.getD 0 then xs[k]?.getD 0 else mxTo xs k
theorem min_any (a : Option Addr) (len cap : Nat) (xs : List Int) (w : World) (h : Lst w a len xs) (h1 : 1 ≤ len) (h2 : len ≤ 1048576) :
    Calls Tryz.prog 49 #[.slice a len cap] w fun e w' => e = .returned (.int .i64 (mnTo xs xs.length)) ∧ w = w' := by
  obtain ⟨b, off, rfl, hb, hc⟩ := h.2 0 h1
  have hc0 := hc
  rw [Nat.add_zero] at hc0
  have hl : decide ((len : Int) < 1) = false := by simp; omega
  go_enter Tryz.func49, Tryz.ntmps49
  go_wp2
  go_loopw [3, 4] (fun s i wr => ∃ k : Nat, 1 ≤ k ∧ k ≤ len ∧ i = .int .i64 k ∧ s = .int .i64 (mnTo xs k) ∧ wr = w) (fun _ i _ => len - (intOf i).toNat)
  case atStart => exact ⟨1, by omega, h1, rfl, by simp [mnTo], rfl⟩
  case round =>
    obtain ⟨k, hk1, hk, rfl, rfl, rfl⟩ := hrel
    by_cases hlt : k < len
    · obtain ⟨b2, o2, he2, hb2, hc2⟩ := h.2 k hlt
      simp only [Option.some.injEq, Addr.mk.injEq, and_true] at he2
      obtain ⟨rfl, rfl⟩ := he2
      go_wp2
      go_roundw
      case rel => exact ⟨k + 1, by omega, by omega, by go_num, rfl, trivial⟩
      case measure => simp [intOf]; omega
    · obtain rfl : k = len := by omega
      go_wp2
      go_ret
      exact ⟨by rw [h.1]; rfl, rfl⟩
theorem max_any (a : Option Addr) (len cap : Nat) (xs : List Int) (w : World) (h : Lst w a len xs) (h1 : 1 ≤ len) (h2 : len ≤ 1048576) :
    Calls Tryz.prog 35 #[.slice a len cap] w fun e w' => e = .returned (.int .i64 (mxTo xs xs.length)) ∧ w = w' := by
  obtain ⟨b, off, rfl, hb, hc⟩ := h.2 0 h1
  have hc0 := hc
  rw [Nat.add_zero] at hc0
  have hl : decide ((len : Int) < 1) = false := by simp; omega
  go_enter Tryz.func35, Tryz.ntmps35
  go_wp2
  go_loopw [3, 4] (fun s i wr => ∃ k : Nat, 1 ≤ k ∧ k ≤ len ∧ i = .int .i64 k ∧ s = .int .i64 (mxTo xs k) ∧ wr = w) (fun _ i _ => len - (intOf i).toNat)
  case atStart => exact ⟨1, by omega, h1, rfl, by simp [mxTo], rfl⟩
  case round =>
    obtain ⟨k, hk1, hk, rfl, rfl, rfl⟩ := hrel
    by_cases hlt : k < len
    · obtain ⟨b2, o2, he2, hb2, hc2⟩ := h.2 k hlt
      simp only [Option.some.injEq, Addr.mk.injEq, and_true] at he2
      obtain ⟨rfl, rfl⟩ := he2
      go_wp2
      go_roundw
      case rel => exact ⟨k + 1, by omega, by omega, by go_num, rfl, trivial⟩
      case measure => simp [intOf]; omega
    · obtain rfl : k = len := by omega
      go_wp2
      go_ret
      exact ⟨by rw [h.1]; rfl, rfl⟩
def three (a b c : Int) : Value := .tuple #[.int .i64 a, .int .i64 b, .int .i64 c]
def rangeV (xs : List Int) : Value := if someCode xs = 0 then three (mnTo xs xs.length) (mxTo xs xs.length) 0 else three 0 0 (someCode xs)
theorem iRange3_any (a : Option Addr) (len cap : Nat) (xs : List Int) (w : World) (h : Lst w a len xs) (hlen : len ≤ 1048576) :
    Calls Tryz.prog 19 #[.slice a len cap] w fun e w' => e = .returned (rangeV xs) ∧ Below w.heap.size w w' := by
  cases hc0 : (someCode xs != 0)
  · have hs : someCode xs = 0 := by simpa using hc0
    obtain ⟨hok, hne⟩ := some_zero hs
    have hd : rangeV xs = three (mnTo xs xs.length) (mxTo xs xs.length) 0 := by rw [rangeV, if_pos hs]
    have HD := Lib.hid hd
    have hlen1 : 1 ≤ len := by have := h.1; omega
    have HS := Lib.hid hs
    clear hd hs hne hc0
    go_enter Tryz.func19, Tryz.ntmps19
    go_wp2_with (first | (go_at_call 48; refine (checkSome_any _ _ _ _ _ h hlen).mono ?_; rintro e w' ⟨rfl, hbel⟩; have h' := h.mono hbel; rw [HS.out]) | (go_at_call 49; refine (min_any _ _ _ _ _ h' hlen1 hlen).mono ?_; rintro e w' ⟨rfl, rfl⟩) | (go_at_call 35; refine (max_any _ _ _ _ _ h' hlen1 hlen).mono ?_; rintro e w' ⟨rfl, rfl⟩))
    go_ret3
    exact ⟨by rw [HD.out]; rfl, by (repeat (first | assumption | exact Below.refl _ _ | refine belowDN ?_ _ | refine Below.drew ?_ | refine Below.setCell ?_ (by first | omega | (simp <;> omega)) _ | refine Below.alloc ?_ (by first | omega | (simp <;> omega)) _ | refine belowCall ?_ (by assumption)))⟩
  · have hd : rangeV xs = three 0 0 (someCode xs) := by rw [rangeV, if_neg (by simpa using hc0)]
    have HD := Lib.hid hd
    clear hd
    go_enter Tryz.func19, Tryz.ntmps19
    go_wp2_with (go_at_call 48; refine (checkSome_any _ _ _ _ _ h hlen).mono ?_; rintro e w' ⟨rfl, hbel⟩)
    go_ret3
    exact ⟨by rw [HD.out]; rfl, by (repeat (first | assumption | exact Below.refl _ _ | refine belowDN ?_ _ | refine Below.drew ?_ | refine Below.setCell ?_ (by first | omega | (simp <;> omega)) _ | refine Below.alloc ?_ (by first | omega | (simp <;> omega)) _ | refine belowCall ?_ (by assumption)))⟩
def min2 (a b : Int) : Int := if b < a then b else a
def max2 (a b : Int) : Int := if a < b then b else a
theorem l00Min_any (a b : Int) (w : World) :
    Calls Tryz.prog 59 #[.int .i64 a, .int .i64 b] w fun e w' => e = .returned (.int .i64 (min2 a b)) ∧ w = w' := by
  by_cases hlt : a < b
  all_goals
    go_enter Tryz.func59, Tryz.ntmps59
    go_wp2
    go_ret
    exact ⟨ret_int (by simp only [min2]; split <;> omega), rfl⟩
end Go.Proofs.YtfnjndbnogeddaaGreatDoor
