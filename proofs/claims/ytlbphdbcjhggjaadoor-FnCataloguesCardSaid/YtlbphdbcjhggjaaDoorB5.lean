/- MeanMag, RangeOfMags, EnclosingPair: the program's and the model's. -/
import Derived.Test.YtlbphdbcjhggjaaDoorB4
namespace Go.Proofs.YtlbphdbcjhggjaaDoor
open Go.ChangeShapes Go.WideShapes Go.ChangeAt Go.RowKit

def sumTo (xs : List Int) : Nat → Int
  | 0 => 0
  | k + 1 => sumTo xs k + xs[k]?.getD 0
theorem sumTo_bd {xs : List Int} (h : okMags xs = true) : ∀ k, k ≤ xs.length → -2000 * (k : Int) ≤ sumTo xs k ∧ sumTo xs k ≤ 20000 * (k : Int)
  | 0, _ => by simp [sumTo]
  | k + 1, hk => by
    have h1 := sumTo_bd h k (by omega)
    have h2 := okMags_at h k (by omega)
    simp only [sumTo]
    omega
theorem ok_len {xs : List Int} (h : okMags xs = true) : xs.length ≤ 100 := by
  simp only [okMags, Bool.and_eq_true, decide_eq_true_eq] at h
  exact h.1
theorem some_zero {xs : List Int} (h : someCode xs = 0) : okMags xs = true ∧ xs.length ≠ 0 := by
  unfold someCode at h
  split at h
  · split at h
    · omega
    · exact ⟨by assumption, by assumption⟩
  · omega
def meanV (xs : List Int) : Value := if someCode xs = 0 then two (rnd (sumTo xs xs.length) xs.length) 0 else two 0 (someCode xs)

def mnTo (xs : List Int) : Nat → Int
  | 0 => xs[0]?.getD 0
  | k + 1 => if xs[k]?.getD 0 < mnTo xs k then xs[k]?.getD 0 else mnTo xs k
def mxTo (xs : List Int) : Nat → Int
  | 0 => xs[0]?.getD 0
  | k + 1 => if mxTo xs k < xs[k]?.getD 0 then xs[k]?.getD 0 else mxTo xs k
theorem max_any (a : Option Addr) (len cap : Nat) (xs : List Int) (w : World) (h : Lst w a len xs) (h1 : 1 ≤ len) (h2 : len ≤ 1048576) :
    Calls Tryd.prog 28 #[.slice a len cap] w fun e w' => e = .returned (.int .i64 (mxTo xs xs.length)) ∧ w = w' := by
  obtain ⟨b, off, rfl, hb, hc⟩ := h.2 0 h1
  have hc0 := hc
  rw [Nat.add_zero] at hc0
  have hl : decide ((len : Int) < 1) = false := by simp; omega
  go_enter Tryd.func28, Tryd.ntmps28
  go_wp2
  go_loopw [3, 4] (fun s i wr => ∃ k : Nat, 1 ≤ k ∧ k ≤ len ∧ i = .int .i64 k ∧ s = .int .i64 (mxTo xs k) ∧ wr = w) (fun _ i _ => len - (intOf i).toNat)
  case atStart => exact ⟨1, by omega, h1, rfl, by simp [mxTo], rfl⟩
  case round =>
    obtain ⟨k, hk1, hk, rfl, rfl, rfl⟩ := hrel
    by_cases hlt : k < len
    · obtain ⟨b2, o2, he2, hb2, hc2⟩ := h.2 k hlt
      simp only [Option.some.injEq, Addr.mk.injEq, and_true] at he2
      obtain ⟨rfl, rfl⟩ := he2
      go_wp2
      go_roundw
      case rel => exact ⟨k + 1, by omega, by omega, by go_num, rfl, trivial⟩
      case measure => simp [intOf]; omega
    · obtain rfl : k = len := by omega
      go_wp2
      go_ret
      exact ⟨by rw [h.1]; rfl, rfl⟩
def three (a b c : Int) : Value := .tuple #[.int .i64 a, .int .i64 b, .int .i64 c]
def rangeV (xs : List Int) : Value := if someCode xs = 0 then three (mnTo xs xs.length) (mxTo xs xs.length) 0 else three 0 0 (someCode xs)
def min2 (a b : Int) : Int := if b < a then b else a
def max2 (a b : Int) : Int := if a < b then b else a
theorem l00Min_any (a b : Int) (w : World) :
    Calls Tryd.prog 42 #[.int .i64 a, .int .i64 b] w fun e w' => e = .returned (.int .i64 (min2 a b)) ∧ w = w' := by
  by_cases hlt : a < b
  all_goals
    go_enter Tryd.func42, Tryd.ntmps42
    go_wp2
    go_ret
    exact ⟨ret_int (by simp only [min2]; split <;> omega), rfl⟩
end Go.Proofs.YtlbphdbcjhggjaaDoor
