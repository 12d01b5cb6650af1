/- MeanMag, RangeOfMags, EnclosingPair: the program's and the model's. -/
import Derived.Test.YtidiiladlmaigaaB4
namespace Go.Proofs.Ytidiiladlmaigaa
open Go.ChangeShapes Go.WideShapes Go.ChangeAt Go.RowKit

def sumTo (xs : List Int) : Nat → Int
  | 0 => 0
  | k + 1 => sumTo xs k + xs[k]?.getD 0
theorem sumTo_bd {xs : List Int} (h : okMags xs = true) : ∀ k, k ≤ xs.length → -2000 * (k : Int) ≤ sumTo xs k ∧ sumTo xs k ≤ 20000 * (k : Int)
  | 0, _ => by simp [sumTo]
  | k + 1, hk => by
    have h1 := sumTo_bd h k (by omega)
    have h2 := okMags_at h k (by omega)
    simp only [sumTo]
    omega
theorem ok_len {xs : List Int} (h : okMags xs = true) : xs.length ≤ 100 := by
  simp only [okMags, Bool.and_eq_true, decide_eq_true_eq] at h
  exact h.1
theorem some_zero {xs : List Int} (h : someCode xs = 0) : okMags xs = true ∧ xs.length ≠ 0 := by
  unfold someCode at h
  split at h
  · split at h
    · omega
    · exact ⟨by assumption, by assumption⟩
  · omega
def meanV (xs : List Int) : Value := if someCode xs = 0 then two (rnd (sumTo xs xs.length) xs.length) 0 else two 0 (someCode xs)

def mnTo (xs : List Int) : Nat → Int
  | 0 => xs[0]?.getD 0
  | k + 1 => if xs[k]?.getD 0 < mnTo xs k then xs[k]?.getD 0 else mnTo xs k
def mxTo (xs : List Int) : Nat → Int
  | 0 => xs[0]?.getD 0
  | k + 1 => if mxTo xs k < xs[k]?.getD 0 then xs[k]?.getD 0 else mxTo xs k
def three (a b c : Int) : Value := .tuple #[.int .i64 a, .int .i64 b, .int .i64 c]
def rangeV (xs : List Int) : Value := if someCode xs = 0 then three (mnTo xs xs.length) (mxTo xs xs.length) 0 else three 0 0 (someCode xs)
def min2 (a b : Int) : Int := if b < a then b else a
def max2 (a b : Int) : Int := if a < b then b else a
end Go.Proofs.Ytidiiladlmaigaa
