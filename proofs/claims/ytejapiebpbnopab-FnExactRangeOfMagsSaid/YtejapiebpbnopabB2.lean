/- Contracts of chapter 2's functions of single numbers, the program's and the model's, over one seat's translation. -/
import Derived.Test.YtejapiebpbnopabB1
namespace Go.Proofs.Ytejapiebpbnopab
open Go.ChangeShapes Go.WideShapes Go.ChangeAt Go.RowKit

theorem mul_bd (a q l h m : Int) (h1 : l ≤ a) (h2 : a ≤ h) (h3 : 0 ≤ q) (h4 : q ≤ m) (hl : l ≤ 0) (hh : 0 ≤ h) : l * m ≤ a * q ∧ a * q ≤ h * m := by
  have e1 := Int.mul_le_mul_of_nonneg_right h1 h3
  have e2 := Int.mul_le_mul_of_nonneg_right h2 h3
  have e3 := Int.mul_le_mul_of_nonneg_left h4 hh
  have e4 := Int.mul_le_mul_of_nonpos_left hl h4
  exact ⟨Int.le_trans e4 e1, Int.le_trans e2 e3⟩
def btwV (a b p q : Int) : Value := .tuple #[.int .i64 (rnd (a * q + b * p) (p + q)), .int .i64 0]
theorem btw_eq (a b p q : Int) : a * (p + q) + (b - a) * p = a * q + b * p := by
  rw [Int.mul_add, Int.sub_mul]; omega
/-- the pair of a number and a code -/
def two (a b : Int) : Value := .tuple #[.int .i64 a, .int .i64 b]
def btw (a b p q : Int) : Value :=
  if magB a && magB b && inB p 0 50 && inB q 0 50 then (if p = 0 ∧ q = 0 then two 0 6 else two (rnd (a * q + b * p) (p + q)) 0) else two 0 2

def sszV (a b s : Int) : Value := .tuple #[.agg #[.int .i64 (lowN (b - a) s), .int .i64 (lowD (b - a) s)], .int .i64 0]
def sszE : Value := .tuple #[.agg #[.int .i64 0, .int .i64 0], .int .i64 2]
def ssz (a b s : Int) : Value := if magB a && magB b && inB s 1 50 then sszV a b s else sszE
theorem toFraction_any (a b : Int) (w : World) :
    Calls Try.prog 9 #[.agg #[.int .i64 a, .int .i64 b]] w fun e w' => e = .returned (.agg #[.int .i64 a, .int .i64 b]) ∧ Below w.heap.size w w' := by
  go_enter Try.func9, Try.ntmps9
  go_wp2
  exact bodyPost_ret (v := .agg #[.int .i64 a, .int .i64 b]) (by simp [results, Try.results9, go_sem]) rfl ⟨rfl, by (repeat (first | assumption | exact Below.refl _ _ | refine belowDN ?_ _ | refine Below.drew ?_ | refine Below.setCell ?_ (by first | omega | (simp <;> omega)) _ | refine Below.alloc ?_ (by first | omega | (simp <;> omega)) _ | refine belowCall ?_ (by assumption)))⟩
end Go.Proofs.Ytejapiebpbnopab
