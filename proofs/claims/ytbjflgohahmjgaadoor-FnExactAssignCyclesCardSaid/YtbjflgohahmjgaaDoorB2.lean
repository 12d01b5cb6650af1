/- Contracts of chapter 2's functions of single numbers, the program's and the model's, over one seat's translation. -/
import Derived.Test.YtbjflgohahmjgaaDoorB1
import Derived.Test.YtbjflgohahmjgaaDoorB2M
namespace Go.Proofs.YtbjflgohahmjgaaDoor
open Go.ChangeShapes Go.WideShapes Go.ChangeAt Go.RowKit

theorem mul_bd (a q l h m : Int) (h1 : l ≤ a) (h2 : a ≤ h) (h3 : 0 ≤ q) (h4 : q ≤ m) (hl : l ≤ 0) (hh : 0 ≤ h) : l * m ≤ a * q ∧ a * q ≤ h * m := by
  have e1 := Int.mul_le_mul_of_nonneg_right h1 h3
  have e2 := Int.mul_le_mul_of_nonneg_right h2 h3
  have e3 := Int.mul_le_mul_of_nonneg_left h4 hh
  have e4 := Int.mul_le_mul_of_nonpos_left hl h4
  exact ⟨Int.le_trans e4 e1, Int.le_trans e2 e3⟩
def btwV (a b p q : Int) : Value := .tuple #[.int .i64 (rnd (a * q + b * p) (p + q)), .int .i64 0]
theorem btw_eq (a b p q : Int) : a * (p + q) + (b - a) * p = a * q + b * p := by
  rw [Int.mul_add, Int.sub_mul]; omega
/-- the pair of a number and a code -/
def two (a b : Int) : Value := .tuple #[.int .i64 a, .int .i64 b]
def btw (a b p q : Int) : Value :=
  if magB a && magB b && inB p 0 50 && inB q 0 50 then (if p = 0 ∧ q = 0 then two 0 6 else two (rnd (a * q + b * p) (p + q)) 0) else two 0 2

def sszV (a b s : Int) : Value := .tuple #[.agg #[.int .i64 (lowN (b - a) s), .int .i64 (lowD (b - a) s)], .int .i64 0]
def sszE : Value := .tuple #[.agg #[.int .i64 0, .int .i64 0], .int .i64 2]
def ssz (a b s : Int) : Value := if magB a && magB b && inB s 1 50 then sszV a b s else sszE
def bstOk (a s n d : Int) : Bool := magB a && inB s (-50) 50 && (inB n (-1000000) 1000000 && inB d 1 1000)
def bst (a s n d : Int) : Value :=
  if bstOk a s n d then (if magB (rnd (a * d + s * n) d) then two (rnd (a * d + s * n) d) 0 else two 0 5) else two 0 2
theorem bst_bd {a s n d : Int} (h : bstOk a s n d = true) : (-2000 ≤ a ∧ a ≤ 20000 ∧ -50 ≤ s ∧ s ≤ 50 ∧ 1 ≤ d ∧ d ≤ 1000) ∧ -20000000 ≤ a * d ∧ a * d ≤ 20000000 ∧ -50000000 ≤ s * n ∧ s * n ≤ 50000000 := by
  simp only [bstOk, Bool.and_eq_true, magB_iff, inB_iff] at h
  obtain ⟨⟨⟨a1, a2⟩, s1, s2⟩, ⟨n1, n2⟩, d1, d2⟩ := h
  refine ⟨by omega, ?_⟩
  obtain ⟨m1, m2⟩ := mul_bd a d (-20000) 20000 1000 (by omega) a2 (by omega) d2 (by omega) (by omega)
  have e1 : (s * n).natAbs ≤ 50000000 := by
    rw [Int.natAbs_mul]
    exact Nat.mul_le_mul (show s.natAbs ≤ 50 by omega) (show n.natAbs ≤ 1000000 by omega)
  omega
theorem eqFraction_any (a b c d : Int) (w : World) :
    Calls Tryd.prog 24 #[.agg #[.int .i64 a, .int .i64 b], .agg #[.int .i64 c, .int .i64 d]] w fun e w' => e = .returned (.bool (a == c && b == d)) ∧ Below w.heap.size w w' := by
  cases h1 : (a == c)
  · have h1' : (a != c) = true := by simp [bne, h1]
    go_enter Tryd.func24, Tryd.ntmps24; go_wp2; go_ret; exact ⟨by simp [*], by (repeat (first | assumption | exact Below.refl _ _ | refine belowDN ?_ _ | refine Below.drew ?_ | refine Below.setCell ?_ (by first | omega | (simp <;> omega)) _ | refine Below.alloc ?_ (by first | omega | (simp <;> omega)) _ | refine belowCall ?_ (by assumption)))⟩
  · have h1' : (a != c) = false := by simp [bne, h1]
    cases h2 : (b == d)
    · have h2' : (b != d) = true := by simp [bne, h2]
      go_enter Tryd.func24, Tryd.ntmps24; go_wp2; go_ret; exact ⟨by simp [*], by (repeat (first | assumption | exact Below.refl _ _ | refine belowDN ?_ _ | refine Below.drew ?_ | refine Below.setCell ?_ (by first | omega | (simp <;> omega)) _ | refine Below.alloc ?_ (by first | omega | (simp <;> omega)) _ | refine belowCall ?_ (by assumption)))⟩
    · have h2' : (b != d) = false := by simp [bne, h2]
      go_enter Tryd.func24, Tryd.ntmps24; go_wp2; go_ret; exact ⟨by simp [*], by (repeat (first | assumption | exact Below.refl _ _ | refine belowDN ?_ _ | refine Below.drew ?_ | refine Below.setCell ?_ (by first | omega | (simp <;> omega)) _ | refine Below.alloc ?_ (by first | omega | (simp <;> omega)) _ | refine belowCall ?_ (by assumption)))⟩
end Go.Proofs.YtbjflgohahmjgaaDoor
