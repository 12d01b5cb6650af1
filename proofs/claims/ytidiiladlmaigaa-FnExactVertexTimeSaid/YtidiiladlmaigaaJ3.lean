/- PathOf and LongestGap, both sides. -/
import Derived.Test.YtidiiladlmaigaaJ2
namespace Go.Proofs.Ytidiiladlmaigaa
open Go.ChangeShapes Go.WideShapes Go.ChangeAt Go.RowKit Go.Deep

theorem flipP {P : Program} {f : FuncId} {args : Array Value} {w : World} {v : Value} (h : Calls P f args w fun e w' => e = .returned v ∧ w = w') : Calls P f args w fun e w' => e = .returned v ∧ w' = w :=
  h.mono fun _ _ hh => ⟨hh.1, hh.2.symm⟩
def cvC (xs : List Pt) : Int := if okP xs then 0 else 1
theorem cvC_no {xs : List Pt} (h : okP xs = false) : cvC xs = 1 := by simp [cvC, h]
theorem cvC_yes {xs : List Pt} (h : okP xs = true) : cvC xs = 0 := by simp [cvC, h]
/-- the way of the first k points -/
def pathN (xs : List Pt) : Nat → Nat
  | 0 => 0
  | k + 1 => pathN xs k + (if k = 0 then 0 else ((xs[k]?.getD pt0).2 - (xs[k - 1]?.getD pt0).2).natAbs)
theorem pathN_le {xs : List Pt} {n : Nat} (h : ∀ k, k < n → 0 ≤ (xs[k]?.getD pt0).1 ∧ (xs[k]?.getD pt0).1 ≤ 10000000 ∧ -2000 ≤ (xs[k]?.getD pt0).2 ∧ (xs[k]?.getD pt0).2 ≤ 20000) : ∀ k, k ≤ n → pathN xs k ≤ 22000 * k
  | 0, _ => by simp [pathN]
  | k + 1, hk => by
    have h1 := pathN_le h k (by omega)
    have h2 := h k (by omega)
    have h3 := h (k - 1) (by omega)
    simp only [pathN]
    split <;> omega
theorem pathN_step {xs : List Pt} {k : Nat} {x y : Pt} (hx : xs[k + 1]?.getD pt0 = x) (hy : xs[k]?.getD pt0 = y) : pathN xs (k + 1 + 1) = pathN xs (k + 1) + (x.2 - y.2).natAbs := by
  rw [pathN, if_neg (by omega), hx, Nat.add_sub_cancel, hy]
def paA (xs : List Pt) : Int := if okP xs then (pathN xs xs.length : Int) else 0
theorem paA_no {xs : List Pt} (h : okP xs = false) : paA xs = 0 := by simp [paA, h]
theorem paA_yes {xs : List Pt} {n : Nat} (hn : xs.length = n) (h : okP xs = true) : paA xs = (pathN xs n : Int) := by simp [paA, h, hn]
theorem path_bound {p q : Nat} {k : Nat} (h1 : p ≤ 22000 * k) (h2 : k ≤ 100) (h3 : q ≤ 22000) : IntKind.i64.wrap ((p : Int) + (q : Int)) = ((p + q : Nat) : Int) := by rw [IntWalk.i64_in _ (by omega)]; omega
end Go.Proofs.Ytidiiladlmaigaa
