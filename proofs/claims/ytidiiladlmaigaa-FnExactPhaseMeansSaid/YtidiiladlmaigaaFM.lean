/- PhaseCounts and PhaseMeans, the model's. -/
import Derived.Test.YtidiiladlmaigaaF5
import Derived.Test.YtidiiladlmaigaaF1
import Derived.Test.YtidiiladlmaigaaFB
import Derived.Test.YtidiiladlmaigaaFK
import Derived.Test.YtidiiladlmaigaaH7R
import Derived.Test.YtidiiladlmaigaaJSM
import Derived.Deep.RegionHeld3
import Derived.Deep.AppendLies
import Derived.Deep.RegionLaw
import Derived.BigRegion
import Derived.Shelf.RegionOpenPlain
namespace Go.Proofs.Ytidiiladlmaigaa
open Go.ChangeShapes Go.WideShapes Go.ChangeAt Go.RowKit Go.Deep

def sumS (l : List Pt) : Int := (l.map fun x => x.2).sum
theorem sumS_snoc (l : List Pt) (x : Pt) : sumS (l ++ [x]) = sumS l + x.2 := by simp [sumS]
theorem sumS_bd : ∀ (l : List Pt), (∀ x ∈ l, -2000 ≤ x.2 ∧ x.2 ≤ 20000) → -(2000 * (l.length : Int)) ≤ sumS l ∧ sumS l ≤ 20000 * (l.length : Int)
  | [], _ => by simp [sumS]
  | x :: l, h => by
    have h1 := sumS_bd l (fun y hy => h y (List.mem_cons_of_mem _ hy))
    have h2 := h x (List.mem_cons_self)
    have e : sumS (x :: l) = x.2 + sumS l := by simp [sumS]
    rw [e, List.length_cons]
    omega
theorem sumS_sumF (l : List Pt) : ∀ n, n ≤ l.length → sumF (fun j => (l[j]?.getD pt0).2) n = sumS (l.take n)
  | 0, _ => by simp [sumF, sumS]
  | n + 1, h => by
    have ih := sumS_sumF l n (by omega)
    rw [List.take_succ_eq_append_getElem (by omega), sumS_snoc, ← ih]
    show sumF _ n + (l[n]?.getD pt0).2 = _
    rw [List.getElem?_eq_getElem (by omega), Option.getD_some]
theorem mnB_sum (e p b : Int) (xs : List Pt) (i : Nat) : mnB e p b xs i = ((i : Int), rnd (sumS (ptsIn e p b xs xs.length i)) (cntB e p b xs i)) := by
  unfold mnB cntB
  rw [sumS_sumF _ _ (Nat.le_refl _), List.take_of_length_le (Nat.le_refl _)]
def cntR (e p b : Int) (xs : List Pt) (B k : Nat) : List Int := (List.range B).map fun i : Nat => ((ptsIn e p b xs k i).length : Int)
def sumR (e p b : Int) (xs : List Pt) (B k : Nat) : List Int := (List.range B).map fun i : Nat => sumS (ptsIn e p b xs k i)
theorem set_range (f g : Nat → Int) (B q : Nat) (h : ∀ i, i < B → i ≠ q → g i = f i) : (((List.range B).map f).map (Value.int .i64)).set q (.int .i64 (g q)) = ((List.range B).map g).map (Value.int .i64) := by
  apply List.ext_getElem?
  intro j
  rw [List.getElem?_set]
  by_cases hjq : q = j
  · subst hjq
    rw [if_pos rfl]
    by_cases hq : q < B
    · simp [hq]
    · simp [hq]
  · rw [if_neg hjq]
    by_cases hj : j < B
    · have := h j hj (fun e => hjq e.symm)
      simp [hj, this]
    · simp [hj]
theorem range_zero (B : Nat) (f : Nat → Int) (h : ∀ i, f i = 0) : (madeCells (Value.int .i64 0).cells (B * 1)).toList = ((List.range B).map f).map (Value.int .i64) := by
  rw [cop_zero ((List.range B).map f)]
  apply List.ext_getElem?
  intro j
  by_cases hj : j < B
  · simp [cop, hj, h]
  · simp [cop, hj]
theorem cntR_at {e p b : Int} {xs : List Pt} {B k q : Nat} (hq : q < B) : ((cntR e p b xs B k).map (Value.int .i64))[q]? = some (.int .i64 ((ptsIn e p b xs k q).length : Int)) := by simp [cntR, hq]
theorem sumR_at {e p b : Int} {xs : List Pt} {B k q : Nat} (hq : q < B) : ((sumR e p b xs B k).map (Value.int .i64))[q]? = some (.int .i64 (sumS (ptsIn e p b xs k q))) := by simp [sumR, hq]
theorem cntR_set {e p b : Int} {xs : List Pt} {B k q : Nat} {x : Pt} (hk : k < xs.length) (hx : xs[k]?.getD pt0 = x) (hq : bnN e p b x.1 = q) : ((cntR e p b xs B k).map (Value.int .i64)).set q (.int .i64 (((ptsIn e p b xs k q).length : Int) + 1)) = (cntR e p b xs B (k + 1)).map (Value.int .i64) := by
  have h := set_range (fun i => ((ptsIn e p b xs k i).length : Int)) (fun i => ((ptsIn e p b xs (k + 1) i).length : Int)) B q (fun i _ hne => by show ((ptsIn e p b xs (k + 1) i).length : Int) = _; rw [ptsIn_other hk hx (by rw [hq]; exact fun e => hne e.symm)])
  have e1 : ((ptsIn e p b xs (k + 1) q).length : Int) = ((ptsIn e p b xs k q).length : Int) + 1 := by rw [ptsIn_same hk hx hq]; simp
  rw [← e1]
  exact h
theorem sumR_set {e p b : Int} {xs : List Pt} {B k q : Nat} {x : Pt} (hk : k < xs.length) (hx : xs[k]?.getD pt0 = x) (hq : bnN e p b x.1 = q) : ((sumR e p b xs B k).map (Value.int .i64)).set q (.int .i64 (sumS (ptsIn e p b xs k q) + x.2)) = (sumR e p b xs B (k + 1)).map (Value.int .i64) := by
  have h := set_range (fun i => sumS (ptsIn e p b xs k i)) (fun i => sumS (ptsIn e p b xs (k + 1) i)) B q (fun i _ hne => by show sumS (ptsIn e p b xs (k + 1) i) = _; rw [ptsIn_other hk hx (by rw [hq]; exact fun e => hne e.symm)])
  have e1 : sumS (ptsIn e p b xs (k + 1) q) = sumS (ptsIn e p b xs k q) + x.2 := by rw [ptsIn_same hk hx hq, sumS_snoc]
  rw [← e1]
  exact h
end Go.Proofs.Ytidiiladlmaigaa
