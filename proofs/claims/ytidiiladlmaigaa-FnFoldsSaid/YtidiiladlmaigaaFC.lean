/- FoldOrder, the program's: slices.SortStableFunc over indices. -/
import Derived.Test.YtidiiladlmaigaaFG
import Derived.Test.YtidiiladlmaigaaZ5
import Derived.Test.YtidiiladlmaigaaH7R
import Derived.Test.YtidiiladlmaigaaJ2
import Derived.Test.YtidiiladlmaigaaFK
namespace Go.Proofs.Ytidiiladlmaigaa
open Go.ChangeShapes Go.WideShapes Go.ChangeAt Go.RowKit Go.Deep Go.Shelf

def keyP (e p : Int) (xs : List Pt) (i : Nat) : Int := phs e p (xs[i]?.getD pt0).1
/-- the order of the points: by their phases, and equal ones as they stand -/
def leF (e p : Int) (xs : List Pt) (i j : Int) : Bool := decide (keyP e p xs i.toNat < keyP e p xs j.toNat ∨ keyP e p xs i.toNat = keyP e p xs j.toNat ∧ i ≤ j)
def idxL (n : Nat) : List Int := (List.range n).map fun i : Nat => (i : Int)
def foC (e p : Int) (xs : List Pt) : Int := if ephB e p && okP xs then 0 else 1
def foL (e p : Int) (xs : List Pt) : List Int := if ephB e p && okP xs then (idxL xs.length).mergeSort (leF e p xs) else []
theorem fo_no {e p : Int} {xs : List Pt} (h : (ephB e p && okP xs) = false) : foC e p xs = 1 ∧ foL e p xs = [] := by simp only [foC, foL, h]; simp
theorem fo_yes {e p : Int} {xs : List Pt} (h : (ephB e p && okP xs) = true) : foC e p xs = 0 ∧ foL e p xs = (idxL xs.length).mergeSort (leF e p xs) := by simp only [foC, foL, h]; simp
theorem idxL_len (n : Nat) : (idxL n).length = n := by simp [idxL]
theorem foL_len {n : Nat} (e p : Int) {xs : List Pt} (h : xs.length ≤ n) : (foL e p xs).length ≤ n := by
  unfold foL
  split
  · rw [List.length_mergeSort, idxL_len]; exact h
  · simp
theorem leF_trans (e p : Int) (xs : List Pt) (a b c : Int) : leF e p xs a b = true → leF e p xs b c = true → leF e p xs a c = true := by
  unfold leF
  simp only [decide_eq_true_eq]
  omega
theorem leF_total (e p : Int) (xs : List Pt) (a b : Int) : (leF e p xs a b || leF e p xs b a) = true := by
  unfold leF
  rw [Bool.or_eq_true, decide_eq_true_eq, decide_eq_true_eq]
  omega
theorem leF_anti {e p : Int} {xs : List Pt} {a b : Int} (h1 : leF e p xs a b = true) (h2 : leF e p xs b a = true) : a = b := by
  unfold leF at h1 h2
  simp only [decide_eq_true_eq] at h1 h2
  omega
/-- there is one such order -/
theorem fold_unique {e p : Int} {xs : List Pt} {n : Nat} {l : List Int} (hp : l.Perm (idxL n)) (hs : l.Pairwise (fun a b => leF e p xs a b = true)) : l = (idxL n).mergeSort (leF e p xs) := by
  have h1 := List.pairwise_mergeSort (le := leF e p xs) (leF_trans e p xs) (leF_total e p xs) (idxL n)
  have h2 : l.Perm ((idxL n).mergeSort (leF e p xs)) := hp.trans (List.mergeSort_perm _ _).symm
  exact h2.eq_of_pairwise (fun a b _ _ => leF_anti) hs h1
end Go.Proofs.Ytidiiladlmaigaa
