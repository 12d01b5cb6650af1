/- Chapter 2's functions of lists of magnitudes, the program's and the model's. -/
import Derived.Test.YtidiiladlmaigaaB2
import Derived.Test.YtidiiladlmaigaaB3
namespace Go.Proofs.Ytidiiladlmaigaa
open Go.ChangeShapes Go.WideShapes Go.ChangeAt Go.RowKit

def okMags (xs : List Int) : Bool := decide (xs.length ≤ 100) && xs.all magB
theorem all_of {xs : List Int} {n : Nat} (h1 : xs.length = n) (h : ∀ j, j < n → magB (xs[j]?.getD 0) = true) : xs.all magB = true := by
  rw [List.all_eq_true]
  intro x hx
  obtain ⟨j, hj, rfl⟩ := List.getElem_of_mem hx
  have := h j (by omega)
  simpa [hj] using this
theorem not_all_of {xs : List Int} {k n : Nat} (h1 : xs.length = n) (hk : k < n) (h : magB (xs[k]?.getD 0) = false) : xs.all magB = false := by
  rw [List.all_eq_false]
  have hkx : k < xs.length := by omega
  exact ⟨xs[k], List.getElem_mem hkx, by simpa [hkx] using h⟩
theorem okMags_at {xs : List Int} (h : okMags xs = true) (j : Nat) (hj : j < xs.length) : -2000 ≤ xs[j]?.getD 0 ∧ xs[j]?.getD 0 ≤ 20000 := by
  simp only [okMags, Bool.and_eq_true] at h
  have := List.all_eq_true.1 h.2 xs[j] (List.getElem_mem hj)
  rw [magB_iff] at this
  simpa [hj] using this

def listCode (xs : List Int) : Int := if okMags xs then 0 else 2
def someCode (xs : List Int) : Int := if okMags xs then (if xs.length = 0 then 3 else 0) else 2
end Go.Proofs.Ytidiiladlmaigaa
