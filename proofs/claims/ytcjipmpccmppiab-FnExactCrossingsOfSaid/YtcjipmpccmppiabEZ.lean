/- Crossings of a light curve and a magnitude: plain lists. -/
import Derived.Test.YtcjipmpccmppiabEX
import Derived.Test.YtcjipmpccmppiabJ1
import Derived.Test.YtcjipmpccmppiabEB
import Derived.Test.YtcjipmpccmppiabGFr3
namespace Go.Proofs.Ytcjipmpccmppiab

def crB (xs : List Pt) (l : Int) (i : Nat) : Bool := decide (mgX xs i < l) != decide (mgX xs (i + 1) < l)
def crN (xs : List Pt) (l : Int) (i : Nat) : Int := tmX xs i * (mgX xs (i + 1) - l) + tmX xs (i + 1) * (l - mgX xs i)
def crD (xs : List Pt) (i : Nat) : Int := mgX xs (i + 1) - mgX xs i
def crF (xs : List Pt) (l : Int) (i : Nat) : Fr := (qtN (crN xs l i) (crD xs i), qtD (crN xs l i) (crD xs i))
def crL (xs : List Pt) (l : Int) (k : Nat) : List Fr := ((List.range k).filter (crB xs l)).map (crF xs l)
theorem crL_no {xs : List Pt} {l : Int} {k : Nat} (h : crB xs l k = false) : crL xs l (k + 1) = crL xs l k := by
  rw [crL, crL, List.range_succ, List.filter_append, List.map_append, List.filter_cons, if_neg (by simp [h])]; simp
theorem crL_yes {xs : List Pt} {l : Int} {k : Nat} (h : crB xs l k = true) : crL xs l (k + 1) = crL xs l k ++ [crF xs l k] := by
  rw [crL, crL, List.range_succ, List.filter_append, List.map_append, List.filter_cons, if_pos h]; simp
theorem crL_len (xs : List Pt) (l : Int) (k : Nat) : (crL xs l k).length ≤ k := by
  rw [crL, List.length_map]; exact Nat.le_trans (List.length_filter_le _ _) (by simp)
def crC (xs : List Pt) (l : Int) : Int := if okP xs then (if magB l then 0 else 2) else 1
def crA (xs : List Pt) (l : Int) : List Fr := if crC xs l = 0 then crL xs l (xs.length - 1) else []
theorem cr_1 {xs : List Pt} {l : Int} (h : okP xs = false) : crC xs l = 1 ∧ crA xs l = [] := by simp [crA, crC, h]
theorem cr_2 {xs : List Pt} {l : Int} (h : okP xs = true) (h2 : magB l = false) : crC xs l = 2 ∧ crA xs l = [] := by simp [crA, crC, h, h2]
theorem cr_0 {xs : List Pt} {l : Int} {n : Nat} (hn : xs.length = n) (h : okP xs = true) (h2 : magB l = true) : crC xs l = 0 ∧ crA xs l = crL xs l (n - 1) := by simp [crA, crC, h, h2, hn]
theorem crA_len {xs : List Pt} {l : Int} {n : Nat} (h : xs.length ≤ n) : (crA xs l).length ≤ n := by
  unfold crA
  split
  · exact Nat.le_trans (crL_len _ _ _) (by omega)
  · simp
/-- the crossing's numbers in a few cases, and how small they are -/
theorem cr_num {x0 x1 y0 y1 l : Int} (hx : 0 ≤ x0 ∧ x0 ≤ 10000000 ∧ -2000 ≤ x1 ∧ x1 ≤ 20000) (hy : 0 ≤ y0 ∧ y0 ≤ 10000000 ∧ -2000 ≤ y1 ∧ y1 ≤ 20000) (hl : -2000 ≤ l ∧ l ≤ 20000) :
    (-220000000000 ≤ x0 * (y1 - l) ∧ x0 * (y1 - l) ≤ 220000000000) ∧ (-220000000000 ≤ y0 * (l - x1) ∧ y0 * (l - x1) ≤ 220000000000) := by
  have p := aMul (a := x0) (b := y1 - l) (A := 10000000) (B := 22000) (by omega) (by omega) (by omega) (by omega)
  have q := aMul (a := y0) (b := l - x1) (A := 10000000) (B := 22000) (by omega) (by omega) (by omega) (by omega)
  omega
/-- the model's words: sizes of the differences -/
theorem cr_up (x0 x1 y0 y1 l : Int) : x0 * (y1 - x1) + (y0 - x0) * (l - x1) = x0 * (y1 - l) + y0 * (l - x1) := by grind
theorem cr_down (x0 x1 y0 y1 l : Int) : x0 * (x1 - y1) + (y0 - x0) * (x1 - l) = -(x0 * (y1 - l) + y0 * (l - x1)) := by grind
/-! ### middles -/
def mdN (a b : Fr) : Int := a.1 * b.2 + b.1 * a.2
def mdD (a b : Fr) : Int := 2 * a.2 * b.2
def mdF (L : List Fr) (i : Nat) : Fr := (qtN (mdN (L[i]?.getD fr0) (L[i + 1]?.getD fr0)) (mdD (L[i]?.getD fr0) (L[i + 1]?.getD fr0)), qtD (mdN (L[i]?.getD fr0) (L[i + 1]?.getD fr0)) (mdD (L[i]?.getD fr0) (L[i + 1]?.getD fr0)))
def mdL (L : List Fr) (k : Nat) : List Fr := (List.range k).map (mdF L)
theorem mdL_len (L : List Fr) (k : Nat) : (mdL L k).length = k := by simp [mdL]
theorem mdL_step (L : List Fr) (k : Nat) : mdL L (k + 1) = mdL L k ++ [mdF L k] := by simp [mdL, List.range_succ]
def mdA (xs : List Pt) (l : Int) : List Fr := mdL (crA xs l) ((crA xs l).length - 1)
theorem mdA_len {xs : List Pt} {l : Int} {n : Nat} (h : xs.length ≤ n) : (mdA xs l).length ≤ n := by
  rw [mdA, mdL_len]
  have := crA_len (l := l) h
  omega
end Go.Proofs.Ytcjipmpccmppiab
