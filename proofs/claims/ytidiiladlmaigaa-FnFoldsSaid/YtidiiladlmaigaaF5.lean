/- Points by the bins of a period: plain lists. -/
import Derived.Test.YtidiiladlmaigaaF0
import Derived.Test.YtidiiladlmaigaaJ1
import Derived.Test.YtidiiladlmaigaaJN
namespace Go.Proofs.Ytidiiladlmaigaa

/-- the points of a bin among the first k -/
def ptsIn (e p b : Int) (xs : List Pt) (k i : Nat) : List Pt := (xs.take k).filter fun x => bnN e p b x.1 == i
theorem ptsIn_zero (e p b : Int) (xs : List Pt) (i : Nat) : ptsIn e p b xs 0 i = [] := by simp [ptsIn]
theorem ptsIn_len (e p b : Int) (xs : List Pt) (k i : Nat) : (ptsIn e p b xs k i).length ≤ k := by
  refine Nat.le_trans (List.length_filter_le _ _) ?_
  rw [List.length_take]; omega
theorem ptsIn_same {e p b : Int} {xs : List Pt} {k i : Nat} {x : Pt} (hk : k < xs.length) (hx : xs[k]?.getD pt0 = x) (h : bnN e p b x.1 = i) : ptsIn e p b xs (k + 1) i = ptsIn e p b xs k i ++ [x] := by
  have hx' : xs[k] = x := by rw [← hx]; simp [hk]
  rw [ptsIn, ptsIn, List.take_succ_eq_append_getElem hk, List.filter_append, hx', List.filter_cons, if_pos (by simp [h])]; rfl
theorem ptsIn_other {e p b : Int} {xs : List Pt} {k i : Nat} {x : Pt} (hk : k < xs.length) (hx : xs[k]?.getD pt0 = x) (h : bnN e p b x.1 ≠ i) : ptsIn e p b xs (k + 1) i = ptsIn e p b xs k i := by
  have hx' : xs[k] = x := by rw [← hx]; simp [hk]
  rw [ptsIn, ptsIn, List.take_succ_eq_append_getElem hk, List.filter_append, hx', List.filter_cons, if_neg (by simp [h])]; simp
/-! ### counts and means -/
def cntB (e p b : Int) (xs : List Pt) (i : Nat) : Nat := (ptsIn e p b xs xs.length i).length
def binsB (b : Int) : Bool := inB b 1 50
def pcC (e p : Int) (xs : List Pt) (b : Int) : Int := if ephB e p && okP xs then (if binsB b then 0 else 2) else 1
def pcL (e p : Int) (xs : List Pt) (b : Int) : List Int := if pcC e p xs b = 0 then (List.range b.toNat).map fun i : Nat => (cntB e p b xs i : Int) else []
theorem pc_1 {e p b : Int} {xs : List Pt} (h : (ephB e p && okP xs) = false) : pcC e p xs b = 1 ∧ pcL e p xs b = [] := by simp only [pcL, pcC, h]; simp
theorem pc_2 {e p b : Int} {xs : List Pt} (h : (ephB e p && okP xs) = true) (h2 : binsB b = false) : pcC e p xs b = 2 ∧ pcL e p xs b = [] := by simp only [pcL, pcC, h, h2]; simp
theorem pc_0 {e p b : Int} {xs : List Pt} (h : (ephB e p && okP xs) = true) (h2 : binsB b = true) : pcC e p xs b = 0 ∧ pcL e p xs b = (List.range b.toNat).map fun i : Nat => (cntB e p b xs i : Int) := by simp only [pcL, pcC, h, h2]; simp
theorem pcL_len {n : Nat} (h : 50 ≤ n) (e p : Int) (xs : List Pt) (b : Int) : (pcL e p xs b).length ≤ n := by
  unfold pcL pcC
  cases h1 : (ephB e p && okP xs)
  · simp
  cases h2 : binsB b
  · simp
  · have := inB_iff.1 h2
    simp; omega
/-- the mean of a bin -/
def mnB (e p b : Int) (xs : List Pt) (i : Nat) : Pt := ((i : Int), rnd (sumF (fun j => ((ptsIn e p b xs xs.length i)[j]?.getD pt0).2) (cntB e p b xs i)) (cntB e p b xs i))
def mnsB (e p b : Int) (xs : List Pt) (k : Nat) : List Pt := ((List.range k).filter fun i => decide (0 < cntB e p b xs i)).map (mnB e p b xs)
theorem mnsB_yes {e p b : Int} {xs : List Pt} {k : Nat} (h : 0 < cntB e p b xs k) : mnsB e p b xs (k + 1) = mnsB e p b xs k ++ [mnB e p b xs k] := by
  rw [mnsB, mnsB, List.range_succ, List.filter_append, List.map_append, List.filter_cons, if_pos (by simpa using h)]; rfl
theorem mnsB_no {e p b : Int} {xs : List Pt} {k : Nat} (h : ¬ 0 < cntB e p b xs k) : mnsB e p b xs (k + 1) = mnsB e p b xs k := by
  rw [mnsB, mnsB, List.range_succ, List.filter_append, List.map_append, List.filter_cons, if_neg (by simpa using h)]; simp
theorem mnsB_len (e p b : Int) (xs : List Pt) (k : Nat) : (mnsB e p b xs k).length ≤ k := by
  rw [mnsB, List.length_map]
  exact Nat.le_trans (List.length_filter_le _ _) (by simp)
/-- no point is in a bin behind the last one -/
theorem cnt_none {e p b : Int} {xs : List Pt} {i : Nat} (hp : 1 ≤ p) (hb : 1 ≤ b) (h : b ≤ (i : Int)) : cntB e p b xs i = 0 := by
  rw [cntB, List.length_eq_zero_iff, ptsIn, List.filter_eq_nil_iff]
  intro x _ hx
  have := bnN_lt (e := e) (t := x.1) hp hb
  simp at hx
  omega
theorem mnsB_more {e p b : Int} {xs : List Pt} (hp : 1 ≤ p) (hb : 1 ≤ b) : ∀ m, mnsB e p b xs (b.toNat + m) = mnsB e p b xs b.toNat
  | 0 => rfl
  | m + 1 => by
    rw [show b.toNat + (m + 1) = (b.toNat + m) + 1 by omega, mnsB_no (by rw [cnt_none hp hb (by omega)]; omega)]
    exact mnsB_more hp hb m
def pmL (e p : Int) (xs : List Pt) (b : Int) : List Pt := if pcC e p xs b = 0 then mnsB e p b xs b.toNat else []
theorem pm_1 {e p b : Int} {xs : List Pt} (h : (ephB e p && okP xs) = false) : pmL e p xs b = [] := by simp only [pmL, pcC, h]; simp
theorem pm_2 {e p b : Int} {xs : List Pt} (h : (ephB e p && okP xs) = true) (h2 : binsB b = false) : pmL e p xs b = [] := by simp only [pmL, pcC, h, h2]; simp
theorem pm_0 {e p b : Int} {xs : List Pt} (h : (ephB e p && okP xs) = true) (h2 : binsB b = true) : pmL e p xs b = mnsB e p b xs b.toNat := by simp only [pmL, pcC, h, h2]; simp
theorem pmL_len {n : Nat} (h : 50 ≤ n) (e p : Int) (xs : List Pt) (b : Int) : (pmL e p xs b).length ≤ n := by
  unfold pmL pcC
  cases h1 : (ephB e p && okP xs)
  · simp
  cases h2 : binsB b
  · simp
  · have h3 := inB_iff.1 h2
    have h4 := mnsB_len e p b xs b.toNat
    simp; omega
end Go.Proofs.Ytidiiladlmaigaa
