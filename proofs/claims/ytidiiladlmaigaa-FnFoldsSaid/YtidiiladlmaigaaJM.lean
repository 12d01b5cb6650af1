/- Medians of windows and slopes: plain arithmetic. -/
import Derived.Test.YtidiiladlmaigaaM4
import Derived.Test.YtidiiladlmaigaaJ1
namespace Go.Proofs.Ytidiiladlmaigaa

/-- the numbers in rising order -/
def srt (xs : List Int) : List Int := xs.mergeSort (fun a b => decide (a ≤ b))
theorem srt_rising (xs : List Int) : Rising (srt xs) := by
  have h := List.pairwise_mergeSort (le := fun a b : Int => decide (a ≤ b)) (fun a b c h1 h2 => by simp at *; omega) (fun a b => by simp; omega) xs
  exact h.imp fun h => by simpa using h
theorem srt_perm (xs : List Int) : (srt xs).Perm xs := List.mergeSort_perm _ _
theorem medP_srt {ys xs : List Int} (h : Rising ys) (hp : ys.Perm xs) : medP ys = medP (srt xs) := by
  rw [rising_one h (srt_rising xs) (hp.trans (srt_perm xs).symm)]
def mgP (xs : List Pt) : List Int := xs.map fun x => x.2
theorem mgP_len (xs : List Pt) : (mgP xs).length = xs.length := by simp [mgP]
theorem mgP_at (xs : List Pt) (k : Nat) : (mgP xs)[k]?.getD 0 = (xs[k]?.getD pt0).2 := by
  rw [mgP, List.getElem?_map]
  cases xs[k]? <;> rfl
/-- the numbers around the i-th one of n: from.. and how many -/
def wF (i s : Nat) : Nat := i - s
def wT (n i s : Nat) : Nat := min n (i + s + 1)
def winL (ms : List Int) (i s : Nat) : List Int := (ms.drop (wF i s)).take (wT ms.length i s - wF i s)
theorem winL_len {ms : List Int} {n : Nat} (hn : ms.length = n) (i s : Nat) : (winL ms i s).length = wT n i s - wF i s := by
  simp only [winL, List.length_take, List.length_drop, wT, wF, hn]; omega
theorem winL_pos {n i : Nat} (s : Nat) (h : i < n) : 0 < wT n i s - wF i s := by simp only [wT, wF]; omega
theorem winL_mem {ms : List Int} {i s : Nat} {x : Int} (h : x ∈ winL ms i s) : x ∈ ms := List.mem_of_mem_drop (List.mem_of_mem_take h)
/-- the model's list behind t steps -/
def part (ms : List Int) (i s t : Nat) : List Int := (ms.drop (i - s)).take (min ms.length (i + t - s) - (i - s))
theorem part_zero (ms : List Int) (i s : Nat) : part ms i s 0 = [] := by
  unfold part
  rw [show min ms.length (i + 0 - s) - (i - s) = 0 by omega, List.take_zero]
theorem part_low {ms : List Int} {i s t : Nat} (h : i + t < s) : part ms i s (t + 1) = part ms i s t := by
  unfold part
  rw [show min ms.length (i + (t + 1) - s) - (i - s) = min ms.length (i + t - s) - (i - s) by omega]
theorem part_high {ms : List Int} {i s t n : Nat} (hn : ms.length = n) (h1 : s ≤ i + t) (h : n ≤ i + t - s) : part ms i s (t + 1) = part ms i s t := by
  unfold part
  rw [show min ms.length (i + (t + 1) - s) - (i - s) = min ms.length (i + t - s) - (i - s) by omega]
theorem part_in {ms : List Int} {i s t n : Nat} (hn : ms.length = n) (h1 : s ≤ i + t) (h : i + t - s < n) (hi : i - s ≤ i + t - s) : part ms i s (t + 1) = part ms i s t ++ [ms[i + t - s]?.getD 0] := by
  unfold part
  have e1 : min ms.length (i + (t + 1) - s) - (i - s) = (i + t - s - (i - s)) + 1 := by omega
  have e2 : min ms.length (i + t - s) - (i - s) = i + t - s - (i - s) := by omega
  have e3 : i + t - s - (i - s) < (ms.drop (i - s)).length := by rw [List.length_drop]; omega
  rw [e1, e2, ← List.take_append_getElem e3, List.getElem_drop, List.getElem?_eq_getElem (by omega), Option.getD_some]
  congr 2
  congr 1
  omega
theorem part_full (ms : List Int) (i s : Nat) : part ms i s (2 * s + 1) = winL ms i s := by
  unfold part winL wT wF
  rw [show i + (2 * s + 1) - s = i + s + 1 by omega]
/-- the running median of the i-th point -/
def rmed (xs : List Pt) (s i : Nat) : Int := medP (srt (winL (mgP xs) i s))
end Go.Proofs.Ytidiiladlmaigaa
