/- IsName: the program's (by runes) and the model's (by bytes). -/
import Derived.Test.YtejkflacpbjkjaaDoorB1
import Derived.Laws.RangeString
import Derived.Laws.RangeAny
namespace Go.Proofs.YtejkflacpbjkjaaDoor
open Go.ChangeShapes Go.WideShapes Go.ChangeAt Go.RowKit

def smallB (c : Int) : Bool := inB c 97 122
def digitB (c : Int) : Bool := inB c 48 57
def restB (c : Int) : Bool := smallB c || digitB c || c == 45
/-- the k-th byte of a text as a number -/
def byt (s : ByteArray) (k : Nat) : Int := ((s.data.toList[k]?.getD 0).toNat : Int)
theorem byt_get (s : ByteArray) (k : Nat) (h : k < s.size) : ((s[k]'h).toNat : Int) = byt s k := by
  have h' : k < s.data.toList.length := by simpa using h
  rw [byt, List.getElem?_eq_getElem h']
  rfl
def nameB (s : ByteArray) : Bool := decide (1 ≤ s.size) && decide (s.size ≤ 12) && smallB (byt s 0) && (List.range s.size).all fun k => restB (byt s k)

theorem all_range {n : Nat} {p : Nat → Bool} (h : ∀ k, k < n → p k = true) : (List.range n).all p = true := by
  rw [List.all_eq_true]
  intro k hk
  exact h k (List.mem_range.1 hk)
theorem not_all_range {n k : Nat} {p : Nat → Bool} (hk : k < n) (h : p k = false) : (List.range n).all p = false := by
  rw [List.all_eq_false]
  exact ⟨k, List.mem_range.2 hk, by simp [h]⟩
theorem name_short {s : ByteArray} (h : ¬ 1 ≤ s.size) : nameB s = false := by simp [nameB]; omega
theorem name_long {s : ByteArray} (h : ¬ s.size ≤ 12) : nameB s = false := by simp [nameB]; omega
theorem name_first {s : ByteArray} (h : smallB (byt s 0) = false) : nameB s = false := by simp [nameB, h]
theorem name_rest {s : ByteArray} {k : Nat} (hk : k < s.size) (h : restB (byt s k) = false) : nameB s = false := by
  rw [nameB, not_all_range hk h]; simp
theorem name_yes {s : ByteArray} (h1 : 1 ≤ s.size) (h2 : s.size ≤ 12) (h3 : smallB (byt s 0) = true) (h4 : ∀ k, k < s.size → restB (byt s k) = true) : nameB s = true := by
  rw [nameB, all_range h4, h3]; simp; omega
theorem empty_facts {s : ByteArray} (h : 1 ≤ s.size) : s.toList.isEmpty = false ∧ ¬ s.toList = [] := by
  have e : s.toList = s.data.toList := ByteArray.toList_eq s
  have : s.data.toList.length = s.size := by simp
  rw [e]
  cases hd : s.data.toList with
  | nil => rw [hd] at this; simp at this; omega
  | cons a l => simp
end Go.Proofs.YtejkflacpbjkjaaDoor
