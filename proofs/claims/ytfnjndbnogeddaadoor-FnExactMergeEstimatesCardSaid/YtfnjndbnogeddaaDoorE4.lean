/- OfObserver, OfStar: the estimates that are wanted, the model's. -/
import Derived.Test.YtfnjndbnogeddaaDoorE2
import Derived.Lib.SliceRun
import Derived.Deep.AppendLies
import Derived.StillTailTactics
namespace Go.Proofs.YtfnjndbnogeddaaDoor
open Go.ChangeShapes Go.WideShapes Go.ChangeAt Go.RowKit Go.Deep

def selE (p : Es → Bool) (xs : List Es) (k : Nat) : List Es := (xs.take k).filter p
theorem selE_len (p : Es → Bool) (xs : List Es) (k : Nat) : (selE p xs k).length ≤ k := by
  unfold selE
  have h1 := List.length_filter_le p (xs.take k)
  have h2 : (xs.take k).length ≤ k := by simp; omega
  omega
theorem selE_step {p : Es → Bool} {xs : List Es} {n k : Nat} {x : Es} (hn : xs.length = n) (hk : k < n) (hx : xs[k]?.getD es0 = x) : selE p xs (k + 1) = selE p xs k ++ if p x then [x] else [] := by
  have hk' : k < xs.length := by omega
  unfold selE
  rw [List.take_succ_eq_append_getElem hk', List.filter_append]
  simp only [List.getElem?_eq_getElem hk', Option.getD_some] at hx
  rw [hx]
  by_cases h : p x = true <;> simp [h]
theorem selE_yes {p : Es → Bool} {xs : List Es} {n k : Nat} {x : Es} (hn : xs.length = n) (hk : k < n) (hx : xs[k]?.getD es0 = x) (h : p x = true) : selE p xs (k + 1) = selE p xs k ++ [x] := by rw [selE_step hn hk hx, if_pos h]
theorem selE_no {p : Es → Bool} {xs : List Es} {n k : Nat} {x : Es} (hn : xs.length = n) (hk : k < n) (hx : xs[k]?.getD es0 = x) (h : p x = false) : selE p xs (k + 1) = selE p xs k := by rw [selE_step hn hk hx, if_neg (by rw [h]; simp), List.append_nil]
theorem selE_full {p : Es → Bool} {xs : List Es} {n : Nat} (hn : xs.length = n) : selE p xs n = xs.filter p := by rw [selE, List.take_of_length_le (by omega)]
def pObs (o : ByteArray) (x : Es) : Bool := x.2.2.1.toList == o.toList
def pStar (s : ByteArray) (f t : Int) (x : Es) : Bool := x.2.1.toList == s.toList && inB x.1 f t
def ooC (xs : List Es) (o : ByteArray) : Int := if okE xs then (if nameB o then 0 else 2) else 1
def ooL (xs : List Es) (o : ByteArray) : List Es := if ooC xs o = 0 then xs.filter (pObs o) else []
def osC (xs : List Es) (s : ByteArray) (f t : Int) : Int := if okE xs then (if nameB s && (tmB f && tmB t) then 0 else 2) else 1
def osL (xs : List Es) (s : ByteArray) (f t : Int) : List Es := if osC xs s f t = 0 then xs.filter (pStar s f t) else []
theorem fl_len {xs : List Es} {p : Es → Bool} {n : Nat} (h : xs.length ≤ n) : (xs.filter p).length ≤ n := by have := List.length_filter_le p xs; omega
theorem ooL_len {xs : List Es} {o : ByteArray} {n : Nat} (h : xs.length ≤ n) : (ooL xs o).length ≤ n := by unfold ooL; split; exact fl_len h; simp
theorem osL_len {xs : List Es} {s : ByteArray} {f t : Int} {n : Nat} (h : xs.length ≤ n) : (osL xs s f t).length ≤ n := by unfold osL; split; exact fl_len h; simp
theorem oo_1 {xs : List Es} {o : ByteArray} (h : okE xs = false) : ooC xs o = 1 ∧ ooL xs o = [] := by simp [ooL, ooC, h]
theorem oo_2 {xs : List Es} {o : ByteArray} (h : okE xs = true) (h2 : nameB o = false) : ooC xs o = 2 ∧ ooL xs o = [] := by simp [ooL, ooC, h, h2]
theorem oo_0 {xs : List Es} {o : ByteArray} (h : okE xs = true) (h2 : nameB o = true) : ooC xs o = 0 ∧ ooL xs o = xs.filter (pObs o) := by simp [ooL, ooC, h, h2]
theorem os_1 {xs : List Es} {s : ByteArray} {f t : Int} (h : okE xs = false) : osC xs s f t = 1 ∧ osL xs s f t = [] := by simp [osL, osC, h]
theorem os_2 {xs : List Es} {s : ByteArray} {f t : Int} (h : okE xs = true) (h2 : (nameB s && (tmB f && tmB t)) = false) : osC xs s f t = 2 ∧ osL xs s f t = [] := by simp [osL, osC, h, h2]
theorem os_0 {xs : List Es} {s : ByteArray} {f t : Int} (h : okE xs = true) (h2 : (nameB s && (tmB f && tmB t)) = true) : osC xs s f t = 0 ∧ osL xs s f t = xs.filter (pStar s f t) := by simp [osL, osC, h, h2]
end Go.Proofs.YtfnjndbnogeddaaDoor
