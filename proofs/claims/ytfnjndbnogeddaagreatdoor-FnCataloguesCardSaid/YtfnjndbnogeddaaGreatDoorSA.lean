/- StarNamed: the model's search, the program's map by names. -/
import Derived.Test.YtfnjndbnogeddaaGreatDoorS8
import Derived.Maps.OwnSet
import Derived.Maps.Views
namespace Go.Proofs.YtfnjndbnogeddaaGreatDoor
open Go.ChangeShapes Go.WideShapes Go.ChangeAt Go.RowKit Go.Deep Go.Maps

/-- the first index with a name; the length if there is none -/
def findS : List St → ByteArray → Nat
  | [], _ => 0
  | x :: xs, nm => if x.1.toList == nm.toList then 0 else findS xs nm + 1
theorem findS_le (xs : List St) (nm : ByteArray) : findS xs nm ≤ xs.length := by
  induction xs with
  | nil => exact Nat.le_refl _
  | cons x xs ih => simp only [findS, List.length_cons]; split <;> omega
theorem findS_at {xs : List St} {nm : ByteArray} {k : Nat} (hk : k < xs.length) (hall : ∀ j, j < k → ((xs[j]?.getD st0).1.toList == nm.toList) = false) (hx : ((xs[k]?.getD st0).1.toList == nm.toList) = true) : findS xs nm = k := by
  induction xs generalizing k with
  | nil => simp at hk
  | cons x xs ih =>
    cases k with
    | zero => simp at hx; simp [findS, hx]
    | succ k =>
      have h0 := hall 0 (by omega)
      simp at h0
      have := ih (k := k) (by simpa using hk) (fun j hj => by have := hall (j + 1) (by omega); simpa using this) (by simpa using hx)
      simp [findS, h0, this]
theorem findS_none {xs : List St} {nm : ByteArray} (hall : ∀ j, j < xs.length → ((xs[j]?.getD st0).1.toList == nm.toList) = false) : findS xs nm = xs.length := by
  induction xs with
  | nil => rfl
  | cons x xs ih =>
    have h0 := hall 0 (by simp)
    simp at h0
    have := ih (fun j hj => by have := hall (j + 1) (by simpa using hj); simpa using this)
    simp [findS, h0, this]
def findV (xs : List St) (nm : ByteArray) : Int := if findS xs nm < xs.length then findS xs nm else -1
theorem findV_at {xs : List St} {nm : ByteArray} {k : Nat} (h : findS xs nm = k) (hk : k < xs.length) : findV xs nm = k := by rw [findV, h, if_pos hk]
theorem findV_none {xs : List St} {nm : ByteArray} (h : findS xs nm = xs.length) : findV xs nm = -1 := by rw [findV, h, if_neg (by omega)]
end Go.Proofs.YtfnjndbnogeddaaGreatDoor
