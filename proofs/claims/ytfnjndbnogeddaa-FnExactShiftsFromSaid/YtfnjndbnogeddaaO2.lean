/- ValidObservers: what a valid list is; the model's. -/
import Derived.Test.YtfnjndbnogeddaaO1
import Derived.Test.YtfnjndbnogeddaaQR
import Derived.Deep.RegionHeld3
import Derived.WalkLawsBesides
import Derived.Handy
namespace Go.Proofs.Ytfnjndbnogeddaa
open Go.ChangeShapes Go.WideShapes Go.ChangeAt Go.RowKit Go.Deep

def okAtO (xs : List Ob) (k : Nat) : Bool := obB (xs[k]?.getD ob0) && (decide (k = 0) || Op.bytesLess (xs[k - 1]?.getD ob0).1.toList (xs[k]?.getD ob0).1.toList)
def okO (xs : List Ob) : Bool := decide (xs.length ≤ 40) && (List.range xs.length).all (okAtO xs)
theorem okO_long {xs : List Ob} {n : Nat} (hn : xs.length = n) (h : ¬ n ≤ 40) : okO xs = false := by simp [okO, hn, h]
theorem okO_bad {xs : List Ob} {n k : Nat} (hn : xs.length = n) (hk : k < n) (h : okAtO xs k = false) : okO xs = false := by
  rw [okO, not_all_range (k := k) (by omega) h]; simp
theorem okO_yes {xs : List Ob} {n : Nat} (hn : xs.length = n) (h1 : n ≤ 40) (h : ∀ k, k < n → okAtO xs k = true) : okO xs = true := by
  rw [okO, all_range (fun k hk => h k (by omega))]; simp; omega
theorem okAtO_no {xs : List Ob} {k : Nat} {x : Ob} (hx : xs[k]?.getD ob0 = x) (h : obB x = false) : okAtO xs k = false := by simp [okAtO, hx, h]
theorem okAtO_zero {xs : List Ob} {k : Nat} {x : Ob} (hx : xs[k]?.getD ob0 = x) (h : obB x = true) (hk : k = 0) : okAtO xs k = true := by subst hk; simp [okAtO, hx, h]
theorem okAtO_succ {xs : List Ob} {k : Nat} {x y : Ob} {b : Bool} (hx : xs[k + 1]?.getD ob0 = x) (hy : xs[k]?.getD ob0 = y) (h : obB x = true) (hb : (!Op.bytesLess y.1.toList x.1.toList) = !b) : okAtO xs (k + 1) = b := by
  simp only [okAtO, hx, h, Nat.add_sub_cancel, hy]
  cases hh : Op.bytesLess y.1.toList x.1.toList <;> rw [hh] at hb <;> cases b <;> simp_all
theorem okO_next {xs : List Ob} {k : Nat} (h : ∀ j, j < k → okAtO xs j = true) (hk : okAtO xs k = true) : ∀ j, j < k + 1 → okAtO xs j = true := fun j hj => by
  by_cases e : j = k
  · subst e; exact hk
  · exact h j (by omega)
end Go.Proofs.Ytfnjndbnogeddaa
