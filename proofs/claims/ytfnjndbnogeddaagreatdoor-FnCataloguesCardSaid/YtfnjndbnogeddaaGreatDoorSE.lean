/- VisibleAt, the model's: the indices of the stars that a test chooses. -/
import Derived.Test.YtfnjndbnogeddaaGreatDoorS8
import Derived.Test.YtfnjndbnogeddaaGreatDoorB3
namespace Go.Proofs.YtfnjndbnogeddaaGreatDoor
open Go.ChangeShapes Go.WideShapes Go.ChangeAt Go.RowKit Go.Deep

/-- the indices below k whose stars p chooses -/
def selL (p : St → Bool) (xs : List St) (k : Nat) : List Int := ((List.range k).filter fun (j : Nat) => p (xs[j]?.getD st0)).map fun (j : Nat) => (j : Int)
theorem selL_zero (p : St → Bool) (xs : List St) : selL p xs 0 = [] := rfl
theorem selL_yes {p : St → Bool} {xs : List St} {k : Nat} {x : St} (hx : xs[k]?.getD st0 = x) (h : p x = true) : selL p xs (k + 1) = selL p xs k ++ [(k : Int)] := by
  simp [selL, List.range_succ, List.filter_append, hx, h]
theorem selL_no {p : St → Bool} {xs : List St} {k : Nat} {x : St} (hx : xs[k]?.getD st0 = x) (h : p x = false) : selL p xs (k + 1) = selL p xs k := by
  simp [selL, List.range_succ, List.filter_append, hx, h]
theorem selL_len (p : St → Bool) (xs : List St) (k : Nat) : (selL p xs k).length ≤ k := by
  simp only [selL, List.length_map]
  exact Nat.le_trans (List.length_filter_le _ _) (by simp)
def visP (m : Int) (x : St) : Bool := inB m x.2.2.2.1 x.2.2.2.2
/-- what a function that chooses stars hands back: a slice of the call's own, or nil and a code -/
def Chosen (B : Nat) (good : Bool) (code : Int) (zs : List Int) (w' : World) (e : Ending) : Prop :=
  (good = true ∧ ∃ g c, e = .returned (.tuple #[.slice (some ⟨g, 0, none⟩) zs.length c, .int .i64 0]) ∧ w'.ownsRow B 2 1 (.slice (some ⟨g, 0, none⟩) zs.length c) zs.length (zs.map (Value.int .i64))) ∨
  (good = false ∧ e = .returned (.tuple #[.slice none 0 0, .int .i64 code]))
def visCode (xs : List St) : Int := if okS xs then 2 else 1
end Go.Proofs.YtfnjndbnogeddaaGreatDoor
