/- What strings.Compare hands back, in plain terms. -/
import Derived.Test.YtfnjndbnogeddaaB7
import Derived.Deep.RegionHeld3
import Derived.WalkLawsBesides
import Derived.Lib.SmallJoins
import Derived.Sort.Walk0
import Derived.Shelf.Small.Strs
import Derived.Shelf.Lay
import Derived.Ground.NamesProg
namespace Go.Proofs.Ytfnjndbnogeddaa
open Go.ChangeShapes Go.WideShapes Go.ChangeAt Go.RowKit Go.Deep Go.Shelf

def sgN (x y : ByteArray) : Int := Lib.compareBytes x.data.toList y.data.toList
theorem cmpN_neg : ∀ x y : List UInt8, Lib.compareBytes x y < 0 ↔ x < y
  | [], [] => by simp [Lib.compareBytes]
  | [], _ :: _ => by simp [Lib.compareBytes]
  | _ :: _, [] => by simp [Lib.compareBytes]
  | a :: xs, b :: bs => by
    have ih := cmpN_neg xs bs
    simp only [Lib.compareBytes]
    by_cases h1 : a < b
    · simp [h1, List.cons_lt_cons_iff]
    · by_cases h2 : b < a
      · have h3 : a ≠ b := fun e => by subst e; exact h1 h2
        simp [h1, h2, h3, List.cons_lt_cons_iff]
      · have h3 : a = b := UInt8.le_antisymm (UInt8.not_lt.1 h2) (UInt8.not_lt.1 h1)
        subst h3
        simp only [if_neg h1]
        rw [ih]
        simp
theorem sgN_neg {x y : ByteArray} : sgN x y < 0 ↔ Op.bytesLess x.toList y.toList = true := by
  unfold sgN
  rw [cmpN_neg, ← ByteArray.toList_eq, ← ByteArray.toList_eq]
  simp [Go.Proofs.bytesLess_eq]
shelf_lay Lays.n106 Nm 106 at Try as Try.strCmpN
theorem cmpN_any (x y : ByteArray) (w : World) :
    Calls Try.prog 56 #[.string x, .string y] w fun e w' => e = .returned (.int .i64 (sgN x y)) ∧ w' = w :=
  Any.strings_Compare Try.strCmpN x y w
end Go.Proofs.Ytfnjndbnogeddaa
