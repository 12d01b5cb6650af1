/- MagText and TimeText: the program's and the model's. -/
import Derived.Test.YtejkflacpbjkjaaDoorD4
namespace Go.Proofs.YtejkflacpbjkjaaDoor
open Go.ChangeShapes Go.WideShapes Go.ChangeAt Go.RowKit

theorem bld_new (w : World) : Bld w.heap.size w.heap.size [] (w.alloc (.cells #[.pointer none, .slice none 0 0] 45)) := Lib.fresh_isBuilder _ _ w
theorem itoa_small {n : Nat} (h : n < 100000) : (Lib.itoa (n : Int)).length ≤ 20 := itoa_len _ (by omega) (by omega)
def strV (l : List UInt8) : Value := .string ⟨l.toArray⟩
/-- the text of a magnitude, padded: as the program writes it -/
def magP (m : Int) : List UInt8 := if m < 0 then [45] ++ Lib.itoa (m.natAbs / 1000 : Nat) ++ [46] ++ padL (m.natAbs % 1000 : Nat) 3 else Lib.itoa (m.natAbs / 1000 : Nat) ++ [46] ++ padL (m.natAbs % 1000 : Nat) 3
theorem magP_is (m : Int) : magP m = magL m := by
  unfold magP magL
  rw [three_pad (Nat.mod_lt _ (by omega))]
  split <;> simp
def magV (m : Int) : Value := if magB m then strV (magP m) else strV []
/-- the text of a time -/
def timP (t : Int) : List UInt8 := Lib.itoa (t / 10000) ++ 46 :: padL (t % 10000) 4
def timV (t : Int) : Value := if timB t then strV (timP t) else strV []
end Go.Proofs.YtejkflacpbjkjaaDoor
