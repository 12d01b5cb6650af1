/- The laws' marks: markText. -/
import Derived.Test.YtbjflgohahmjgaaDoorB1
import Derived.Laws.BytesString
import Derived.Laws.IdiomStrings
namespace Go.Proofs.YtbjflgohahmjgaaDoor
open Go.ChangeShapes Go.WideShapes Go.ChangeAt Go.RowKit

theorem digV (j : Nat) : ((UInt8.ofNat (48 + j % 10)).toNat : Int) = 48 + (j : Int) % 10 := by
  have h : (UInt8.ofNat (48 + j % 10)).toNat = 48 + j % 10 := by
    rw [UInt8.toNat_ofNat']; omega
  rw [h]; omega
theorem scS {w : World} {a : Addr} {v u : Value} (h : w.cell? a = some u) : (w.setCell a v).cell? a = some v := World.cell?_setCell_same _ _ _ h
theorem scO {w : World} {b o o' : Nat} {v u : Value} (hne : o ≠ o') (h : w.cell? ⟨b, o', none⟩ = some u) : (w.setCell ⟨b, o, none⟩ v).cell? ⟨b, o', none⟩ = some u := by
  rw [World.cell?_setCell_other _ _ _ _ (fun e => hne (congrArg Addr.off e))]; exact h
def chB (k : Nat) : ByteArray := ⟨#[UInt8.ofNat (48 + k % 10)]⟩
/-- what markText spells, a digit a step -/
def mkR : Nat → Nat → ByteArray → ByteArray
  | 0, _, o => o
  | f + 1, k, o => if k = 0 then o else mkR f (k / 10) (chB k ++ o)
def mkB (k : Nat) : ByteArray := ⟨#[109]⟩ ++ mkR k k ⟨#[]⟩
theorem mkR_zero (f : Nat) (o : ByteArray) : mkR f 0 o = o := by cases f <;> rfl
theorem mkR_step {f k : Nat} (o : ByteArray) (h : k ≠ 0) : mkR (f + 1) k o = mkR f (k / 10) (chB k ++ o) := by rw [mkR, if_neg h]
end Go.Proofs.YtbjflgohahmjgaaDoor
