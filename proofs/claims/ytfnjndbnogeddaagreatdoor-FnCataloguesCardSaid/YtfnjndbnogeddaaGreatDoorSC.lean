/- StarNamed, both sides. -/
import Derived.Test.YtfnjndbnogeddaaGreatDoorSB
namespace Go.Proofs.YtfnjndbnogeddaaGreatDoor
open Go.ChangeShapes Go.WideShapes Go.ChangeAt Go.RowKit Go.Deep Go.Maps Go.WideMaps

def snV (xs : List St) (nm : ByteArray) : Value := if okS xs then (if findS xs nm < xs.length then .tuple #[.int .i64 (findS xs nm : Nat), .int .i64 0] else .tuple #[.int .i64 0, .int .i64 3]) else .tuple #[.int .i64 0, .int .i64 1]
theorem snV_bad {xs : List St} {nm : ByteArray} (h : okS xs = false) : snV xs nm = .tuple #[.int .i64 0, .int .i64 1] := by simp [snV, h]
theorem snV_none {xs : List St} {nm : ByteArray} (h : okS xs = true) (hf : ¬ findS xs nm < xs.length) : snV xs nm = .tuple #[.int .i64 0, .int .i64 3] := by simp [snV, h]; omega
theorem snV_at {xs : List St} {nm : ByteArray} (h : okS xs = true) (hf : findS xs nm < xs.length) : snV xs nm = .tuple #[.int .i64 (findS xs nm : Nat), .int .i64 0] := by simp [snV, h, hf]
theorem snV_form (xs : List St) (nm : ByteArray) : ∃ m c, snV xs nm = .tuple #[.int .i64 m, .int .i64 c] := by
  unfold snV; split
  · split <;> exact ⟨_, _, rfl⟩
  · exact ⟨_, _, rfl⟩
end Go.Proofs.YtfnjndbnogeddaaGreatDoor
