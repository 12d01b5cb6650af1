/- The laws' copying of a star and its size; what a valid star's numbers are bound by. -/
import Derived.Test.YtfnjndbnogeddaaGreatDoorS1
import Derived.Deep.RegionHeld3
namespace Go.Proofs.YtfnjndbnogeddaaGreatDoor
open Go.ChangeShapes Go.WideShapes Go.ChangeAt Go.RowKit

theorem StC.fresh (w : World) (T : TypeId) (nm : ByteArray) (a d u v : Int) : StC (w.alloc (.cells #[.string nm, .int .i64 a, .int .i64 d, .int .i64 u, .int .i64 v] T)) w.heap.size 0 (nm, a, d, u, v) :=
  ⟨by simp, fun f hf => by
    rw [Nat.zero_add, World.cell?_alloc_new]
    match f, hf with
    | 0, _ => rfl
    | 1, _ => rfl
    | 2, _ => rfl
    | 3, _ => rfl
    | 4, _ => rfl⟩
theorem StC.fresh2 (w : World) (T : TypeId) (o : Obj) (nm : ByteArray) (a d u v : Int) : StC ((w.alloc (.cells #[.string nm, .int .i64 a, .int .i64 d, .int .i64 u, .int .i64 v] T)).alloc o) w.heap.size 0 (nm, a, d, u, v) :=
  (StC.fresh w T nm a d u v).mono ((Below.refl _ _).alloc (Nat.le_refl _) _)
theorem star_bd {nm : ByteArray} {a d u v : Int} (h : starB (nm, a, d, u, v) = true) : nameB nm = true ∧ 0 ≤ a ∧ a ≤ 86399 ∧ -324000 ≤ d ∧ d ≤ 324000 ∧ -2000 ≤ u ∧ u ≤ v ∧ v ≤ 20000 := by
  simp only [starB, Bool.and_eq_true, decide_eq_true_eq] at h
  obtain ⟨⟨⟨⟨⟨h1, h2⟩, h3⟩, h4⟩, h5⟩, h6⟩ := h
  obtain ⟨a1, a2⟩ := inB_iff.1 h2
  obtain ⟨d1, d2⟩ := inB_iff.1 h3
  obtain ⟨u1, u2⟩ := magB_iff.1 h4
  obtain ⟨v1, v2⟩ := magB_iff.1 h5
  exact ⟨h1, a1, a2, d1, d2, u1, h6, v2⟩
end Go.Proofs.YtfnjndbnogeddaaGreatDoor
