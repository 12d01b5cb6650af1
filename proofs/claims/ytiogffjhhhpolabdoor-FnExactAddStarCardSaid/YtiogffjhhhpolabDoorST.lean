/- The laws' copying of a star and its size; what a valid star's numbers are bound by. -/
import Derived.Test.YtiogffjhhhpolabDoorS1
import Derived.Deep.RegionHeld3
namespace Go.Proofs.YtiogffjhhhpolabDoor
open Go.ChangeShapes Go.WideShapes Go.ChangeAt Go.RowKit

theorem StC.fresh (w : World) (T : TypeId) (nm : ByteArray) (a d u v : Int) : StC (w.alloc (.cells #[.string nm, .int .i64 a, .int .i64 d, .int .i64 u, .int .i64 v] T)) w.heap.size 0 (nm, a, d, u, v) :=
  ⟨by simp, fun f hf => by
    rw [Nat.zero_add, World.cell?_alloc_new]
    match f, hf with
    | 0, _ => rfl
    | 1, _ => rfl
    | 2, _ => rfl
    | 3, _ => rfl
    | 4, _ => rfl⟩
theorem StC.fresh2 (w : World) (T : TypeId) (o : Obj) (nm : ByteArray) (a d u v : Int) : StC ((w.alloc (.cells #[.string nm, .int .i64 a, .int .i64 d, .int .i64 u, .int .i64 v] T)).alloc o) w.heap.size 0 (nm, a, d, u, v) :=
  (StC.fresh w T nm a d u v).mono ((Below.refl _ _).alloc (Nat.le_refl _) _)
theorem star_bd {nm : ByteArray} {a d u v : Int} (h : starB (nm, a, d, u, v) = true) : nameB nm = true ∧ 0 ≤ a ∧ a ≤ 86399 ∧ -324000 ≤ d ∧ d ≤ 324000 ∧ -2000 ≤ u ∧ u ≤ v ∧ v ≤ 20000 := by
  simp only [starB, Bool.and_eq_true, decide_eq_true_eq] at h
  obtain ⟨⟨⟨⟨⟨h1, h2⟩, h3⟩, h4⟩, h5⟩, h6⟩ := h
  obtain ⟨a1, a2⟩ := inB_iff.1 h2
  obtain ⟨d1, d2⟩ := inB_iff.1 h3
  obtain ⟨u1, u2⟩ := magB_iff.1 h4
  obtain ⟨v1, v2⟩ := magB_iff.1 h5
  exact ⟨h1, a1, a2, d1, d2, u1, h6, v2⟩
theorem toStar_any (nm : ByteArray) (a d u v : Int) (w : World) :
    Calls Tryd.prog 9 #[.agg #[.string nm, .int .i64 a, .int .i64 d, .int .i64 u, .int .i64 v]] w fun e w' => e = .returned (.agg #[.string nm, .int .i64 a, .int .i64 d, .int .i64 u, .int .i64 v]) ∧ Below w.heap.size w w' := by
  go_enter Tryd.func9, Tryd.ntmps9
  go_wp2
  exact bodyPost_ret (v := .agg #[.string nm, .int .i64 a, .int .i64 d, .int .i64 u, .int .i64 v]) (by simp [results, Tryd.results9, go_sem]) rfl ⟨rfl, by (repeat (first | assumption | exact Below.refl _ _ | refine belowDN ?_ _ | refine Below.drew ?_ | refine Below.setCell ?_ (by first | omega | (simp <;> omega)) _ | refine Below.alloc ?_ (by first | omega | (simp <;> omega)) _ | refine belowCall ?_ (by assumption)))⟩
def szR (n left : Int) : Int := if left < n then -1 else left - n
theorem szR_no {n left : Int} (h : left < n) : szR n left = -1 := by unfold szR; rw [if_pos h]
theorem szR_yes {n left : Int} (h : ¬ left < n) : szR n left = left - n := by unfold szR; rw [if_neg h]
theorem szStar_any (nm : ByteArray) (a d u v left : Int) (w : World) (hn : nm.size ≤ maxLen) (h1 : 0 ≤ left) (h2 : left ≤ 1048576) :
    Calls Tryd.prog 6 #[.agg #[.string nm, .int .i64 a, .int .i64 d, .int .i64 u, .int .i64 v], .int .i64 left] w fun e w' => e = .returned (.int .i64 (szR nm.size left)) ∧ Below w.heap.size w w' := by
  have hm : (nm.size : Int) ≤ 9223372036854775807 := by unfold maxLen at hn; omega
  by_cases hlt : left < (nm.size : Int)
  · have hneg : left - (nm.size : Int) < 0 := by omega
    have HS := Lib.hid (szR_no hlt)
    go_enter Tryd.func6, Tryd.ntmps6
    go_wp2
    go_ret
    exact ⟨by rw [HS.out]; rfl, by (repeat (first | assumption | exact Below.refl _ _ | refine belowDN ?_ _ | refine Below.drew ?_ | refine Below.setCell ?_ (by first | omega | (simp <;> omega)) _ | refine Below.alloc ?_ (by first | omega | (simp <;> omega)) _ | refine belowCall ?_ (by assumption)))⟩
  · have hneg : ¬ left - (nm.size : Int) < 0 := by omega
    have HS := Lib.hid (szR_yes hlt)
    go_enter Tryd.func6, Tryd.ntmps6
    go_wp2
    go_ret
    exact ⟨by rw [HS.out]; rfl, by (repeat (first | assumption | exact Below.refl _ _ | refine belowDN ?_ _ | refine Below.drew ?_ | refine Below.setCell ?_ (by first | omega | (simp <;> omega)) _ | refine Below.alloc ?_ (by first | omega | (simp <;> omega)) _ | refine belowCall ?_ (by assumption)))⟩
end Go.Proofs.YtiogffjhhhpolabDoor
