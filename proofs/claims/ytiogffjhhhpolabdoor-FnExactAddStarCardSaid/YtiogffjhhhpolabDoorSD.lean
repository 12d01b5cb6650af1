/- The laws' marks on stars and on numbers. -/
import Derived.Test.YtiogffjhhhpolabDoorS5
import Derived.Test.YtiogffjhhhpolabDoorMT
import Derived.Maps.AppendAt
import Derived.RangeFuncBox
namespace Go.Proofs.YtiogffjhhhpolabDoor
open Go.ChangeShapes Go.WideShapes Go.ChangeAt Go.RowKit Go.Deep

theorem grown_set (w : World) (a : Addr) (v : Value) : w.grownBy (w.setCell a v) (some a.block) :=
  ⟨rfl, rfl, rfl, (KeepsWalks.setCell w a v).size, fun k _ hk => Below.heap_setCell _ _ _ k (fun e => hk (by rw [e]))⟩
theorem grown_but {w w' : World} (h : Below w.heap.size w w') (row : Option Nat) : w.grownBy w' row := ⟨h.os, h.tape, h.output, h.size, fun i hi _ => h.block i hi⟩
theorem grown_refl (w : World) (row : Option Nat) : w.grownBy w row := ⟨rfl, rfl, rfl, Nat.le_refl _, fun _ _ _ => rfl⟩
theorem grown_put {w w1 : World} {g : Nat} (h : w.grownBy w1 (some g)) (o : Nat) (v : Value) : w.grownBy (w1.setCell ⟨g, o, none⟩ v) (some g) := h.trans (grown_set w1 ⟨g, o, none⟩ v)
set_option maxHeartbeats 4000000 in
set_option maxRecDepth 100000 in
theorem markStarS_any (g n m c : Nat) (f : Nat → Value) (w : World) (hr : w.rowIs g 31 (n * 5) f) (hn : n ≤ 1048576) (h1 : 1 ≤ m) (hm : m ≤ 1000) :
    Calls Tryd.prog 12 #[.slice (some ⟨g, 0, none⟩) n c, .int .i64 m] w fun e w' => e = .returned (.int .i64 ((m + 5 * n : Nat) : Int)) ∧ w.grownBy w' (some g) := by
  have hl : (n : Int) ≤ 1048576 := by omega
  go_enter Tryd.func12, Tryd.ntmps12
  go_wp2
  go_loopw [1, 5] (fun a i wr => ∃ (k : Nat) (f' : Nat → Value), k ≤ n ∧ i = .int .i64 k ∧ a = .int .i64 ((m + 5 * k : Nat) : Int) ∧ wr.rowIs g 31 (n * 5) f' ∧ w.grownBy wr (some g)) (fun _ i _ => n - (intOf i).toNat)
  case atStart => exact ⟨0, f, Nat.zero_le _, rfl, rfl, hr, grown_refl _ _⟩
  case round =>
    obtain ⟨k, f', hk, rfl, rfl, hrk, hBr⟩ := hrel
    by_cases hlt : k < n
    · have hkk : (k : Int) < (n : Int) := by omega
      go_wp2_with fail
      refine (markText_any (m + 5 * k) wr (by omega) (by omega)).mono ?_
      rintro e w2 ⟨rfl, b2⟩
      have hr2 := row_below hrk b2
      have hB2 : w.grownBy w2 (some g) := hBr.trans (grown_but b2 _)
      have d0 := hr2.cell (show k * 5 < n * 5 by omega)
      have d1 := hr2.cell (show k * 5 + 1 < n * 5 by omega)
      have d2 := hr2.cell (show k * 5 + 2 < n * 5 by omega)
      have d3 := hr2.cell (show k * 5 + 3 < n * 5 by omega)
      have d4 := hr2.cell (show k * 5 + 4 < n * 5 by omega)
      have f0 := hr2.frozen (k * 5)
      have f1 := hr2.frozen (k * 5 + 1)
      have f2 := hr2.frozen (k * 5 + 2)
      have f3 := hr2.frozen (k * 5 + 3)
      have f4 := hr2.frozen (k * 5 + 4)
      generalize mkB (m + 5 * k) = T
      go_wp2
      go_roundw
      case rel => exact ⟨k + 1, _, by omega, by go_num, by go_num, ((((hr2.set _ _).set _ _).set _ _).set _ _).set _ _, grown_put (grown_put (grown_put (grown_put (grown_put hB2 _ _) _ _) _ _) _ _) _ _⟩
      case measure => simp [intOf]; omega
    · obtain rfl : k = n := by omega
      go_wp2
      go_ret
      exact ⟨rfl, hBr⟩
/-- the first k of n numbers of block g are marked from m on; all can be written -/
def MI (wr : World) (g n k m : Nat) : Prop := ∀ j, j < n → g < wr.heap.size ∧ (∃ v, wr.cell? ⟨g, j, none⟩ = some v ∧ (j < k → v = .int .i64 ((m + j : Nat) : Int))) ∧ wr.frozen? ⟨g, j, none⟩ = false
theorem MI.below {wr w' : World} {g n k m : Nat} (h : MI wr g n k m) (hb : Below wr.heap.size wr w') : MI w' g n k m := fun j hj => by
  obtain ⟨h1, ⟨v, h2, h3⟩, h4⟩ := h j hj
  exact ⟨Nat.lt_of_lt_of_le h1 hb.size, ⟨v, by rw [hb.cell (p := ⟨g, j, none⟩) h1]; exact h2, h3⟩, by rw [hb.frozen (p := ⟨g, j, none⟩) h1]; exact h4⟩
theorem MI.put {wr : World} {g n k m : Nat} (h : MI wr g n k m) (hk : k < n) : MI (wr.setCell ⟨g, k, none⟩ (.int .i64 ((m + k : Nat) : Int))) g n (k + 1) m := fun j hj => by
  obtain ⟨h1, ⟨v, h2, h3⟩, h4⟩ := h j hj
  refine ⟨by simpa using h1, ?_, by rw [World.frozen?_setCell]; exact h4⟩
  by_cases hjk : j = k
  · subst hjk
    exact ⟨_, scS h2, fun _ => rfl⟩
  · exact ⟨v, scO (fun e => hjk e.symm) h2, fun hj2 => h3 (by omega)⟩
end Go.Proofs.YtiogffjhhhpolabDoor
