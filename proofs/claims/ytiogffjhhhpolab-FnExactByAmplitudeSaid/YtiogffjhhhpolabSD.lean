/- The laws' marks on stars and on numbers. -/
import Derived.Test.YtiogffjhhhpolabS5
import Derived.Test.YtiogffjhhhpolabMT
import Derived.Maps.AppendAt
import Derived.RangeFuncBox
namespace Go.Proofs.Ytiogffjhhhpolab
open Go.ChangeShapes Go.WideShapes Go.ChangeAt Go.RowKit Go.Deep

theorem grown_set (w : World) (a : Addr) (v : Value) : w.grownBy (w.setCell a v) (some a.block) :=
  ⟨rfl, rfl, rfl, (KeepsWalks.setCell w a v).size, fun k _ hk => Below.heap_setCell _ _ _ k (fun e => hk (by rw [e]))⟩
theorem grown_but {w w' : World} (h : Below w.heap.size w w') (row : Option Nat) : w.grownBy w' row := ⟨h.os, h.tape, h.output, h.size, fun i hi _ => h.block i hi⟩
theorem grown_refl (w : World) (row : Option Nat) : w.grownBy w row := ⟨rfl, rfl, rfl, Nat.le_refl _, fun _ _ _ => rfl⟩
theorem grown_put {w w1 : World} {g : Nat} (h : w.grownBy w1 (some g)) (o : Nat) (v : Value) : w.grownBy (w1.setCell ⟨g, o, none⟩ v) (some g) := h.trans (grown_set w1 ⟨g, o, none⟩ v)
set_option maxHeartbeats 4000000 in
set_option maxRecDepth 100000 in
theorem markStarS_any (g n m c : Nat) (f : Nat → Value) (w : World) (hr : w.rowIs g 71 (n * 5) f) (hn : n ≤ 1048576) (h1 : 1 ≤ m) (hm : m ≤ 1000) :
    Calls Try.prog 42 #[.slice (some ⟨g, 0, none⟩) n c, .int .i64 m] w fun e w' => e = .returned (.int .i64 ((m + 5 * n : Nat) : Int)) ∧ w.grownBy w' (some g) := by
  have hl : (n : Int) ≤ 1048576 := by omega
  go_enter Try.func42, Try.ntmps42
  go_wp2
  go_loopw [1, 5] (fun a i wr => ∃ (k : Nat) (f' : Nat → Value), k ≤ n ∧ i = .int .i64 k ∧ a = .int .i64 ((m + 5 * k : Nat) : Int) ∧ wr.rowIs g 71 (n * 5) f' ∧ w.grownBy wr (some g)) (fun _ i _ => n - (intOf i).toNat)
  case atStart => exact ⟨0, f, Nat.zero_le _, rfl, rfl, hr, grown_refl _ _⟩
  case round =>
    obtain ⟨k, f', hk, rfl, rfl, hrk, hBr⟩ := hrel
    by_cases hlt : k < n
    · have hkk : (k : Int) < (n : Int) := by omega
      go_wp2_with fail
      refine (markText_any (m + 5 * k) wr (by omega) (by omega)).mono ?_
      rintro e w2 ⟨rfl, b2⟩
      have hr2 := row_below hrk b2
      have hB2 : w.grownBy w2 (some g) := hBr.trans (grown_but b2 _)
      have d0 := hr2.cell (show k * 5 < n * 5 by omega)
      have d1 := hr2.cell (show k * 5 + 1 < n * 5 by omega)
      have d2 := hr2.cell (show k * 5 + 2 < n * 5 by omega)
      have d3 := hr2.cell (show k * 5 + 3 < n * 5 by omega)
      have d4 := hr2.cell (show k * 5 + 4 < n * 5 by omega)
      have f0 := hr2.frozen (k * 5)
      have f1 := hr2.frozen (k * 5 + 1)
      have f2 := hr2.frozen (k * 5 + 2)
      have f3 := hr2.frozen (k * 5 + 3)
      have f4 := hr2.frozen (k * 5 + 4)
      generalize mkB (m + 5 * k) = T
      go_wp2
      go_roundw
      case rel => exact ⟨k + 1, _, by omega, by go_num, by go_num, ((((hr2.set _ _).set _ _).set _ _).set _ _).set _ _, grown_put (grown_put (grown_put (grown_put (grown_put hB2 _ _) _ _) _ _) _ _) _ _⟩
      case measure => simp [intOf]; omega
    · obtain rfl : k = n := by omega
      go_wp2
      go_ret
      exact ⟨rfl, hBr⟩
/-- the first k of n numbers of block g are marked from m on; all can be written -/
def MI (wr : World) (g n k m : Nat) : Prop := ∀ j, j < n → g < wr.heap.size ∧ (∃ v, wr.cell? ⟨g, j, none⟩ = some v ∧ (j < k → v = .int .i64 ((m + j : Nat) : Int))) ∧ wr.frozen? ⟨g, j, none⟩ = false
theorem MI.below {wr w' : World} {g n k m : Nat} (h : MI wr g n k m) (hb : Below wr.heap.size wr w') : MI w' g n k m := fun j hj => by
  obtain ⟨h1, ⟨v, h2, h3⟩, h4⟩ := h j hj
  exact ⟨Nat.lt_of_lt_of_le h1 hb.size, ⟨v, by rw [hb.cell (p := ⟨g, j, none⟩) h1]; exact h2, h3⟩, by rw [hb.frozen (p := ⟨g, j, none⟩) h1]; exact h4⟩
theorem MI.put {wr : World} {g n k m : Nat} (h : MI wr g n k m) (hk : k < n) : MI (wr.setCell ⟨g, k, none⟩ (.int .i64 ((m + k : Nat) : Int))) g n (k + 1) m := fun j hj => by
  obtain ⟨h1, ⟨v, h2, h3⟩, h4⟩ := h j hj
  refine ⟨by simpa using h1, ?_, by rw [World.frozen?_setCell]; exact h4⟩
  by_cases hjk : j = k
  · subst hjk
    exact ⟨_, scS h2, fun _ => rfl⟩
  · exact ⟨v, scO (fun e => hjk e.symm) h2, fun hj2 => h3 (by omega)⟩
set_option maxHeartbeats 1000000 in
theorem markInt64S_any (g n m c B : Nat) (w0 w : World) (hB : Below B w0 w) (hg : B ≤ g) (hM : MI w g n 0 m) (hn : n ≤ 1048576) (h1 : 1 ≤ m) (hm : m ≤ 1000) :
    Calls Try.prog 32 #[.slice (some ⟨g, 0, none⟩) n c, .int .i64 m] w fun e w' => e = .returned (.int .i64 ((m + n : Nat) : Int)) ∧ MI w' g n n m ∧ Below B w0 w' := by
  have hl : (n : Int) ≤ 1048576 := by omega
  go_enter Try.func32, Try.ntmps32
  go_wp2
  go_loopw [1, 5] (fun a i wr => ∃ k : Nat, k ≤ n ∧ i = .int .i64 k ∧ a = .int .i64 ((m + k : Nat) : Int) ∧ MI wr g n k m ∧ Below B w0 wr) (fun _ i _ => n - (intOf i).toNat)
  case atStart => exact ⟨0, Nat.zero_le _, rfl, rfl, hM, hB⟩
  case round =>
    obtain ⟨k, hk, rfl, rfl, hMk, hBr⟩ := hrel
    by_cases hlt : k < n
    · have hkk : (k : Int) < (n : Int) := by omega
      obtain ⟨hgl, ⟨v0, hc, -⟩, hf⟩ := hMk k hlt
      have hM3 := hMk.put hlt
      go_wp2
      go_roundw
      case rel => exact ⟨k + 1, by omega, by go_num, by go_num, hM3, hBr.setCell hg _⟩
      case measure => simp [intOf]; omega
    · obtain rfl : k = n := by omega
      go_wp2
      go_ret
      exact ⟨rfl, hMk, hBr⟩
set_option maxHeartbeats 1000000 in
theorem heldInt64S_any (g n m c : Nat) (w : World) (h : ∀ j, j < n → g < w.heap.size ∧ w.cell? ⟨g, j, none⟩ = some (.int .i64 ((m + j : Nat) : Int))) (hn : n ≤ 1048576) (h1 : 1 ≤ m) (hm : m ≤ 1000) :
    Calls Try.prog 33 #[.slice (some ⟨g, 0, none⟩) n c, .int .i64 m] w fun e w' => e = .returned (.int .i64 ((m + n : Nat) : Int)) ∧ Below w.heap.size w w' := by
  have hl : (n : Int) ≤ 1048576 := by omega
  go_enter Try.func33, Try.ntmps33
  go_wp2
  go_loopw [1, 5] (fun a i wr => ∃ k : Nat, k ≤ n ∧ i = .int .i64 k ∧ a = .int .i64 ((m + k : Nat) : Int) ∧ Below w.heap.size w wr) (fun _ i _ => n - (intOf i).toNat)
  case atStart => exact ⟨0, Nat.zero_le _, rfl, rfl, Below.refl _ _⟩
  case round =>
    obtain ⟨k, hk, rfl, rfl, hBr⟩ := hrel
    by_cases hlt : k < n
    · have hkk : (k : Int) < (n : Int) := by omega
      obtain ⟨hgl, hc⟩ := h k hlt
      have hcr : wr.cell? ⟨g, k, none⟩ = some (.int .i64 ((m + k : Nat) : Int)) := by rw [hBr.cell (p := ⟨g, k, none⟩) hgl]; exact hc
      go_wp2
      go_roundw
      case rel => exact ⟨k + 1, by omega, by go_num, by go_num, by (repeat (first | assumption | exact Below.refl _ _ | refine belowDN ?_ _ | refine Below.drew ?_ | refine Below.setCell ?_ (by first | omega | (simp <;> omega)) _ | refine Below.alloc ?_ (by first | omega | (simp <;> omega)) _ | refine belowCall ?_ (by assumption)))⟩
      case measure => simp [intOf]; omega
    · obtain rfl : k = n := by omega
      go_wp2
      go_ret
      exact ⟨rfl, hBr⟩
end Go.Proofs.Ytiogffjhhhpolab
