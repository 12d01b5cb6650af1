/- Slices of stars: the laws' copying, the comparing of equal ones. -/
import Derived.Test.YtfnjndbnogeddaaGreatDoorS4
import Derived.Deep.RegionHeld3
namespace Go.Proofs.YtfnjndbnogeddaaGreatDoor
open Go.ChangeShapes Go.WideShapes Go.ChangeAt Go.RowKit Go.Deep

theorem Star_info : (Tryz.prog.info? 27).map (fun i => (i.zero, i.size, i.bytes)) = some (some (.agg #[.string ByteArray.empty, .int .i64 0, .int .i64 0, .int .i64 0, .int .i64 0]), 5, 48) := by kernel_rfl
/-- the first k stars of xs, then zero values, cell by cell -/
def colS (xs : List St) (k j : Nat) : Value := if j < k * 5 then fld (xs[j / 5]?.getD st0) (j % 5) else fld st0 (j % 5)
theorem colS_at {xs : List St} {k i f : Nat} (hi : i < k) (hf : f < 5) : colS xs k (i * 5 + f) = fld (xs[i]?.getD st0) f := by
  unfold colS
  rw [if_pos (by omega), show (i * 5 + f) / 5 = i from by omega, show (i * 5 + f) % 5 = f from by omega]
theorem colS_put {w : World} {g n k : Nat} {T : TypeId} {xs : List St} {nm : ByteArray} {a d u v : Int} (h : w.rowIs g T n (colS xs k)) (hx : xs[k]?.getD st0 = (nm, a, d, u, v)) :
    (((((w.setCell ⟨g, k * 5, none⟩ (.string nm)).setCell ⟨g, k * 5 + 1, none⟩ (.int .i64 a)).setCell ⟨g, k * 5 + 2, none⟩ (.int .i64 d)).setCell ⟨g, k * 5 + 3, none⟩ (.int .i64 u)).setCell ⟨g, k * 5 + 4, none⟩ (.int .i64 v)).rowIs g T n (colS xs (k + 1)) := by
  refine (((((h.set (k * 5) (.string nm)).set (k * 5 + 1) (.int .i64 a)).set (k * 5 + 2) (.int .i64 d)).set (k * 5 + 3) (.int .i64 u)).set (k * 5 + 4) (.int .i64 v)).congr fun i _ => ?_
  by_cases h1 : i < k * 5
  · rw [if_neg (by omega), if_neg (by omega), if_neg (by omega), if_neg (by omega), if_neg (by omega)]
    unfold colS
    rw [if_pos h1, if_pos (by omega)]
  by_cases h2 : i < (k + 1) * 5
  · obtain ⟨f, hf, rfl⟩ : ∃ f, f < 5 ∧ i = k * 5 + f := ⟨i - k * 5, by omega, by omega⟩
    rw [show colS xs (k + 1) (k * 5 + f) = fld (nm, a, d, u, v) f from by rw [colS_at (by omega) hf, hx]]
    match f, hf with
    | 0, _ => simp [fld]
    | 1, _ => simp [fld]
    | 2, _ => simp [fld]
    | 3, _ => simp [fld]
    | 4, _ => simp [fld]
  · rw [if_neg (by omega), if_neg (by omega), if_neg (by omega), if_neg (by omega), if_neg (by omega)]
    unfold colS
    rw [if_neg h1, if_neg h2]
theorem StL.of_row {w : World} {g : Nat} {T : TypeId} {xs : List St} {n : Nat} (hn : xs.length = n) (h : w.rowIs g T (n * 5) (colS xs n)) : StL w (some ⟨g, 0, none⟩) n xs :=
  ⟨hn, fun i hi => ⟨g, 0, rfl, h.lt, fun f hf => by
    rw [show 0 + i * 5 + f = i * 5 + f from by omega, h.cell (by omega), colS_at hi hf]⟩⟩
theorem row_below {w w' : World} {g n : Nat} {T : TypeId} {f : Nat → Value} (h : w.rowIs g T n f) (hb : Below w.heap.size w w') : w'.rowIs g T n f := h.of_block (hb.block g h.lt)
theorem row_made {w : World} {base g n : Nat} {T : TypeId} {vs : List Value} (h : w.ownsRow base T 5 (.slice (some ⟨g, 0, none⟩) n n) n vs) : w.rowIs g T (n * 5) (fun j => vs[j]?.getD (.bool false)) := by
  rcases h.2 with ⟨h0, _⟩ | ⟨g', cap, cur, hv, _, hb, _, _, hs, ht⟩
  · cases h0
  · cases hv
    refine ⟨cur, hb, hs, fun i hi => ?_⟩
    rw [← ht, List.take_of_length_le (by simp [hs])]
    simp [hs, hi]
theorem made_col (n : Nat) (j : Nat) (hj : j < n * 5) (xs : List St) : ((madeCells (Value.agg #[.string ByteArray.empty, .int .i64 0, .int .i64 0, .int .i64 0, .int .i64 0]).cells (n * 5)).toList[j]?).getD (.bool false) = colS xs 0 j := by
  have hj5 : j % 5 < 5 := by omega
  simp [madeCells, hj, Value.cells, colS]
  match h : j % 5, hj5 with
  | 0, _ => rfl
  | 1, _ => rfl
  | 2, _ => rfl
  | 3, _ => rfl
  | 4, _ => rfl
end Go.Proofs.YtfnjndbnogeddaaGreatDoor
