/- Slices of int64: what a contract is told of one that is read, the laws' copying and comparing. -/
import Derived.Test.YtidiiladlmaigaaB1
import Derived.OwnWalk
namespace Go.Proofs.Ytidiiladlmaigaa
open Go.ChangeShapes Go.WideShapes Go.ChangeAt Go.RowKit

/-- the slice 'a, len' reads as the numbers xs -/
def Lst (w : World) (a : Option Addr) (len : Nat) (xs : List Int) : Prop :=
  xs.length = len ∧ ∀ i, i < len → ∃ b off, a = some ⟨b, off, none⟩ ∧ b < w.heap.size ∧ w.cell? ⟨b, off + i, none⟩ = some (.int .i64 (xs[i]?.getD 0))
theorem Lst.mono {w w' : World} {a len xs} (h : Lst w a len xs) (hb : Below w.heap.size w w') : Lst w' a len xs :=
  ⟨h.1, fun i hi => by
    obtain ⟨b, off, e, hlt, hc⟩ := h.2 i hi
    exact ⟨b, off, e, Nat.lt_of_lt_of_le hlt hb.size, by rw [hb.cell (p := ⟨b, off + i, none⟩) hlt]; exact hc⟩⟩
theorem cell_lt {w : World} {a : Addr} {v : Value} (h : w.cell? a = some v) : a.block < w.heap.size := by
  unfold World.cell? at h
  by_cases hb : a.block < w.heap.size
  · exact hb
  · rw [Array.getElem?_eq_none (by omega)] at h
    simp at h
theorem Lst.of_row {w : World} {a : Option Addr} {len cap : Nat} {zs : List Int} (h : IsRow .i64 w a len cap zs) : Lst w a len (zs.take len) := by
  rcases h with ⟨rfl, rfl, rfl, rfl⟩ | ⟨x, rfl, h1, h2, h3, h4, h5⟩
  · exact ⟨rfl, fun i hi => by omega⟩
  · refine ⟨by simp; omega, fun i hi => ?_⟩
    obtain ⟨b, off, rfl, hc⟩ := ints_at h4 (by omega)
    refine ⟨b, off, rfl, cell_lt (hc 0 (by omega)), ?_⟩
    rw [hc i (by omega)]
    simp [hi]
theorem Lst.of_own {w : World} {base e g n cap : Nat} {xs : List Int} (h : w.ownsRow base e 1 (.slice (some ⟨g, 0, none⟩) n cap) n (xs.map (Value.int .i64))) : Lst w (some ⟨g, 0, none⟩) n xs := by
  have hl := h.1
  simp at hl
  refine ⟨hl, fun i hi => ⟨g, 0, rfl, (h.lt g rfl).2, ?_⟩⟩
  rw [Nat.zero_add, h.cellAt i (by omega)]
  have : i < xs.length := by omega
  simp [this]
theorem Lst.block {w : World} {a : Option Addr} {len : Nat} {xs : List Int} (h : Lst w a len xs) (i : Nat) (hi : i < len) : ∃ b off, a = some ⟨b, off, none⟩ ∧ b < w.heap.size ∧ w.cell? ⟨b, off + i, none⟩ = some (.int .i64 (xs[i]?.getD 0)) := h.2 i hi
/-- the first k of xs, then zeros, as n cells -/
def cop (xs : List Int) (k n : Nat) : List Value := (xs.take k).map (Value.int .i64) ++ List.replicate (n - k) (Value.int .i64 0)
theorem cop_zero (xs : List Int) (n : Nat) : (madeCells (Value.int .i64 0).cells (n * 1)).toList = cop xs 0 n := by
  simp [Value.cells, toList_madeCells_one, cop]
theorem cop_at (xs : List Int) (k n : Nat) (hk : k < n) (hx : xs.length = n) : (cop xs k n)[k]? = some (.int .i64 0) := by
  have e : ((xs.take k).map (Value.int .i64)).length = k := by simp; omega
  rw [cop, List.getElem?_append_right (by omega), e, List.getElem?_replicate, if_pos (by omega)]
theorem cop_set (xs : List Int) (k n : Nat) (hk : k < n) (hx : xs.length = n) : (cop xs k n).set k (.int .i64 (xs[k]?.getD 0)) = cop xs (k + 1) n := by
  have hkx : k < xs.length := by omega
  have e : ((xs.take k).map (Value.int .i64)).length = k := by simp; omega
  rw [cop, cop, List.set_append_right _ _ (by omega), e, Nat.sub_self, show n - k = (n - (k + 1)) + 1 from by omega, List.replicate_succ, List.set_cons_zero, List.take_succ_eq_append_getElem hkx, List.map_append, List.append_assoc]
  simp only [List.map_cons, List.map_nil, List.singleton_append]
  rw [show xs[k]?.getD 0 = xs[k] from by simp [hkx]]
theorem cop_full (xs : List Int) (n : Nat) (hx : xs.length = n) : cop xs n n = xs.map (Value.int .i64) := by
  subst hx; simp [cop]
theorem A_info : (Try.prog.info? 2).map (fun i => (i.zero, i.size, i.bytes)) = some (some (.int .i64 0), 1, 8) := by kernel_rfl

end Go.Proofs.Ytidiiladlmaigaa
