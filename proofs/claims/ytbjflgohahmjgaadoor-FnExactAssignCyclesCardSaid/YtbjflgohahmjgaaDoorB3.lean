/- Slices of int64: what a contract is told of one that is read, the laws' copying and comparing. -/
import Derived.Test.YtbjflgohahmjgaaDoorB1
import Derived.OwnWalk
namespace Go.Proofs.YtbjflgohahmjgaaDoor
open Go.ChangeShapes Go.WideShapes Go.ChangeAt Go.RowKit

/-- the slice 'a, len' reads as the numbers xs -/
def Lst (w : World) (a : Option Addr) (len : Nat) (xs : List Int) : Prop :=
  xs.length = len ∧ ∀ i, i < len → ∃ b off, a = some ⟨b, off, none⟩ ∧ b < w.heap.size ∧ w.cell? ⟨b, off + i, none⟩ = some (.int .i64 (xs[i]?.getD 0))
theorem Lst.mono {w w' : World} {a len xs} (h : Lst w a len xs) (hb : Below w.heap.size w w') : Lst w' a len xs :=
  ⟨h.1, fun i hi => by
    obtain ⟨b, off, e, hlt, hc⟩ := h.2 i hi
    exact ⟨b, off, e, Nat.lt_of_lt_of_le hlt hb.size, by rw [hb.cell (p := ⟨b, off + i, none⟩) hlt]; exact hc⟩⟩
theorem cell_lt {w : World} {a : Addr} {v : Value} (h : w.cell? a = some v) : a.block < w.heap.size := by
  unfold World.cell? at h
  by_cases hb : a.block < w.heap.size
  · exact hb
  · rw [Array.getElem?_eq_none (by omega)] at h
    simp at h
theorem Lst.of_row {w : World} {a : Option Addr} {len cap : Nat} {zs : List Int} (h : IsRow .i64 w a len cap zs) : Lst w a len (zs.take len) := by
  rcases h with ⟨rfl, rfl, rfl, rfl⟩ | ⟨x, rfl, h1, h2, h3, h4, h5⟩
  · exact ⟨rfl, fun i hi => by omega⟩
  · refine ⟨by simp; omega, fun i hi => ?_⟩
    obtain ⟨b, off, rfl, hc⟩ := ints_at h4 (by omega)
    refine ⟨b, off, rfl, cell_lt (hc 0 (by omega)), ?_⟩
    rw [hc i (by omega)]
    simp [hi]
theorem Lst.of_own {w : World} {base e g n cap : Nat} {xs : List Int} (h : w.ownsRow base e 1 (.slice (some ⟨g, 0, none⟩) n cap) n (xs.map (Value.int .i64))) : Lst w (some ⟨g, 0, none⟩) n xs := by
  have hl := h.1
  simp at hl
  refine ⟨hl, fun i hi => ⟨g, 0, rfl, (h.lt g rfl).2, ?_⟩⟩
  rw [Nat.zero_add, h.cellAt i (by omega)]
  have : i < xs.length := by omega
  simp [this]
theorem Lst.block {w : World} {a : Option Addr} {len : Nat} {xs : List Int} (h : Lst w a len xs) (i : Nat) (hi : i < len) : ∃ b off, a = some ⟨b, off, none⟩ ∧ b < w.heap.size ∧ w.cell? ⟨b, off + i, none⟩ = some (.int .i64 (xs[i]?.getD 0)) := h.2 i hi
/-- the first k of xs, then zeros, as n cells -/
def cop (xs : List Int) (k n : Nat) : List Value := (xs.take k).map (Value.int .i64) ++ List.replicate (n - k) (Value.int .i64 0)
theorem cop_zero (xs : List Int) (n : Nat) : (madeCells (Value.int .i64 0).cells (n * 1)).toList = cop xs 0 n := by
  simp [Value.cells, toList_madeCells_one, cop]
theorem cop_at (xs : List Int) (k n : Nat) (hk : k < n) (hx : xs.length = n) : (cop xs k n)[k]? = some (.int .i64 0) := by
  have e : ((xs.take k).map (Value.int .i64)).length = k := by simp; omega
  rw [cop, List.getElem?_append_right (by omega), e, List.getElem?_replicate, if_pos (by omega)]
theorem cop_set (xs : List Int) (k n : Nat) (hk : k < n) (hx : xs.length = n) : (cop xs k n).set k (.int .i64 (xs[k]?.getD 0)) = cop xs (k + 1) n := by
  have hkx : k < xs.length := by omega
  have e : ((xs.take k).map (Value.int .i64)).length = k := by simp; omega
  rw [cop, cop, List.set_append_right _ _ (by omega), e, Nat.sub_self, show n - k = (n - (k + 1)) + 1 from by omega, List.replicate_succ, List.set_cons_zero, List.take_succ_eq_append_getElem hkx, List.map_append, List.append_assoc]
  simp only [List.map_cons, List.map_nil, List.singleton_append]
  rw [show xs[k]?.getD 0 = xs[k] from by simp [hkx]]
theorem cop_full (xs : List Int) (n : Nat) (hx : xs.length = n) : cop xs n n = xs.map (Value.int .i64) := by
  subst hx; simp [cop]
theorem A_info : (Tryd.prog.info? 2).map (fun i => (i.zero, i.size, i.bytes)) = some (some (.int .i64 0), 1, 8) := by kernel_rfl

theorem toInt64S_any (a : Option Addr) (len cap : Nat) (xs : List Int) (w : World) (h : Lst w a len xs) (hlen : len ≤ 1048576) :
    Calls Tryd.prog 30 #[.slice a len cap] w fun e w' => ∃ g, e = .returned (.slice (some ⟨g, 0, none⟩) len len) ∧ Lst w' (some ⟨g, 0, none⟩) len xs ∧ Below w.heap.size w w' := by
  obtain ⟨i0, hi, hz0, hz1, hz2⟩ := info_parts A_info
  go_enter Tryd.func30, Tryd.ntmps30
  have hb : len ≤ maxLen := by unfold maxLen; omega
  have hsz := h.1
  have hl : (len : Int) ≤ 1048576 := by omega
  clear hsz
  go_wp2_with (at_make; refine wpList_make_full _ rfl _ _ 35 rfl w.heap.size 2 i0 (.int .i64 0) 1 Tryd.underlying35 hi hz0 hz1 .i64 .i64 len len len rfl rfl rfl rfl (by rw [hz2]; omega) hb (Nat.le_refl _) ?_; intro w1 hown hgrow)
  go_loopw [4] (fun i wr => ∃ k : Nat, k ≤ len ∧ i = .int .i64 k ∧ wr.ownsRow w.heap.size 2 1 (.slice (some ⟨w.heap.size, 0, none⟩) len len) len (cop xs k len) ∧ Below w.heap.size w wr) (fun i _ => len - (intOf i).toNat)
  case atStart => exact ⟨0, Nat.zero_le _, rfl, by rw [← cop_zero]; exact hown, (Below.refl _ _).grown hgrow (Nat.le_refl _) (fun k hk => by cases hk)⟩
  case round =>
    obtain ⟨k, hk, rfl, hownr, hbel⟩ := hrel
    clear hown hgrow
    by_cases hlt : k < len
    · obtain ⟨b, off, rfl, hbs, hcell⟩ := h.2 k hlt
      have hcw : wr.cell? ⟨b, off + k, none⟩ = some (.int .i64 (xs[k]?.getD 0)) := by rw [hbel.cell (p := ⟨b, off + k, none⟩) hbs]; exact hcell
      have hfz := hownr.frozenAt k
      have hco : wr.cell? ⟨w.heap.size, k, none⟩ = some (.int .i64 0) := by rw [hownr.cellAt k (by omega)]; exact cop_at xs k len hlt h.1
      obtain ⟨hs1, hs2⟩ := hownr.stored k (.int .i64 (xs[k]?.getD 0))
      go_wp2
      go_roundw
      case rel => exact ⟨k + 1, by omega, by go_num, by rw [← cop_set xs k len hlt h.1]; exact hs1, hbel.grown hs2 hbel.size (fun j hj => by cases hj; exact Nat.le_refl _)⟩
      case measure => simp [intOf]; omega
    · obtain rfl : k = len := by omega
      go_wp2
      go_ret
      rw [cop_full xs k h.1] at hownr
      exact ⟨_, rfl, Lst.of_own hownr, hbel⟩
theorem list_eq_of {xs ys : List Int} {n : Nat} (h1 : xs.length = n) (h2 : ys.length = n) (h : ∀ j, j < n → xs[j]?.getD 0 = ys[j]?.getD 0) : xs = ys := by
  apply List.ext_getElem (by omega)
  intro j hj hj'
  have := h j (by omega)
  simpa [hj, hj'] using this
theorem eqInt64S_any (a b : Option Addr) (len cap len' cap' : Nat) (xs ys : List Int) (w : World) (h : Lst w a len xs) (h' : Lst w b len' ys) (hlen : len ≤ 1048576) (hlen' : len' ≤ 1048576) :
    Calls Tryd.prog 32 #[.slice a len cap, .slice b len' cap'] w fun e w' => e = .returned (.bool (decide (xs = ys))) ∧ Below w.heap.size w w' := by
  by_cases hll : len = len'
  · subst hll
    go_enter Tryd.func32, Tryd.ntmps32
    go_wp2
    go_loopw [5] (fun i wr => ∃ k n : Nat, k ≤ len ∧ i = .int .i64 k ∧ (∀ j, j < k → xs[j]?.getD 0 = ys[j]?.getD 0) ∧ wr = w.drewN n) (fun i _ => len - (intOf i).toNat)
    case atStart => exact ⟨0, 0, Nat.zero_le _, rfl, fun j hj => by omega, rfl⟩
    case round =>
      obtain ⟨k, n, hk, rfl, hall, rfl⟩ := hrel
      have HALL := Lib.hid hall
      clear hall
      by_cases hlt : k < len
      · obtain ⟨b1, o1, rfl, hb1, hc1⟩ := h.2 k hlt
        obtain ⟨b2, o2, rfl, hb2, hc2⟩ := h'.2 k hlt
        cases hne : (xs[k]?.getD 0 != ys[k]?.getD 0)
        · go_wp2
          go_quiet (fail)
          go_wp2
          go_roundw
          case rel =>
            refine ⟨k + 1, _, by omega, by go_num, fun j hj => ?_, rfl⟩
            by_cases hjk : j = k
            · subst hjk; simpa using hne
            · exact HALL.out j (by omega)
          case measure => simp [intOf]; omega
        · go_wp2
          go_quiet (fail)
          go_wp2
          go_ret
          refine ⟨?_, by (repeat (first | assumption | exact Below.refl _ _ | refine belowDN ?_ _ | refine Below.drew ?_ | refine Below.setCell ?_ (by first | omega | (simp <;> omega)) _ | refine Below.alloc ?_ (by first | omega | (simp <;> omega)) _ | refine belowCall ?_ (by assumption)))⟩
          have : xs ≠ ys := fun e => by rw [e] at hne; simp at hne
          simp [this]
      · obtain rfl : k = len := by omega
        go_wp2
        go_ret
        refine ⟨?_, by (repeat (first | assumption | exact Below.refl _ _ | refine belowDN ?_ _ | refine Below.drew ?_ | refine Below.setCell ?_ (by first | omega | (simp <;> omega)) _ | refine Below.alloc ?_ (by first | omega | (simp <;> omega)) _ | refine belowCall ?_ (by assumption)))⟩
        simp [list_eq_of h.1 h'.1 HALL.out]
  · have hn : ((len : Int) != (len' : Int)) = true := by simp; omega
    have hx : xs ≠ ys := fun e => hll (by rw [← h.1, ← h'.1, e])
    have hd : decide (xs = ys) = false := by simp [hx]
    have HD := Lib.hid hd
    clear hd hx
    go_enter Tryd.func32, Tryd.ntmps32
    go_wp2
    go_ret
    exact ⟨by rw [HD.out]; rfl, by (repeat (first | assumption | exact Below.refl _ _ | refine belowDN ?_ _ | refine Below.drew ?_ | refine Below.setCell ?_ (by first | omega | (simp <;> omega)) _ | refine Below.alloc ?_ (by first | omega | (simp <;> omega)) _ | refine belowCall ?_ (by assumption)))⟩
end Go.Proofs.YtbjflgohahmjgaaDoor
