/- StarsIn in plain lists: sorting names and leaving out what is twice gives the rising list of them. -/
import Derived.Test.YtichcfahmdlndabP1
import Derived.Sort.OwnSorted
import Derived.Lib.SlicesCompact
import Derived.Lib.SmallJoins
namespace Go.Proofs.Ytichcfahmdlndab
open Go.ChangeShapes Go.WideShapes Go.ChangeAt Go.RowKit Go.Deep

theorem ba_d (x : ByteArray) : (⟨x.data.toList.toArray⟩ : ByteArray) = x := by cases x; simp
theorem bl_data {x y : ByteArray} : bl x y = true ↔ x.data.toList < y.data.toList := by rw [bl_iff, ByteArray.toList_eq, ByteArray.toList_eq]
/-- the names in order, each as often as before -/
def srtN (l : List ByteArray) : List ByteArray := ((l.map (·.data.toList)).mergeSort fun x y => decide (x ≤ y)).map fun b => ⟨b.toArray⟩
theorem srtN_len (l : List ByteArray) : (srtN l).length = l.length := by simp [srtN]
theorem srtN_mem (l : List ByteArray) (y : ByteArray) : y ∈ srtN l ↔ y ∈ l := by
  unfold srtN
  simp only [List.mem_map, List.mem_mergeSort]
  constructor
  · rintro ⟨b, ⟨x, hx, rfl⟩, rfl⟩
    rw [ba_d]; exact hx
  · intro h
    exact ⟨y.data.toList, ⟨y, h, rfl⟩, ba_d y⟩
theorem srtN_enc (l : List ByteArray) : (srtN l).map Value.string = ((l.map (·.data.toList)).mergeSort fun x y => decide (x ≤ y)).map encStr := by
  simp [srtN, Function.comp_def]
theorem srtN_ord (l : List ByteArray) : (srtN l).Pairwise fun x y => bl y x = false := by
  have h := List.pairwise_mergeSort (le := fun x y : List UInt8 => decide (x ≤ y)) (fun a b c h1 h2 => by
    simp only [decide_eq_true_eq] at *
    exact List.le_trans h1 h2) (fun a b => by
    simp only [Bool.or_eq_true, decide_eq_true_eq]
    exact List.le_total a b) (l.map (·.data.toList))
  unfold srtN
  rw [List.pairwise_map]
  refine h.imp ?_
  intro a b hab
  cases hh : bl ⟨b.toArray⟩ ⟨a.toArray⟩
  · rfl
  · have h1 := bl_data.1 hh
    simp only [decide_eq_true_eq] at hab
    exact absurd h1 (List.not_lt.2 (by simpa using hab))
/-- what slices.Compact leaves of them -/
def cpN (l : List ByteArray) : List ByteArray := Lib.compactUpTo l.toArray l.toArray.size
theorem getI (l : List ByteArray) {j : Nat} (hj : j < l.length) : l.toArray[j]! = l[j] := by
  have hj' : j < l.toArray.size := by simpa using hj
  rw [getElem!_pos l.toArray j hj']
  simp
theorem cpN_mem (l : List ByteArray) (y : ByteArray) : y ∈ cpN l ↔ y ∈ l := by
  unfold cpN Lib.compactUpTo
  simp only [List.mem_map, List.mem_filter, List.mem_range, List.size_toArray]
  constructor
  · rintro ⟨j, ⟨hj, _⟩, rfl⟩
    rw [getI l hj]
    exact List.getElem_mem hj
  · intro h
    obtain ⟨j, hj, rfl⟩ := List.getElem_of_mem h
    have key : ∀ j (hj : j < l.length), ∃ a, (a < l.length ∧ Lib.keeps l.toArray a = true) ∧ l.toArray[a]! = l[j] := by
      intro j
      induction j with
      | zero => intro hj; exact ⟨0, ⟨hj, by simp [Lib.keeps]⟩, getI l hj⟩
      | succ j ih =>
        intro hj
        by_cases hk : Lib.keeps l.toArray (j + 1) = true
        · exact ⟨j + 1, ⟨hj, hk⟩, getI l hj⟩
        · obtain ⟨a, ha, he⟩ := ih (by omega)
          refine ⟨a, ha, he.trans ?_⟩
          have h2 : l.toArray[j + 1]! = l.toArray[j + 1 - 1]! := by
            simp only [Lib.keeps, decide_eq_true_eq, not_or, Decidable.not_not] at hk
            exact hk.2
          rw [Nat.add_sub_cancel, getI l hj, getI l (by omega)] at h2
          exact h2.symm
    exact key j hj
theorem cpN_rise {l : List ByteArray} (h : l.Pairwise fun x y => bl y x = false) : RiseN (cpN l) := by
  unfold cpN Lib.compactUpTo RiseN
  rw [List.pairwise_map]
  have h1 : ((List.range l.toArray.size).filter (Lib.keeps l.toArray)).Pairwise (· < ·) := List.Pairwise.filter _ List.pairwise_lt_range
  have hle : ∀ i j (hj : j < l.length) (hi : i < l.length), i ≤ j → bl l[j] l[i] = false := by
    intro i j hj hi hij
    by_cases e : i = j
    · subst e; exact bl_irrefl _
    · exact List.pairwise_iff_getElem.1 h i j hi hj (by omega)
  have hmem : ∀ i ∈ (List.range l.toArray.size).filter (Lib.keeps l.toArray), i < l.length ∧ Lib.keeps l.toArray i = true := fun i hi => by
    simpa using List.mem_filter.1 hi
  refine List.Pairwise.imp_of_mem ?_ h1
  intro i j hi hj hij
  obtain ⟨hi1, _⟩ := hmem i hi
  obtain ⟨hj1, hj2⟩ := hmem j hj
  rw [getI l hi1, getI l hj1]
  simp only [Lib.keeps, decide_eq_true_eq] at hj2
  have hne : l[j] ≠ l[j - 1] := by
    rcases hj2 with h0 | h0
    · omega
    · rw [getI l hj1, getI l (by omega)] at h0
      exact h0
  rcases bl_or l[j - 1] l[j] with h3 | h3 | h3
  · rcases bl_or l[i] l[j - 1] with h4 | h4 | h4
    · exact bl_trans h4 h3
    · rw [h4]; exact h3
    · rw [hle i (j - 1) (by omega) hi1 (by omega)] at h4; cases h4
  · exact absurd h3.symm hne
  · rw [hle (j - 1) j hj1 (by omega) (by omega)] at h3; cases h3
theorem stars_cp (xs : List Es) : cpN (srtN (xs.map fun x => x.2.1)) = stK xs xs.length :=
  stK_is (cpN_rise (srtN_ord _)) (fun y => by rw [cpN_mem, srtN_mem]; simp only [List.mem_map])
theorem cpN_len (l : List ByteArray) : (cpN l).length ≤ l.length := by
  unfold cpN Lib.compactUpTo
  rw [List.length_map]
  have := List.length_filter_le (Lib.keeps l.toArray) (List.range l.toArray.size)
  simpa using this
/-- the first k names, then nothing -/
def nmK (xs : List Es) (k n : Nat) : List ByteArray := (xs.take k).map (fun x => x.2.1) ++ List.replicate (n - k) ⟨#[]⟩
theorem nmK_zero (xs : List Es) (n : Nat) : (madeCells (Value.string ByteArray.empty).cells (n * 1)).toList = (nmK xs 0 n).map Value.string := by
  simp only [Value.cells, toList_madeCells_one, nmK, List.take_zero, List.map_nil, List.nil_append, Nat.sub_zero, List.map_replicate, Nat.mul_one]
  rfl
theorem nmK_len {xs : List Es} {k n : Nat} (hk : k ≤ n) (hx : xs.length = n) : (nmK xs k n).length = n := by simp [nmK]; omega
theorem nmK_at {xs : List Es} {k n : Nat} (hk : k < n) (hx : xs.length = n) : ((nmK xs k n).map Value.string)[k]? = some (.string ⟨#[]⟩) := by
  have e : ((xs.take k).map (fun x => x.2.1)).length = k := by simp; omega
  rw [List.getElem?_map, nmK, List.getElem?_append_right (by omega), e, List.getElem?_replicate, if_pos (by omega)]
  rfl
theorem nmK_set {xs : List Es} {k n : Nat} {x : Es} (hk : k < n) (hx : xs.length = n) (h : xs[k]?.getD es0 = x) : ((nmK xs k n).map Value.string).set k (.string x.2.1) = (nmK xs (k + 1) n).map Value.string := by
  have hkx : k < xs.length := by omega
  have e : ((xs.take k).map (fun x => x.2.1)).length = k := by simp; omega
  rw [List.getElem?_eq_getElem hkx, Option.getD_some] at h
  rw [← List.map_set]
  congr 1
  rw [nmK, nmK, List.set_append_right _ _ (by omega), e, Nat.sub_self, show n - k = (n - (k + 1)) + 1 from by omega, List.replicate_succ, List.set_cons_zero, List.take_succ_eq_append_getElem hkx, List.map_append, List.append_assoc, h]
  rfl
theorem nmK_full {xs : List Es} {n : Nat} (hx : xs.length = n) : nmK xs n n = xs.map fun x => x.2.1 := by subst hx; simp [nmK]
/-- of a slice of a call's own the first m -/
theorem own_cut {w : World} {B e g n c m : Nat} {xs : List Value} (h : w.ownsRow B e 1 (.slice (some ⟨g, 0, none⟩) n c) n xs) (hm : m ≤ n) : w.ownsRow B e 1 (.slice (some ⟨g, 0, none⟩) m c) m (xs.take m) := by
  rcases h.2 with ⟨h0, _⟩ | ⟨g', cap, cur, hv, h1, h2, h3, h4, h5, h6⟩
  · cases h0
  · cases hv
    refine ⟨by rw [List.length_take, h.1]; omega, .inr ⟨g, c, cur, rfl, h1, h2, by omega, h4, h5, ?_⟩⟩
    rw [← h6, List.take_take]
    congr 1
    omega
end Go.Proofs.Ytichcfahmdlndab
