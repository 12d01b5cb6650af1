/- Facts of FnFolds: the order of a fold in plain lists, the sum of all bins' numbers, the means' times. -/
import Derived.Test.YtidiiladlmaigaaFO
import Derived.Test.YtidiiladlmaigaaF5
namespace Go.Proofs.Ytidiiladlmaigaa
open Go.ChangeShapes Go.WideShapes Go.ChangeAt Go.RowKit Go.Deep

/-- what the law asks of an order -/
theorem fold_facts {e p : Int} {xs : List Pt} {n : Nat} {L : List Int} (hL : L = (idxL n).mergeSort (leF e p xs)) :
    L.length = n ∧ (∀ k, k < n → ∃ q : Nat, L[k]?.getD 0 = (q : Int) ∧ q < n) ∧ L.Nodup ∧ ∀ k, k + 1 < n → leF e p xs (L[k]?.getD 0) (L[k + 1]?.getD 0) = true := by
  have hP : L.Perm (idxL n) := by rw [hL]; exact List.mergeSort_perm _ _
  have hS : L.Pairwise (fun a b => leF e p xs a b = true) := by rw [hL]; exact List.pairwise_mergeSort (le := leF e p xs) (leF_trans e p xs) (leF_total e p xs) (idxL n)
  have hl : L.length = n := by rw [hP.length_eq, idxL_len]
  refine ⟨hl, fun k hk => fold_nth hl hP hk, ?_, fun k hk => ?_⟩
  · refine hP.nodup_iff.2 ?_
    unfold idxL
    show List.Pairwise _ _
    rw [List.pairwise_map]
    exact List.Pairwise.imp (fun h e => h (by omega)) (List.nodup_range (n := n))
  · have h9 := List.pairwise_iff_getElem.1 hS k (k + 1) (by omega) (by omega) (by omega)
    rw [List.getElem?_eq_getElem (by omega : k < L.length), List.getElem?_eq_getElem (by omega : k + 1 < L.length), Option.getD_some, Option.getD_some]
    exact h9
theorem nodup_take {L : List Int} (h : L.Nodup) {k : Nat} (hk : k < L.length) : ∀ j, j < k → (L.take k)[j]?.getD 0 ≠ L[k]?.getD 0 := fun j hj => by
  rw [List.getElem?_take_of_lt hj, List.getElem?_eq_getElem (by omega : j < L.length), List.getElem?_eq_getElem hk, Option.getD_some, Option.getD_some]
  exact List.pairwise_iff_getElem.1 h j k (by omega) hk hj
theorem fold_step {e p : Int} {xs : List Pt} {L : List Int} {k : Nat} {q r : Nat} (h : leF e p xs (L[k]?.getD 0) (L[k + 1]?.getD 0) = true) (hq : L[k]?.getD 0 = (q : Int)) (hr : L[k + 1]?.getD 0 = (r : Int)) :
    keyP e p xs q < keyP e p xs r ∨ keyP e p xs q = keyP e p xs r ∧ q ≤ r := by
  rw [hq, hr] at h
  unfold leF at h
  simp only [decide_eq_true_eq, Int.toNat_natCast] at h
  omega
/-- all bins have all points -/
theorem bins_all (e p b : Int) (xs : List Pt) (hp : 1 ≤ p) (hb : 1 ≤ b) : ∀ k, k ≤ xs.length → ((List.range b.toNat).map fun i : Nat => ((ptsIn e p b xs k i).length : Int)).sum = (k : Int)
  | 0, _ => by
    have : ∀ m : Nat, ((List.range m).map fun i : Nat => ((ptsIn e p b xs 0 i).length : Int)).sum = 0 := fun m => by
      induction m with
      | zero => rfl
      | succ m ih => rw [List.range_succ, List.map_append, List.sum_append, ih, List.map_singleton, ptsIn_zero]; rfl
    exact this _
  | k + 1, hk => by
    have ih := bins_all e p b xs hp hb k (by omega)
    obtain ⟨x, hx⟩ : ∃ x, xs[k]?.getD pt0 = x := ⟨_, rfl⟩
    have hq := bnN_lt (e := e) (t := x.1) hp hb
    obtain ⟨q, hqq⟩ : ∃ q, bnN e p b x.1 = q := ⟨_, rfl⟩
    rw [hqq] at hq
    have key : ∀ m : Nat, ((List.range m).map fun i : Nat => ((ptsIn e p b xs (k + 1) i).length : Int)).sum = ((List.range m).map fun i : Nat => ((ptsIn e p b xs k i).length : Int)).sum + (if q < m then 1 else 0) := fun m => by
      induction m with
      | zero => simp
      | succ m ih2 =>
        rw [List.range_succ, List.map_append, List.map_append, List.sum_append, List.sum_append, ih2, List.map_singleton, List.map_singleton, List.sum_singleton, List.sum_singleton]
        by_cases hm : q = m
        · rw [ptsIn_same (by omega) hx (hqq.trans hm), List.length_append, List.length_singleton, if_neg (by omega), if_pos (by omega)]
          omega
        · rw [ptsIn_other (by omega) hx (by rw [hqq]; exact hm)]
          by_cases h2 : q < m
          · rw [if_pos h2, if_pos (by omega)]; omega
          · rw [if_neg h2, if_neg (by omega)]; omega
    rw [key, ih, if_pos (by omega)]
    omega
theorem counts_sum {e p b : Int} {xs : List Pt} (hp : 1 ≤ p) (hb : 1 ≤ b) : ((List.range b.toNat).map fun i : Nat => (cntB e p b xs i : Int)).sum = (xs.length : Int) := bins_all e p b xs hp hb xs.length (Nat.le_refl _)
/-- the mean at a bin that is not empty is the next one -/
theorem mnsB_ext {e p b : Int} {xs : List Pt} : ∀ (d k : Nat), ∃ t, mnsB e p b xs (k + d) = mnsB e p b xs k ++ t
  | 0, k => ⟨[], by simp⟩
  | d + 1, k => by
    obtain ⟨t, ht⟩ := mnsB_ext (e := e) (p := p) (b := b) (xs := xs) d k
    by_cases h : 0 < cntB e p b xs (k + d)
    · exact ⟨t ++ [mnB e p b xs (k + d)], by rw [← Nat.add_assoc, mnsB_yes h, ht, List.append_assoc]⟩
    · exact ⟨t, by rw [← Nat.add_assoc, mnsB_no h, ht]⟩
theorem mns_at {e p b : Int} {xs : List Pt} {k B : Nat} (hk : k < B) (h : 0 < cntB e p b xs k) : (mnsB e p b xs k).length < (mnsB e p b xs B).length ∧ ((mnsB e p b xs B)[(mnsB e p b xs k).length]?.getD pt0).1 = (k : Int) := by
  obtain ⟨t, ht⟩ := mnsB_ext (e := e) (p := p) (b := b) (xs := xs) (B - (k + 1)) (k + 1)
  rw [show k + 1 + (B - (k + 1)) = B by omega, mnsB_yes h] at ht
  rw [ht]
  constructor
  · simp
  · simp [mnB]
end Go.Proofs.Ytidiiladlmaigaa
