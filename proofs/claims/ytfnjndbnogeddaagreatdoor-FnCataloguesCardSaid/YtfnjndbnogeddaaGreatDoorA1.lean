/- ByAmplitude, in plain lists: indices by falling worth, equal ones in their order; the model's way to it (put each next one behind those worth as much) and the program's (take the greatest worth's group). -/
import Derived.Test.YtfnjndbnogeddaaGreatDoorSE
namespace Go.Proofs.YtfnjndbnogeddaaGreatDoor

/-- the indices below k, by falling worth, equal ones in their order -/
def byL (v : Nat → Int) : Nat → List Nat
  | 0 => []
  | k + 1 => (byL v k).filter (fun j => decide (v k ≤ v j)) ++ k :: (byL v k).filter (fun j => decide (v j < v k))
theorem byL_len (v : Nat → Int) : ∀ k, (byL v k).length = k
  | 0 => rfl
  | k + 1 => by
    have h : ∀ L : List Nat, (L.filter (fun j => decide (v k ≤ v j))).length + (L.filter (fun j => decide (v j < v k))).length = L.length := by
      intro L
      induction L with
      | nil => rfl
      | cons x L ih =>
        by_cases hx : v k ≤ v x
        · have hx' : ¬ v x < v k := by omega
          simp [hx, hx']; omega
        · have hx' : v x < v k := by omega
          simp [hx, hx']; omega
    have := h (byL v k)
    have := byL_len v k
    simp only [byL, List.length_append, List.length_cons]
    omega
theorem byL_mem (v : Nat → Int) : ∀ k j, j ∈ byL v k ↔ j < k
  | 0, j => by simp [byL]
  | k + 1, j => by
    have ih := byL_mem v k j
    simp only [byL, List.mem_append, List.mem_cons, List.mem_filter, ih, decide_eq_true_eq]
    omega
theorem byL_eq (v : Nat → Int) (m : Int) : ∀ k, (byL v k).filter (fun j => decide (v j = m)) = (List.range k).filter (fun j => decide (v j = m))
  | 0 => rfl
  | k + 1 => by
    have ih := byL_eq v m k
    rw [List.range_succ, List.filter_append, ← ih]
    simp only [byL, List.filter_append, List.filter_cons, List.filter_filter, List.filter_nil]
    by_cases hk : v k = m
    · have e1 : (byL v k).filter (fun j => decide (v j = m) && decide (v k ≤ v j)) = (byL v k).filter (fun j => decide (v j = m)) := List.filter_congr fun j _ => by by_cases h : v j = m <;> simp [h]; omega
      have e2 : (byL v k).filter (fun j => decide (v j = m) && decide (v j < v k)) = [] := List.filter_eq_nil_iff.2 fun j _ => by simp; omega
      rw [e1, e2]
    · by_cases hlt : v k < m
      · have e1 : (byL v k).filter (fun j => decide (v j = m) && decide (v k ≤ v j)) = (byL v k).filter (fun j => decide (v j = m)) := List.filter_congr fun j _ => by by_cases h : v j = m <;> simp [h]; omega
        have e2 : (byL v k).filter (fun j => decide (v j = m) && decide (v j < v k)) = [] := List.filter_eq_nil_iff.2 fun j _ => by simp; omega
        rw [e1, e2]
      · have e1 : (byL v k).filter (fun j => decide (v j = m) && decide (v k ≤ v j)) = [] := List.filter_eq_nil_iff.2 fun j _ => by simp; omega
        have e2 : (byL v k).filter (fun j => decide (v j = m) && decide (v j < v k)) = (byL v k).filter (fun j => decide (v j = m)) := List.filter_congr fun j _ => by by_cases h : v j = m <;> simp [h]; omega
        rw [e1, e2]; simp [hk]
def Falls (v : Nat → Int) (L : List Nat) : Prop := L.Pairwise fun a b => v b ≤ v a
theorem byL_falls (v : Nat → Int) : ∀ k, Falls v (byL v k)
  | 0 => List.Pairwise.nil
  | k + 1 => by
    have ih := byL_falls v k
    unfold Falls at ih ⊢
    simp only [byL]
    rw [List.pairwise_append]
    refine ⟨ih.filter _, List.pairwise_cons.2 ⟨fun b hb => ?_, ih.filter _⟩, fun a ha b hb => ?_⟩
    · simp at hb; omega
    · simp at ha hb
      rcases hb with rfl | hb
      · exact ha.2
      · omega
theorem falls_split {v : Nat → Int} (c : Int) : ∀ {L : List Nat}, Falls v L → L.filter (fun j => decide (c ≤ v j)) ++ L.filter (fun j => decide (v j < c)) = L
  | [], _ => rfl
  | x :: L, h => by
    have h1 := List.pairwise_cons.1 h
    have ih := falls_split c (L := L) h1.2
    by_cases hx : c ≤ v x
    · have hx' : ¬ v x < c := by omega
      simp only [List.filter_cons, hx, hx', decide_true, decide_false, if_true, List.cons_append, Bool.false_eq_true, if_false, ih]
    · have hx' : v x < c := by omega
      have e1 : L.filter (fun j => decide (c ≤ v j)) = [] := List.filter_eq_nil_iff.2 fun j hj => by have := h1.1 j hj; simp; omega
      rw [e1, List.nil_append] at ih
      simp only [List.filter_cons, hx, hx', decide_true, decide_false, if_true, Bool.false_eq_true, if_false, e1, List.nil_append, ih]
/-- the ones worth at least t, then those worth m, are the ones worth at least m, if none is worth between them -/
theorem byL_step {v : Nat → Int} {n : Nat} {m t : Int} (hmt : m < t) (hno : ∀ j, j < n → v j ≤ m ∨ t ≤ v j) :
    (byL v n).filter (fun j => decide (t ≤ v j)) ++ (List.range n).filter (fun j => decide (v j = m)) = (byL v n).filter (fun j => decide (m ≤ v j)) := by
  have h := falls_split t ((byL_falls v n).filter (fun j => decide (m ≤ v j)))
  rw [List.filter_filter, List.filter_filter] at h
  rw [← h, ← byL_eq]
  congr 1
  · refine List.filter_congr fun j _ => ?_
    by_cases h1 : t ≤ v j <;> simp [h1]; omega
  · refine List.filter_congr fun j hj => ?_
    have := hno j ((byL_mem v n j).1 hj)
    by_cases h1 : v j = m <;> simp [h1] <;> omega
/-- where the model puts the next one -/
theorem falls_at {v : Nat → Int} {c : Int} : ∀ {L : List Nat} {p : Nat}, Falls v L → p ≤ L.length → (∀ j, j < p → j < L.length → c ≤ v (L[j]?.getD 0)) → (∀ j, p ≤ j → j < L.length → v (L[j]?.getD 0) < c) →
    L.filter (fun j => decide (c ≤ v j)) = L.take p ∧ L.filter (fun j => decide (v j < c)) = L.drop p
  | [], p, _, hp, _, _ => by simp
  | x :: L, 0, h, hp, h1, h2 => by
    have hall : ∀ j ∈ x :: L, v j < c := fun j hj => by
      obtain ⟨i, hi, rfl⟩ := List.getElem_of_mem hj
      have := h2 i (by omega) hi
      rwa [List.getElem?_eq_getElem hi, Option.getD_some] at this
    constructor
    · simp only [List.take_zero]; exact List.filter_eq_nil_iff.2 fun j hj => by have := hall j hj; simp; omega
    · simp only [List.drop_zero]; exact List.filter_eq_self.2 fun j hj => by have := hall j hj; simpa using this
  | x :: L, p + 1, h, hp, h1, h2 => by
    have hh := List.pairwise_cons.1 h
    have ih := falls_at (c := c) (L := L) (p := p) hh.2 (by simpa using hp) (fun j hj hl => by have := h1 (j + 1) (by omega) (by simpa using hl); simpa using this) (fun j hj hl => by have := h2 (j + 1) (by omega) (by simpa using hl); simpa using this)
    have hx : c ≤ v x := by have := h1 0 (by omega) (by simp); simpa using this
    have hx' : ¬ v x < c := by omega
    simp [hx, hx', ih.1, ih.2]
/-- a star's range -/
def ampV (xs : List St) (j : Nat) : Int := (xs[j]?.getD st0).2.2.2.2 - (xs[j]?.getD st0).2.2.2.1
def ampL (xs : List St) (n : Nat) : List Int := (byL (ampV xs) n).map fun (j : Nat) => (j : Int)
theorem ampL_len (xs : List St) (n : Nat) : (ampL xs n).length = n := by simp [ampL, byL_len]
end Go.Proofs.YtfnjndbnogeddaaGreatDoor
