/- An estimate put into a list, and found in it: plain lists. -/
import Derived.Test.YtfnjndbnogeddaaDoorE4
namespace Go.Proofs.YtfnjndbnogeddaaDoor
open Go.ChangeShapes Go.WideShapes Go.ChangeAt Go.RowKit Go.Deep

def RiseE (l : List Es) : Prop := l.Pairwise fun x y => esLt x y = true
theorem okE_rise {xs : List Es} (h : okE xs = true) : RiseE xs := by
  have h2 := (okE_at rfl h).2
  have adj : ∀ k, k + 1 < xs.length → esLt (xs[k]?.getD es0) (xs[k + 1]?.getD es0) = true := fun k hk => by
    have := h2 (k + 1) hk
    simp only [okAtE, Bool.and_eq_true, Nat.add_sub_cancel] at this
    simpa using this.2
  have far : ∀ d i, i + d + 1 < xs.length → esLt (xs[i]?.getD es0) (xs[i + d + 1]?.getD es0) = true := by
    intro d
    induction d with
    | zero => intro i hi; exact adj i hi
    | succ d ih => intro i hi; exact esLt_trans (ih i (by omega)) (adj (i + d + 1) hi)
  unfold RiseE
  rw [List.pairwise_iff_getElem]
  intro i j hi hj hij
  have := far (j - i - 1) i (by omega)
  rw [show i + (j - i - 1) + 1 = j from by omega] at this
  simpa [hi, hj] using this
theorem rise_ltE {l : List Es} {n i j : Nat} (hn : l.length = n) (hs : RiseE l) (hij : i < j) (hj : j < n) : esLt (l[i]?.getD es0) (l[j]?.getD es0) = true := by
  have := List.pairwise_iff_getElem.1 hs i j (by omega) (by omega) hij
  simpa [show i < l.length by omega, show j < l.length by omega] using this
theorem okE_all {xs : List Es} (h : okE xs = true) : ∀ x ∈ xs, esB x = true := by
  intro x hx
  obtain ⟨j, hj, rfl⟩ := List.getElem_of_mem hx
  have := (okE_at rfl h).2 j hj
  simp only [okAtE, Bool.and_eq_true] at this
  simpa [hj] using this.1
theorem okE_of {xs : List Es} (h1 : xs.length ≤ 100) (h2 : ∀ x ∈ xs, esB x = true) (h3 : RiseE xs) : okE xs = true := by
  refine okE_yes rfl h1 fun k hk => ?_
  have hb : esB (xs[k]?.getD es0) = true := by rw [List.getElem?_eq_getElem hk]; exact h2 _ (List.getElem_mem hk)
  simp only [okAtE, hb, Bool.true_and]
  by_cases h0 : k = 0
  · simp [h0]
  · have := rise_ltE rfl h3 (show k - 1 < k by omega) hk
    simp [this]
def putE (l : List Es) (x : Es) : List Es := (l.filter fun y => esLt y x) ++ x :: l.filter fun y => esLt x y
theorem putE_mem {l : List Es} {x : Es} (h : ∀ y ∈ l, ¬ esEq y x) (y : Es) : y ∈ putE l x ↔ y ∈ l ∨ y = x := by
  unfold putE
  simp only [List.mem_append, List.mem_filter, List.mem_cons]
  constructor
  · rintro (h1 | rfl | h1)
    · exact .inl h1.1
    · exact .inr rfl
    · exact .inl h1.1
  · rintro (h1 | rfl)
    · rcases esLt_or y x with h2 | h2 | h2
      · exact .inl ⟨h1, h2⟩
      · exact absurd h2 (h y h1)
      · exact .inr (.inr ⟨h1, h2⟩)
    · exact .inr (.inl rfl)
theorem putE_rise {l : List Es} {x : Es} (h : RiseE l) : RiseE (putE l x) := by
  refine List.pairwise_append.2 ⟨List.Pairwise.filter _ h, List.pairwise_cons.2 ⟨fun y hy => (List.mem_filter.1 hy).2, List.Pairwise.filter _ h⟩, fun y hy z hz => ?_⟩
  have h1 := (List.mem_filter.1 hy).2
  rcases List.mem_cons.1 hz with rfl | hz
  · exact h1
  · exact esLt_trans h1 (List.mem_filter.1 hz).2
theorem putE_at {l : List Es} {x : Es} {n k : Nat} (hn : l.length = n) (hk : k ≤ n) (h1 : ∀ j, k ≤ j → j < n → esLt x (l[j]?.getD es0) = true) (h2 : ∀ j, j < k → esLt (l[j]?.getD es0) x = true) : putE l x = l.take k ++ x :: l.drop k := by
  have a1 : ∀ y ∈ l.take k, esLt y x = true := by
    intro y hy
    obtain ⟨j, hj, rfl⟩ := List.getElem_of_mem hy
    have hj' : j < k ∧ j < l.length := by have h9 : j < min k l.length := by simpa using hj
                                          omega
    have := h2 j hj'.1
    rw [List.getElem_take]
    simpa [hj'.2] using this
  have a2 : ∀ y ∈ l.drop k, esLt x y = true := by
    intro y hy
    obtain ⟨j, hj, rfl⟩ := List.getElem_of_mem hy
    have hj' : j < l.length - k := by simpa using hj
    have := h1 (k + j) (by omega) (by omega)
    rw [List.getElem_drop]
    simpa [show k + j < l.length by omega] using this
  unfold putE
  have e1 : (l.filter fun y => esLt y x) = l.take k := by
    conv => lhs; rw [← List.take_append_drop k l]
    rw [List.filter_append, List.filter_eq_self.2 a1, List.filter_eq_nil_iff.2 (fun y hy => by rw [esLt_asymm (a2 y hy)]; simp), List.append_nil]
  have e2 : (l.filter fun y => esLt x y) = l.drop k := by
    conv => lhs; rw [← List.take_append_drop k l]
    rw [List.filter_append, List.filter_eq_self.2 a2, List.filter_eq_nil_iff.2 (fun y hy => by rw [esLt_asymm (a1 y hy)]; simp), List.nil_append]
  rw [e1, e2]
theorem putE_len {l : List Es} {x : Es} (h : ∀ y ∈ l, ¬ esEq y x) : (putE l x).length = l.length + 1 := by
  unfold putE
  have : (l.filter fun y => esLt y x).length + (l.filter fun y => esLt x y).length = l.length := by
    induction l with
    | nil => rfl
    | cons a l ih =>
      have ih' := ih (fun y hy => h y (List.mem_cons_of_mem _ hy))
      simp only [List.filter_cons, List.length_cons]
      rcases esLt_or a x with h1 | h1 | h1
      · rw [if_pos h1, if_neg (by rw [esLt_asymm h1]; simp)]; simp; omega
      · exact absurd h1 (h a List.mem_cons_self)
      · rw [if_neg (by rw [esLt_asymm h1]; simp), if_pos h1]; simp; omega
  simp only [List.length_append, List.length_cons]
  omega
/-- the place of the estimate with x's time, star and observer -/
def fndE (l : List Es) (x : Es) : Nat := l.findIdx fun y => !esLt y x && !esLt x y
theorem same_iff {x y : Es} : (!esLt y x && !esLt x y) = true ↔ esEq y x := by
  simp only [Bool.and_eq_true, Bool.not_eq_true']
  exact ⟨fun h => esEq_of h.1 h.2, fun h => ⟨esEq_not h, esEq_not h.symm⟩⟩
theorem fndE_le (l : List Es) (x : Es) : fndE l x ≤ l.length := List.findIdx_le_length
theorem fndE_has {l : List Es} {x : Es} (h : fndE l x < l.length) : esEq (l[fndE l x]?.getD es0) x := by
  have h1 : (fun y => !esLt y x && !esLt x y) (l[l.findIdx fun y => !esLt y x && !esLt x y]'h) = true := List.findIdx_getElem (p := fun y => !esLt y x && !esLt x y) (w := h)
  have h2 := same_iff.1 h1
  have e : l[fndE l x]?.getD es0 = l[l.findIdx fun y => !esLt y x && !esLt x y]'h := by
    rw [List.getElem?_eq_getElem h]; rfl
  rw [e]
  exact h2
theorem fndE_none {l : List Es} {x : Es} (h : ¬ fndE l x < l.length) : ∀ y ∈ l, ¬ esEq y x := fun y hy e => h (by
  unfold fndE
  exact List.findIdx_lt_length_of_exists ⟨y, hy, same_iff.2 e⟩)
theorem fndE_yes {l : List Es} {x y : Es} (hy : y ∈ l) (e : esEq y x) : fndE l x < l.length := by
  unfold fndE
  exact List.findIdx_lt_length_of_exists ⟨y, hy, same_iff.2 e⟩
theorem fndE_at {l : List Es} {x : Es} {n k : Nat} (hn : l.length = n) (hk : k < n) (h1 : ∀ j, j < k → ¬ esEq (l[j]?.getD es0) x) (h2 : esEq (l[k]?.getD es0) x) : fndE l x = k := by
  have hk' : k < l.length := by omega
  unfold fndE
  rw [List.findIdx_eq hk']
  rw [List.getElem?_eq_getElem hk', Option.getD_some] at h2
  refine ⟨same_iff.2 h2, fun j hj => ?_⟩
  have h3 := h1 j hj
  rw [List.getElem?_eq_getElem (by omega), Option.getD_some] at h3
  cases hh : (!esLt l[j] x && !esLt x l[j])
  · rfl
  · exact absurd (same_iff.1 hh) h3
theorem fndE_end {l : List Es} {x : Es} {n : Nat} (hn : l.length = n) (h1 : ∀ j, j < n → ¬ esEq (l[j]?.getD es0) x) : fndE l x = n := by
  have h := fndE_le l x
  by_cases h2 : fndE l x < l.length
  · exact absurd (fndE_has h2) (h1 _ (by omega))
  · omega
def fndV (l : List Es) (x : Es) : Value := .int .i64 (if fndE l x < l.length then (fndE l x : Int) else -1)
end Go.Proofs.YtfnjndbnogeddaaDoor
