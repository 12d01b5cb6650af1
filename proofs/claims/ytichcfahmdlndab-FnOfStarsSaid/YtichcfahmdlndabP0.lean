/- Names in order: putting one into a list; two strictly rising lists of the same names are one. -/
import Derived.Test.YtichcfahmdlndabE2
import Derived.Test.YtichcfahmdlndabGS
namespace Go.Proofs.Ytichcfahmdlndab
open Go.ChangeShapes Go.WideShapes Go.ChangeAt Go.RowKit Go.Deep

def RiseN (l : List ByteArray) : Prop := l.Pairwise fun x y => bl x y = true
noncomputable instance memDec (x : ByteArray) (l : List ByteArray) : Decidable (x ∈ l) := Classical.propDecidable _
noncomputable def putN (l : List ByteArray) (x : ByteArray) : List ByteArray := if x ∈ l then l else (l.filter fun y => bl y x) ++ x :: l.filter fun y => bl x y
theorem putN_has {l : List ByteArray} {x : ByteArray} (h : x ∈ l) : putN l x = l := by rw [putN, if_pos h]
theorem putN_mem (l : List ByteArray) (x y : ByteArray) : y ∈ putN l x ↔ y ∈ l ∨ y = x := by
  unfold putN
  split
  · rename_i h
    exact ⟨.inl, fun h2 => h2.elim id (fun e => e ▸ h)⟩
  · rename_i h
    simp only [List.mem_append, List.mem_filter, List.mem_cons]
    constructor
    · rintro (h1 | rfl | h1)
      · exact .inl h1.1
      · exact .inr rfl
      · exact .inl h1.1
    · rintro (h1 | rfl)
      · rcases bl_or y x with h2 | h2 | h2
        · exact .inl ⟨h1, h2⟩
        · exact .inr (.inl h2)
        · exact .inr (.inr ⟨h1, h2⟩)
      · exact .inr (.inl rfl)
theorem putN_rise {l : List ByteArray} {x : ByteArray} (h : RiseN l) : RiseN (putN l x) := by
  unfold putN
  split
  · exact h
  · refine List.pairwise_append.2 ⟨List.Pairwise.filter _ h, List.pairwise_cons.2 ⟨fun y hy => (List.mem_filter.1 hy).2, List.Pairwise.filter _ h⟩, fun y hy z hz => ?_⟩
    have h1 := (List.mem_filter.1 hy).2
    rcases List.mem_cons.1 hz with rfl | hz
    · exact h1
    · exact bl_trans h1 (List.mem_filter.1 hz).2
theorem rise_one : ∀ {A B : List ByteArray}, RiseN A → RiseN B → (∀ z, z ∈ A ↔ z ∈ B) → A = B
  | [], [], _, _, _ => rfl
  | [], b :: B, _, _, h => absurd ((h b).2 List.mem_cons_self) (by simp)
  | a :: A, [], _, _, h => absurd ((h a).1 List.mem_cons_self) (by simp)
  | a :: A, b :: B, hA, hB, h => by
    have pA := List.pairwise_cons.1 hA
    have pB := List.pairwise_cons.1 hB
    have e : a = b := by
      rcases List.mem_cons.1 ((h a).1 List.mem_cons_self) with e | e
      · exact e
      · rcases List.mem_cons.1 ((h b).2 List.mem_cons_self) with e2 | e2
        · exact e2.symm
        · have h1 := pB.1 a e
          rw [bl_asymm (pA.1 b e2)] at h1
          cases h1
    subst e
    rw [rise_one pA.2 pB.2 (fun z => ?_)]
    constructor
    · intro hz
      rcases List.mem_cons.1 ((h z).1 (List.mem_cons_of_mem _ hz)) with e | e
      · subst e; have := pA.1 z hz; rw [bl_irrefl] at this; cases this
      · exact e
    · intro hz
      rcases List.mem_cons.1 ((h z).2 (List.mem_cons_of_mem _ hz)) with e | e
      · subst e; have := pB.1 z hz; rw [bl_irrefl] at this; cases this
      · exact e
/-- all at or behind k are behind x; the one ahead of k is before x: what is put at k -/
theorem putN_at {l : List ByteArray} {x : ByteArray} {n k : Nat} (hn : l.length = n) (hk : k ≤ n) (h1 : ∀ j, k ≤ j → j < n → bl x (l[j]?.getD ⟨#[]⟩) = true) (h2 : ∀ j, j < k → bl (l[j]?.getD ⟨#[]⟩) x = true) : putN l x = l.take k ++ x :: l.drop k := by
  have a1 : ∀ y ∈ l.take k, bl y x = true := by
    intro y hy
    obtain ⟨j, hj, rfl⟩ := List.getElem_of_mem hy
    have hj' : j < k ∧ j < l.length := by have h9 : j < min k l.length := by simpa using hj
                                          omega
    have := h2 j hj'.1
    rw [List.getElem_take]
    simpa [hj'.2] using this
  have a2 : ∀ y ∈ l.drop k, bl x y = true := by
    intro y hy
    obtain ⟨j, hj, rfl⟩ := List.getElem_of_mem hy
    have hj' : j < l.length - k := by simpa using hj
    have := h1 (k + j) (by omega) (by omega)
    rw [List.getElem_drop]
    simpa [show k + j < l.length by omega] using this
  have hno : ¬ x ∈ l := fun h => by
    rw [← List.take_append_drop k l] at h
    rcases List.mem_append.1 h with h | h
    · have := a1 x h; rw [bl_irrefl] at this; cases this
    · have := a2 x h; rw [bl_irrefl] at this; cases this
  rw [putN, if_neg hno]
  have e1 : (l.filter fun y => bl y x) = l.take k := by
    conv => lhs; rw [← List.take_append_drop k l]
    rw [List.filter_append, List.filter_eq_self.2 a1, List.filter_eq_nil_iff.2 (fun y hy => by rw [bl_asymm (a2 y hy)]; simp), List.append_nil]
  have e2 : (l.filter fun y => bl x y) = l.drop k := by
    conv => lhs; rw [← List.take_append_drop k l]
    rw [List.filter_append, List.filter_eq_self.2 a2, List.filter_eq_nil_iff.2 (fun y hy => by rw [bl_asymm (a1 y hy)]; simp), List.nil_append]
  rw [e1, e2]
theorem rise_lt {l : List ByteArray} {n i j : Nat} (hn : l.length = n) (hs : RiseN l) (hij : i < j) (hj : j < n) : bl (l[i]?.getD ⟨#[]⟩) (l[j]?.getD ⟨#[]⟩) = true := by
  have := List.pairwise_iff_getElem.1 hs i j (by omega) (by omega) hij
  simpa [show i < l.length by omega, show j < l.length by omega] using this
/-- the names of the stars -/
noncomputable def stK (xs : List Es) (k : Nat) : List ByteArray := ((xs.take k).map fun x => x.2.1).foldl putN []
theorem fold_rise : ∀ (l A : List ByteArray), RiseN A → RiseN (l.foldl putN A)
  | [], _, h => h
  | _ :: l, _, h => fold_rise l _ (putN_rise h)
theorem fold_mem : ∀ (l A : List ByteArray) (y : ByteArray), y ∈ l.foldl putN A ↔ y ∈ A ∨ y ∈ l
  | [], A, y => by simp
  | x :: l, A, y => by
    rw [List.foldl_cons, fold_mem l _ y, putN_mem, List.mem_cons, or_assoc]
theorem fold_len : ∀ (l A : List ByteArray), (l.foldl putN A).length ≤ A.length + l.length
  | [], A => by simp
  | x :: l, A => by
    have h1 := fold_len l (putN A x)
    have h2 : (putN A x).length ≤ A.length + 1 := by
      unfold putN
      split
      · omega
      · rename_i h
        have : (A.filter fun y => bl y x).length + (A.filter fun y => bl x y).length ≤ A.length := by
          clear h1 h
          induction A with
          | nil => simp
          | cons a A ih =>
            simp only [List.filter_cons, List.length_cons]
            cases h1 : bl a x
            · cases h2 : bl x a <;> simp <;> omega
            · rw [bl_asymm h1]; simp; omega
        simp only [List.length_append, List.length_cons]
        omega
    simp only [List.foldl_cons, List.length_cons]
    omega
theorem stK_rise (xs : List Es) (k : Nat) : RiseN (stK xs k) := fold_rise _ _ List.Pairwise.nil
theorem stK_mem (xs : List Es) (k : Nat) (y : ByteArray) : y ∈ stK xs k ↔ ∃ x ∈ xs.take k, x.2.1 = y := by
  rw [stK, fold_mem]
  simp only [List.not_mem_nil, false_or, List.mem_map]
theorem stK_len (xs : List Es) (k : Nat) : (stK xs k).length ≤ k := by
  have h := fold_len ((xs.take k).map fun x => x.2.1) []
  simp only [List.length_nil, List.length_map, List.length_take] at h
  unfold stK
  omega
theorem stK_step {xs : List Es} {n k : Nat} {x : Es} (hn : xs.length = n) (hk : k < n) (hx : xs[k]?.getD es0 = x) : stK xs (k + 1) = putN (stK xs k) x.2.1 := by
  have hk' : k < xs.length := by omega
  unfold stK
  rw [List.take_succ_eq_append_getElem hk', List.map_append, List.foldl_append]
  simp only [List.getElem?_eq_getElem hk', Option.getD_some] at hx
  rw [hx]; rfl
noncomputable def siL (xs : List Es) : List ByteArray := if okE xs then stK xs xs.length else []
def siC (xs : List Es) : Int := if okE xs then 0 else 1
theorem si_1 {xs : List Es} (h : okE xs = false) : siC xs = 1 ∧ siL xs = [] := by simp [siC, siL, h]
theorem si_0 {xs : List Es} (h : okE xs = true) : siC xs = 0 ∧ siL xs = stK xs xs.length := by simp [siC, siL, h]
theorem siL_len (xs : List Es) : (siL xs).length ≤ xs.length := by unfold siL; split; exact stK_len _ _; simp
/-- a rising list of just these names -/
theorem stK_is {xs : List Es} {L : List ByteArray} (h1 : RiseN L) (h2 : ∀ y, y ∈ L ↔ ∃ x ∈ xs, x.2.1 = y) : L = stK xs xs.length :=
  rise_one h1 (stK_rise _ _) (fun y => by rw [h2, stK_mem, List.take_length])
theorem SsL.take {w : World} {a : Option Addr} {n k : Nat} {xs : List ByteArray} (h : SsL w a n xs) (hk : k ≤ n) : SsL w a k (xs.take k) := by
  refine ⟨by rw [List.length_take, h.1]; omega, fun i hi => ?_⟩
  obtain ⟨b, off, e, h1, hc⟩ := h.2 i (by omega)
  refine ⟨b, off, e, h1, ?_⟩
  rw [List.getElem?_take_of_lt hi]
  exact hc
theorem SsL.drop {w : World} {b off n k : Nat} {xs : List ByteArray} (h : SsL w (some ⟨b, off, none⟩) n xs) (hk : k ≤ n) : SsL w (some ⟨b, off + k, none⟩) (n - k) (xs.drop k) := by
  refine ⟨by rw [List.length_drop, h.1], fun i hi => ?_⟩
  obtain ⟨b', off', e, h1, hc⟩ := h.2 (k + i) (by omega)
  cases e
  refine ⟨b, off + k, rfl, h1, ?_⟩
  rw [List.getElem?_drop, show off + k + i = off + (k + i) from by omega]
  exact hc
theorem ss_cells {w : World} {a : Addr} {n : Nat} {xs : List ByteArray} (h : SsL w (some a) n xs) : ∀ j u, (xs.map Value.string)[j]? = some u → w.cell? (a.add j) = some u := by
  intro j u hj
  have hlt : j < xs.length := by have := (List.getElem?_eq_some_iff.1 hj).1; simpa using this
  obtain ⟨b, off, e, _, hc⟩ := h.2 j (by have := h.1; omega)
  cases e
  rw [Go.WideShapes.add_plain, hc, ← hj]
  simp [hlt]
theorem ss_one (xs : List ByteArray) : ∀ u ∈ xs.map Value.string, u.oneCell' = true := by
  intro u hu
  obtain ⟨x, _, rfl⟩ := List.mem_map.1 hu
  rfl
end Go.Proofs.Ytichcfahmdlndab
