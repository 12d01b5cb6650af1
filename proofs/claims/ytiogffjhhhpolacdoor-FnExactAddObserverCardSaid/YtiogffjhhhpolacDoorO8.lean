/- AddObserver in plain lists: the model's place, the program's sorting, one list. -/
import Derived.Test.YtiogffjhhhpolacDoorO5
namespace Go.Proofs.YtiogffjhhhpolacDoor
open Go.ChangeShapes Go.WideShapes Go.ChangeAt Go.RowKit Go.Deep

abbrev nmDO (y : Ob) : List UInt8 := y.1.data.toList
def addO (xs : List Ob) (x : Ob) : List Ob := xs.filter (fun y => decide (nmDO y < nmDO x)) ++ x :: xs.filter (fun y => decide (nmDO x < nmDO y))
theorem okO_pair {xs : List Ob} (h : okO xs = true) : xs.Pairwise (fun a b => nmDO a < nmDO b) := by
  obtain ⟨_, hall⟩ := okO_parts rfl h
  rw [List.pairwise_iff_getElem]
  intro i j hi hj hij
  have := nmO_lt hall (j - i - 1) i (by omega)
  rw [show i + (j - i - 1) + 1 = j from by omega] at this
  simpa [nmLO, hi, hj, ByteArray.toList_eq] using this
theorem noneO_ne {xs : List Ob} {nm : ByteArray} (h : ¬ findO xs nm < xs.length) : ∀ y ∈ xs, nmDO y ≠ nm.data.toList := by
  intro y hy
  obtain ⟨j, hj, rfl⟩ := List.getElem_of_mem hy
  have := findO_min (xs := xs) (nm := nm) j (by omega)
  simpa [nmLO, hj, ByteArray.toList_eq] using this
theorem ltO_or {a b : List UInt8} (h : a ≠ b) : a < b ∨ b < a := by
  by_cases h1 : a < b
  · exact .inl h1
  · by_cases h2 : b < a
    · exact .inr h2
    · exact absurd (List.le_antisymm (List.not_lt.1 h2) (List.not_lt.1 h1)) h
theorem addO_len {xs : List Ob} {x : Ob} (h : ∀ y ∈ xs, nmDO y ≠ nmDO x) : (addO xs x).length = xs.length + 1 := by
  induction xs with
  | nil => rfl
  | cons y xs ih =>
    have hy := h y (by simp)
    have ih' := ih (fun z hz => h z (by simp [hz]))
    simp only [addO, List.length_append, List.length_cons] at ih' ⊢
    rcases ltO_or hy with h1 | h1
    · have h2 : ¬ nmDO x < nmDO y := fun h2 => List.lt_irrefl _ (List.lt_trans h1 h2)
      simp only [List.filter_cons, h1, h2, decide_true, decide_false, if_true, Bool.false_eq_true, if_false, List.length_cons]
      omega
    · have h2 : ¬ nmDO y < nmDO x := fun h2 => List.lt_irrefl _ (List.lt_trans h1 h2)
      simp only [List.filter_cons, h1, h2, decide_true, decide_false, if_true, Bool.false_eq_true, if_false, List.length_cons]
      omega
theorem addO_perm {xs : List Ob} {x : Ob} (h : ∀ y ∈ xs, nmDO y ≠ nmDO x) : (addO xs x).Perm (x :: xs) := by
  unfold addO
  refine List.perm_middle.trans (List.Perm.cons _ ?_)
  have e : xs.filter (fun y => decide (nmDO x < nmDO y)) = xs.filter (fun y => !decide (nmDO y < nmDO x)) := List.filter_congr fun y hy => by
    rcases ltO_or (h y hy) with h1 | h1
    · have h2 : ¬ nmDO x < nmDO y := fun h2 => List.lt_irrefl _ (List.lt_trans h1 h2)
      simp [h1, h2]
    · have h2 : ¬ nmDO y < nmDO x := fun h2 => List.lt_irrefl _ (List.lt_trans h1 h2)
      simp [h1, h2]
  rw [e]
  exact List.filter_append_perm _ _
theorem addO_pair {xs : List Ob} {x : Ob} (hp : xs.Pairwise (fun a b => nmDO a < nmDO b)) : (addO xs x).Pairwise (fun a b => nmDO a < nmDO b) := by
  unfold addO
  rw [List.pairwise_append]
  refine ⟨hp.filter _, List.pairwise_cons.2 ⟨fun b hb => ?_, hp.filter _⟩, fun a ha b hb => ?_⟩
  · simp at hb; exact hb.2
  · simp at ha hb
    rcases hb with rfl | hb
    · exact ha.2
    · exact List.lt_trans ha.2 hb.2
theorem pairO_one : ∀ {l l' : List Ob}, l.Pairwise (fun a b => nmDO a < nmDO b) → l'.Pairwise (fun a b => ¬ nmDO b < nmDO a) → l'.Perm l → l' = l
  | [], l', _, _, hp => List.perm_nil.1 hp
  | a :: l, [], _, _, hp => by have := hp.length_eq; simp at this
  | a :: l, b :: l', h, h', hp => by
    have hh := List.pairwise_cons.1 h
    have hh' := List.pairwise_cons.1 h'
    have hab : b = a := by
      have h1 : a ∈ b :: l' := hp.mem_iff.2 (by simp)
      have h2 : b ∈ a :: l := hp.mem_iff.1 (by simp)
      rcases List.mem_cons.1 h2 with e | e
      · exact e
      · rcases List.mem_cons.1 h1 with e2 | e2
        · exact e2.symm
        · exact absurd (hh.1 b e) (hh'.1 a e2)
    subst hab
    rw [pairO_one hh.2 hh'.2 (List.perm_cons b |>.1 hp)]
/-- what the sort leaves is the model's list -/
theorem sorted_addO {xs ys : List Ob} {x : Ob} (hok : okO xs = true) (hn : ¬ findO xs x.1 < xs.length) (hp : ys.Perm (xs ++ [x])) (hs : ys.Pairwise (fun a b => ¬ nmDO b < nmDO a)) : ys = addO xs x :=
  pairO_one (addO_pair (okO_pair hok)) hs (hp.trans ((List.perm_append_singleton x xs).trans (addO_perm (noneO_ne hn)).symm))
/-- where the model puts the star -/
theorem put_addO {xs : List Ob} {x : Ob} {p : Nat} (hok : okO xs = true) (hn : ¬ findO xs x.1 < xs.length) (hp : p ≤ xs.length) (h1 : p = 0 ∨ ¬ nmDO x < nmDO (xs[p - 1]?.getD ob0)) (h2 : ∀ j, p ≤ j → j < xs.length → nmDO x < nmDO (xs[j]?.getD ob0)) :
    xs.take p ++ x :: xs.drop p = addO xs x := by
  have hpw := okO_pair hok
  have hne := noneO_ne hn
  have ht : ∀ y ∈ xs.take p, nmDO y < nmDO x := fun y hy => by
    obtain ⟨j, hj, rfl⟩ := List.getElem_of_mem hy
    rw [List.length_take] at hj
    rw [List.getElem_take]
    rcases h1 with h1 | h1
    · omega
    · rw [List.getElem?_eq_getElem (by omega), Option.getD_some] at h1
      have hl : nmDO (xs[p - 1]'(by omega)) < nmDO x := by
        rcases ltO_or (hne _ (List.getElem_mem (show p - 1 < xs.length by omega))) with h3 | h3
        · exact h3
        · exact absurd h3 h1
      by_cases e : j = p - 1
      · subst e; exact hl
      · exact List.lt_trans (List.pairwise_iff_getElem.1 hpw j (p - 1) (by omega) (by omega) (by omega)) hl
  have hd : ∀ y ∈ xs.drop p, nmDO x < nmDO y := fun y hy => by
    obtain ⟨j, hj, rfl⟩ := List.getElem_of_mem hy
    rw [List.length_drop] at hj
    rw [List.getElem_drop]
    have := h2 (p + j) (by omega) (by omega)
    rwa [List.getElem?_eq_getElem (by omega), Option.getD_some] at this
  have e1 : xs.filter (fun y => decide (nmDO y < nmDO x)) = xs.take p := by
    conv => lhs; rw [← List.take_append_drop p xs]
    rw [List.filter_append, List.filter_eq_self.2 (fun y hy => by simpa using ht y hy), List.filter_eq_nil_iff.2 (fun y hy => by
      have := hd y hy
      simp only [decide_eq_true_eq]
      exact fun h3 => List.lt_irrefl _ (List.lt_trans this h3)), List.append_nil]
  have e2 : xs.filter (fun y => decide (nmDO x < nmDO y)) = xs.drop p := by
    conv => lhs; rw [← List.take_append_drop p xs]
    have a1 : (xs.take p).filter (fun y => decide (nmDO x < nmDO y)) = [] := List.filter_eq_nil_iff.2 fun y hy => by
      have := ht y hy
      simp only [decide_eq_true_eq]
      exact fun h3 => List.lt_irrefl _ (List.lt_trans this h3)
    have a2 : (xs.drop p).filter (fun y => decide (nmDO x < nmDO y)) = xs.drop p := List.filter_eq_self.2 fun y hy => by simpa using hd y hy
    rw [List.filter_append, a1, a2, List.nil_append]
  unfold addO
  rw [e1, e2]
def addOC (xs : List Ob) (x : Ob) : Int := if okO xs then (if obB x then (if findO xs x.1 < xs.length then 4 else if xs.length < 40 then 0 else 5) else 2) else 1
/-- what AddObserver hands back: a slice of the call's own, or nil and a code -/
def AddedO (B T : Nat) (xs : List Ob) (x : Ob) (w' : World) (e : Ending) : Prop :=
  (addOC xs x = 0 ∧ ∃ g c, e = .returned (.tuple #[.slice (some ⟨g, 0, none⟩) (addO xs x).length c, .int .i64 0]) ∧ w'.ownsRow B T 2 (.slice (some ⟨g, 0, none⟩) (addO xs x).length c) (addO xs x).length (flatOb (addO xs x))) ∨
  (addOC xs x ≠ 0 ∧ e = .returned (.tuple #[.slice none 0 0, .int .i64 (addOC xs x)]))
theorem addOC_ok {xs : List Ob} {x : Ob} (h : okO xs = false) : addOC xs x = 1 := by simp [addOC, h]
theorem addOC_star {xs : List Ob} {x : Ob} (h : okO xs = true) (h2 : obB x = false) : addOC xs x = 2 := by simp [addOC, h, h2]
theorem addOC_has {xs : List Ob} {x : Ob} (h : okO xs = true) (h2 : obB x = true) (h3 : findO xs x.1 < xs.length) : addOC xs x = 4 := by simp [addOC, h, h2, h3]
theorem addOC_full {xs : List Ob} {x : Ob} (h : okO xs = true) (h2 : obB x = true) (h3 : ¬ findO xs x.1 < xs.length) (h4 : ¬ xs.length < 40) : addOC xs x = 5 := by
  rw [addOC, if_pos h, if_pos h2, if_neg h3, if_neg h4]
theorem addOC_zero {xs : List Ob} {x : Ob} (h : okO xs = true) (h2 : obB x = true) (h3 : ¬ findO xs x.1 < xs.length) (h4 : xs.length < 40) : addOC xs x = 0 := by
  rw [addOC, if_pos h, if_pos h2, if_neg h3, if_pos h4]
end Go.Proofs.YtiogffjhhhpolacDoor
