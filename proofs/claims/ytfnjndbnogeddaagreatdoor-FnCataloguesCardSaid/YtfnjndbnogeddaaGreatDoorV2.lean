/- AddStar in plain lists: the model's place, the program's sorting, one list. -/
import Derived.Test.YtfnjndbnogeddaaGreatDoorVF
import Derived.Test.YtfnjndbnogeddaaGreatDoorSB
namespace Go.Proofs.YtfnjndbnogeddaaGreatDoor
open Go.ChangeShapes Go.WideShapes Go.ChangeAt Go.RowKit Go.Deep

abbrev nmD (y : St) : List UInt8 := y.1.data.toList
def addL (xs : List St) (x : St) : List St := xs.filter (fun y => decide (nmD y < nmD x)) ++ x :: xs.filter (fun y => decide (nmD x < nmD y))
theorem okS_pair {xs : List St} (h : okS xs = true) : xs.Pairwise (fun a b => nmD a < nmD b) := by
  obtain ⟨_, hall⟩ := okS_parts rfl h
  rw [List.pairwise_iff_getElem]
  intro i j hi hj hij
  have := nm_lt hall (j - i - 1) i (by omega)
  rw [show i + (j - i - 1) + 1 = j from by omega] at this
  simpa [nmL, hi, hj, ByteArray.toList_eq] using this
theorem none_ne {xs : List St} {nm : ByteArray} (h : ¬ findS xs nm < xs.length) : ∀ y ∈ xs, nmD y ≠ nm.data.toList := by
  intro y hy
  obtain ⟨j, hj, rfl⟩ := List.getElem_of_mem hy
  have := findS_min (xs := xs) (nm := nm) j (by omega)
  simpa [nmL, hj, ByteArray.toList_eq] using this
theorem lt_or {a b : List UInt8} (h : a ≠ b) : a < b ∨ b < a := by
  by_cases h1 : a < b
  · exact .inl h1
  · by_cases h2 : b < a
    · exact .inr h2
    · exact absurd (List.le_antisymm (List.not_lt.1 h2) (List.not_lt.1 h1)) h
theorem addL_len {xs : List St} {x : St} (h : ∀ y ∈ xs, nmD y ≠ nmD x) : (addL xs x).length = xs.length + 1 := by
  induction xs with
  | nil => rfl
  | cons y xs ih =>
    have hy := h y (by simp)
    have ih' := ih (fun z hz => h z (by simp [hz]))
    simp only [addL, List.length_append, List.length_cons] at ih' ⊢
    rcases lt_or hy with h1 | h1
    · have h2 : ¬ nmD x < nmD y := fun h2 => List.lt_irrefl _ (List.lt_trans h1 h2)
      simp only [List.filter_cons, h1, h2, decide_true, decide_false, if_true, Bool.false_eq_true, if_false, List.length_cons]
      omega
    · have h2 : ¬ nmD y < nmD x := fun h2 => List.lt_irrefl _ (List.lt_trans h1 h2)
      simp only [List.filter_cons, h1, h2, decide_true, decide_false, if_true, Bool.false_eq_true, if_false, List.length_cons]
      omega
theorem addL_perm {xs : List St} {x : St} (h : ∀ y ∈ xs, nmD y ≠ nmD x) : (addL xs x).Perm (x :: xs) := by
  unfold addL
  refine List.perm_middle.trans (List.Perm.cons _ ?_)
  have e : xs.filter (fun y => decide (nmD x < nmD y)) = xs.filter (fun y => !decide (nmD y < nmD x)) := List.filter_congr fun y hy => by
    rcases lt_or (h y hy) with h1 | h1
    · have h2 : ¬ nmD x < nmD y := fun h2 => List.lt_irrefl _ (List.lt_trans h1 h2)
      simp [h1, h2]
    · have h2 : ¬ nmD y < nmD x := fun h2 => List.lt_irrefl _ (List.lt_trans h1 h2)
      simp [h1, h2]
  rw [e]
  exact List.filter_append_perm _ _
theorem addL_pair {xs : List St} {x : St} (hp : xs.Pairwise (fun a b => nmD a < nmD b)) : (addL xs x).Pairwise (fun a b => nmD a < nmD b) := by
  unfold addL
  rw [List.pairwise_append]
  refine ⟨hp.filter _, List.pairwise_cons.2 ⟨fun b hb => ?_, hp.filter _⟩, fun a ha b hb => ?_⟩
  · simp at hb; exact hb.2
  · simp at ha hb
    rcases hb with rfl | hb
    · exact ha.2
    · exact List.lt_trans ha.2 hb.2
theorem pair_one : ∀ {l l' : List St}, l.Pairwise (fun a b => nmD a < nmD b) → l'.Pairwise (fun a b => ¬ nmD b < nmD a) → l'.Perm l → l' = l
  | [], l', _, _, hp => List.perm_nil.1 hp
  | a :: l, [], _, _, hp => by have := hp.length_eq; simp at this
  | a :: l, b :: l', h, h', hp => by
    have hh := List.pairwise_cons.1 h
    have hh' := List.pairwise_cons.1 h'
    have hab : b = a := by
      have h1 : a ∈ b :: l' := hp.mem_iff.2 (by simp)
      have h2 : b ∈ a :: l := hp.mem_iff.1 (by simp)
      rcases List.mem_cons.1 h2 with e | e
      · exact e
      · rcases List.mem_cons.1 h1 with e2 | e2
        · exact e2.symm
        · exact absurd (hh.1 b e) (hh'.1 a e2)
    subst hab
    rw [pair_one hh.2 hh'.2 (List.perm_cons b |>.1 hp)]
/-- what the sort leaves is the model's list -/
theorem sorted_addL {xs ys : List St} {x : St} (hok : okS xs = true) (hn : ¬ findS xs x.1 < xs.length) (hp : ys.Perm (xs ++ [x])) (hs : ys.Pairwise (fun a b => ¬ nmD b < nmD a)) : ys = addL xs x :=
  pair_one (addL_pair (okS_pair hok)) hs (hp.trans ((List.perm_append_singleton x xs).trans (addL_perm (none_ne hn)).symm))
/-- where the model puts the star -/
theorem put_addL {xs : List St} {x : St} {p : Nat} (hok : okS xs = true) (hn : ¬ findS xs x.1 < xs.length) (hp : p ≤ xs.length) (h1 : p = 0 ∨ ¬ nmD x < nmD (xs[p - 1]?.getD st0)) (h2 : ∀ j, p ≤ j → j < xs.length → nmD x < nmD (xs[j]?.getD st0)) :
    xs.take p ++ x :: xs.drop p = addL xs x := by
  have hpw := okS_pair hok
  have hne := none_ne hn
  have ht : ∀ y ∈ xs.take p, nmD y < nmD x := fun y hy => by
    obtain ⟨j, hj, rfl⟩ := List.getElem_of_mem hy
    rw [List.length_take] at hj
    rw [List.getElem_take]
    rcases h1 with h1 | h1
    · omega
    · rw [List.getElem?_eq_getElem (by omega), Option.getD_some] at h1
      have hl : nmD (xs[p - 1]'(by omega)) < nmD x := by
        rcases lt_or (hne _ (List.getElem_mem (show p - 1 < xs.length by omega))) with h3 | h3
        · exact h3
        · exact absurd h3 h1
      by_cases e : j = p - 1
      · subst e; exact hl
      · exact List.lt_trans (List.pairwise_iff_getElem.1 hpw j (p - 1) (by omega) (by omega) (by omega)) hl
  have hd : ∀ y ∈ xs.drop p, nmD x < nmD y := fun y hy => by
    obtain ⟨j, hj, rfl⟩ := List.getElem_of_mem hy
    rw [List.length_drop] at hj
    rw [List.getElem_drop]
    have := h2 (p + j) (by omega) (by omega)
    rwa [List.getElem?_eq_getElem (by omega), Option.getD_some] at this
  have e1 : xs.filter (fun y => decide (nmD y < nmD x)) = xs.take p := by
    conv => lhs; rw [← List.take_append_drop p xs]
    rw [List.filter_append, List.filter_eq_self.2 (fun y hy => by simpa using ht y hy), List.filter_eq_nil_iff.2 (fun y hy => by
      have := hd y hy
      simp only [decide_eq_true_eq]
      exact fun h3 => List.lt_irrefl _ (List.lt_trans this h3)), List.append_nil]
  have e2 : xs.filter (fun y => decide (nmD x < nmD y)) = xs.drop p := by
    conv => lhs; rw [← List.take_append_drop p xs]
    have a1 : (xs.take p).filter (fun y => decide (nmD x < nmD y)) = [] := List.filter_eq_nil_iff.2 fun y hy => by
      have := ht y hy
      simp only [decide_eq_true_eq]
      exact fun h3 => List.lt_irrefl _ (List.lt_trans this h3)
    have a2 : (xs.drop p).filter (fun y => decide (nmD x < nmD y)) = xs.drop p := List.filter_eq_self.2 fun y hy => by simpa using hd y hy
    rw [List.filter_append, a1, a2, List.nil_append]
  unfold addL
  rw [e1, e2]
def addC (xs : List St) (x : St) : Int := if okS xs then (if starB x then (if findS xs x.1 < xs.length then 4 else if xs.length < 60 then 0 else 5) else 2) else 1
/-- what AddStar hands back: a slice of the call's own, or nil and a code -/
def Added (B T : Nat) (xs : List St) (x : St) (w' : World) (e : Ending) : Prop :=
  (addC xs x = 0 ∧ ∃ g c, e = .returned (.tuple #[.slice (some ⟨g, 0, none⟩) (addL xs x).length c, .int .i64 0]) ∧ w'.ownsRow B T 5 (.slice (some ⟨g, 0, none⟩) (addL xs x).length c) (addL xs x).length (flatS (addL xs x))) ∨
  (addC xs x ≠ 0 ∧ e = .returned (.tuple #[.slice none 0 0, .int .i64 (addC xs x)]))
theorem addC_ok {xs : List St} {x : St} (h : okS xs = false) : addC xs x = 1 := by simp [addC, h]
theorem addC_star {xs : List St} {x : St} (h : okS xs = true) (h2 : starB x = false) : addC xs x = 2 := by simp [addC, h, h2]
theorem addC_has {xs : List St} {x : St} (h : okS xs = true) (h2 : starB x = true) (h3 : findS xs x.1 < xs.length) : addC xs x = 4 := by simp [addC, h, h2, h3]
theorem addC_full {xs : List St} {x : St} (h : okS xs = true) (h2 : starB x = true) (h3 : ¬ findS xs x.1 < xs.length) (h4 : ¬ xs.length < 60) : addC xs x = 5 := by
  rw [addC, if_pos h, if_pos h2, if_neg h3, if_neg h4]
theorem addC_zero {xs : List St} {x : St} (h : okS xs = true) (h2 : starB x = true) (h3 : ¬ findS xs x.1 < xs.length) (h4 : xs.length < 60) : addC xs x = 0 := by
  rw [addC, if_pos h, if_pos h2, if_neg h3, if_pos h4]
end Go.Proofs.YtfnjndbnogeddaaGreatDoor
