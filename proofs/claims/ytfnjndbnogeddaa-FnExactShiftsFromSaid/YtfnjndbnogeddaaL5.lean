/- The program's linkedShifts in plain lists: what lies under each key while a round is under way; the sorted keys; the table while the medians are taken. -/
import Derived.Test.YtfnjndbnogeddaaL2
namespace Go.Proofs.Ytfnjndbnogeddaa

/-- the differences against a, as the program groups them -/
def agL (ys : List Cm) (a : Int) : List Cm := ys.filter fun x => x.1 == a
theorem agL_snoc (ys : List Cm) (x : Cm) (a : Int) : agL (ys ++ [x]) a = if x.1 = a then agL ys a ++ [x] else agL ys a := by
  unfold agL
  rw [List.filter_append]
  by_cases h : x.1 = a <;> simp [h]
theorem difL_ag (a b : Int) (xs : List Cm) : difL a b xs = ((agL (bothL xs) a).filter fun x => x.2.1 == b).map fun x => x.2.2 := by
  unfold difL agL
  rw [List.filter_filter]
  congr 1
  apply List.filter_congr
  intro x _
  unfold isAB
  rw [Bool.and_comm]
theorem agL_mem {ys : List Cm} {a : Int} {x : Cm} (h : x ∈ agL ys a) : x ∈ ys ∧ x.1 = a := by
  unfold agL at h
  rw [List.mem_filter] at h
  exact ⟨h.1, by simpa using h.2⟩
/-- what lies under b: Q is through, of a (its shift s) the estimates ys -/
def offP (xs : List Cm) (kn : Kn) (Q : List Nat) (s : Int) (ys : List Cm) (b : Nat) : List Int := match kn b with
  | some _ => []
  | none => offL xs kn Q b ++ (ys.filter fun x => x.2.1 == (b : Int)).map fun x => s - x.2.2
theorem offP_nil (xs : List Cm) (kn : Kn) (Q : List Nat) (s : Int) {b : Nat} (hb : kn b = none) : offP xs kn Q s [] b = offL xs kn Q b := by unfold offP; rw [hb]; simp
theorem offP_known {xs : List Cm} {kn : Kn} {Q : List Nat} {s : Int} {ys : List Cm} {y : Cm} {b0 : Nat} (hy : y.2.1 = (b0 : Int)) (hk : (kn b0).isSome = true) (b : Nat) : offP xs kn Q s (ys ++ [y]) b = offP xs kn Q s ys b := by
  unfold offP
  cases hb : kn b with
  | some _ => rfl
  | none =>
    have hne : b0 ≠ b := fun e => by rw [e, hb] at hk; cases hk
    have h2 : (y.2.1 == (b : Int)) = false := by rw [hy]; simp; omega
    simp [List.filter_append, h2]
theorem offP_other {xs : List Cm} {kn : Kn} {Q : List Nat} {s : Int} {ys : List Cm} {y : Cm} {b0 b : Nat} (hy : y.2.1 = (b0 : Int)) (hne : b ≠ b0) : offP xs kn Q s (ys ++ [y]) b = offP xs kn Q s ys b := by
  unfold offP
  cases hb : kn b with
  | some _ => rfl
  | none =>
    have h2 : (y.2.1 == (b : Int)) = false := by rw [hy]; simp; omega
    simp [List.filter_append, h2]
theorem offP_new {xs : List Cm} {kn : Kn} {Q : List Nat} {s : Int} {ys : List Cm} {y : Cm} {b0 : Nat} (hy : y.2.1 = (b0 : Int)) (hk : kn b0 = none) : offP xs kn Q s (ys ++ [y]) b0 = offP xs kn Q s ys b0 ++ [s - y.2.2] := by
  unfold offP
  rw [hk]
  have h2 : (y.2.1 == (b0 : Int)) = true := by rw [hy]; simp
  simp [List.filter_append, h2]
theorem offL_snoc (xs : List Cm) (kn : Kn) (Q : List Nat) (a b : Nat) : offL xs kn (Q ++ [a]) b = offL xs kn Q b ++ offO xs kn b a := by simp [offL]
theorem offP_end {xs : List Cm} {kn : Kn} {Q : List Nat} {a : Nat} {s : Int} (ha : kn a = some s) (t : Int) (b : Nat) : offP xs kn Q s (agL (bothL xs) a) b = offP xs kn (Q ++ [a]) t [] b := by
  unfold offP
  cases hb : kn b with
  | some _ => rfl
  | none =>
    have e : offO xs kn b a = ((agL (bothL xs) a).filter fun x => x.2.1 == (b : Int)).map fun x => s - x.2.2 := by
      unfold offO
      rw [ha]
      simp only [difL_ag, List.map_map]
      rfl
    simp only [offL_snoc, e, List.filter_nil, List.map_nil, List.append_nil]
/-- a strictly rising list of the new ones is newQ -/
theorem queue_is {xs : List Cm} {c : Nat} {kn : Kn} {L : List Int} (hs : L.Pairwise (· < ·)) (hm : ∀ z, z ∈ L ↔ ∃ b : Nat, b ∈ newQ xs c kn ∧ z = (b : Int)) : L = (newQ xs c kn).map fun b : Nat => (b : Int) := by
  have h2 : ((newQ xs c kn).map fun b : Nat => (b : Int)).Pairwise (· < ·) := by
    rw [List.pairwise_map]
    have : (newQ xs c kn).Pairwise (· < ·) := List.Pairwise.filter _ List.pairwise_lt_range
    exact this.imp (fun h => by omega)
  have hone : ∀ (A B : List Int), A.Pairwise (· < ·) → B.Pairwise (· < ·) → (∀ z, z ∈ A ↔ z ∈ B) → A = B := by
    intro A
    induction A with
    | nil =>
      intro B _ _ h
      cases B with
      | nil => rfl
      | cons b B => exact absurd ((h b).2 List.mem_cons_self) (by simp)
    | cons a A ih =>
      intro B hA hB h
      cases B with
      | nil => exact absurd ((h a).1 List.mem_cons_self) (by simp)
      | cons b B =>
        have pA := List.pairwise_cons.1 hA
        have pB := List.pairwise_cons.1 hB
        have e : a = b := by
          rcases List.mem_cons.1 ((h a).1 List.mem_cons_self) with e | e
          · exact e
          · rcases List.mem_cons.1 ((h b).2 List.mem_cons_self) with e2 | e2
            · exact e2.symm
            · have := pB.1 a e; have := pA.1 b e2; omega
        subst e
        rw [ih B pA.2 pB.2 (fun z => ?_)]
        constructor
        · intro hz
          rcases List.mem_cons.1 ((h z).1 (List.mem_cons_of_mem _ hz)) with e | e
          · have := pA.1 z hz; omega
          · exact e
        · intro hz
          rcases List.mem_cons.1 ((h z).2 (List.mem_cons_of_mem _ hz)) with e | e
          · have := pB.1 z hz; omega
          · exact e
  refine hone _ _ hs h2 (fun z => ?_)
  rw [hm, List.mem_map]
  constructor
  · rintro ⟨b, h1, h3⟩; exact ⟨b, h1, h3.symm⟩
  · rintro ⟨b, h1, h3⟩; exact ⟨b, h1, h3.symm⟩
/-- the table when the first k of the new queue have their medians -/
noncomputable def medK (xs : List Cm) (c : Nat) (kn : Kn) (k : Nat) : Kn := fun b => if b ∈ (newQ xs c kn).take k then rndK xs c kn b else kn b
theorem medK_zero (xs : List Cm) (c : Nat) (kn : Kn) : medK xs c kn 0 = kn := by funext b; simp [medK]
theorem medK_end {xs : List Cm} {c k : Nat} {kn : Kn} (hk : (newQ xs c kn).length ≤ k) : medK xs c kn k = rndK xs c kn := by
  funext b
  unfold medK
  rw [List.take_of_length_le hk]
  by_cases h : b ∈ newQ xs c kn
  · rw [if_pos h]
  · rw [if_neg h]
    cases hb : kn b with
    | some s => exact (rndK_some hb).symm
    | none =>
      unfold rndK
      rw [hb]
      simp only []
      rw [if_neg]
      rintro ⟨h1, h2⟩
      refine h ?_
      simp only [newQ, List.mem_filter, List.mem_range, Bool.and_eq_true, Option.isNone_iff_eq_none, Bool.not_eq_true', List.isEmpty_eq_false_iff]
      exact ⟨h1, hb, h2⟩
theorem medK_step {xs : List Cm} {c k : Nat} {kn : Kn} {a : Nat} (hk : (newQ xs c kn)[k]? = some a) (b : Nat) : medK xs c kn (k + 1) b = if b = a then rndK xs c kn a else medK xs c kn k b := by
  unfold medK
  rw [List.take_add_one, hk]
  by_cases e : b = a
  · subst e; simp
  · simp [e]
end Go.Proofs.Ytfnjndbnogeddaa
