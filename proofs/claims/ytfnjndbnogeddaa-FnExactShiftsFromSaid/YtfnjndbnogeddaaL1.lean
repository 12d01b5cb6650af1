/- LinkedTo, ShiftsFrom: the rounds in plain lists. -/
import Derived.Test.YtfnjndbnogeddaaN6
namespace Go.Proofs.Ytfnjndbnogeddaa

/-- the median of numbers -/
noncomputable def medN (L : List Int) : Int := medP (Classical.choose (rising_of L))
theorem medN_of {L ys : List Int} (h : Rising ys) (hp : ys.Perm L) : medP ys = medN L := by
  obtain ⟨h1, h2⟩ := Classical.choose_spec (rising_of L)
  rw [medN, rising_one h h1 (hp.trans h2.symm)]
abbrev Kn := Nat → Option Int
/-- what an observer with a shift offers to b -/
def offO (xs : List Cm) (kn : Kn) (b a : Nat) : List Int := match kn a with
  | some s => (difL a b xs).map fun d => s - d
  | none => []
def offL (xs : List Cm) (kn : Kn) (Q : List Nat) (b : Nat) : List Int := Q.flatMap (offO xs kn b)
/-- one round: all who have no shift and are offered some get the median -/
noncomputable def rndK (xs : List Cm) (c : Nat) (kn : Kn) : Kn := fun b => match kn b with
  | some s => some s
  | none => if b < c ∧ offL xs kn (List.range c) b ≠ [] then some (medN (offL xs kn (List.range c) b)) else none
/-- who gets a shift in a round -/
def newQ (xs : List Cm) (c : Nat) (kn : Kn) : List Nat := (List.range c).filter fun b => (kn b).isNone && !(offL xs kn (List.range c) b).isEmpty
/-- nobody with a shift, but for those in Q, has differences with somebody who has none -/
def QInv (xs : List Cm) (c : Nat) (kn : Kn) (Q : List Nat) : Prop := Q.Pairwise (· < ·) ∧ (∀ a ∈ Q, a < c ∧ (kn a).isSome = true) ∧ ∀ a, a < c → a ∉ Q → ∀ b, kn b = none → offO xs kn b a = []
theorem filter_sorted : ∀ (c : Nat) (Q : List Nat), Q.Pairwise (· < ·) → (∀ a ∈ Q, a < c) → (List.range c).filter (fun a => decide (a ∈ Q)) = Q := by
  intro c
  induction c with
  | zero =>
    intro Q _ h
    cases Q with
    | nil => rfl
    | cons a Q => exact absurd (h a (List.mem_cons_self)) (by omega)
  | succ c ih =>
    intro Q hs h
    rw [List.range_succ, List.filter_append]
    by_cases hc : c ∈ Q
    · obtain ⟨A, B, rfl⟩ := List.append_of_mem hc
      have hp := List.pairwise_append.1 hs
      have hB : B = [] := by
        cases B with
        | nil => rfl
        | cons x B =>
          have h1 := (List.pairwise_cons.1 hp.2.1).1 x (List.mem_cons_self)
          have h2 := h x (by simp)
          omega
      subst hB
      have hA : ∀ a ∈ A, a < c := fun a ha => hp.2.2 a ha c (by simp)
      have e : (List.range c).filter (fun a => decide (a ∈ A ++ [c])) = (List.range c).filter (fun a => decide (a ∈ A)) := by
        apply List.filter_congr
        intro x hx
        have := List.mem_range.1 hx
        simp
        omega
      rw [e, ih A hp.1 hA]
      simp
    · have h' : ∀ a ∈ Q, a < c := fun a ha => by
        have := h a ha
        have : a ≠ c := fun e => hc (e ▸ ha)
        omega
      rw [ih Q hs h']
      simp [hc]
theorem flat_filter {α β : Type} (f : α → List β) (p : α → Bool) : ∀ (L : List α), (∀ a ∈ L, p a = false → f a = []) → (L.filter p).flatMap f = L.flatMap f
  | [], _ => rfl
  | x :: L, h => by
    have ih := flat_filter f p L (fun a ha => h a (List.mem_cons_of_mem _ ha))
    cases hp : p x
    · rw [List.filter_cons, if_neg (by simp [hp]), ih, List.flatMap_cons, h x (List.mem_cons_self) hp, List.nil_append]
    · rw [List.filter_cons, if_pos hp, List.flatMap_cons, List.flatMap_cons, ih]
/-- what the queue offers is what all offer -/
theorem offL_queue {xs : List Cm} {c : Nat} {kn : Kn} {Q : List Nat} (h : QInv xs c kn Q) {b : Nat} (hb : kn b = none) : offL xs kn Q b = offL xs kn (List.range c) b := by
  have h1 := filter_sorted c Q h.1 (fun a ha => (h.2.1 a ha).1)
  have h2 := flat_filter (offO xs kn b) (fun a => decide (a ∈ Q)) (List.range c) (fun a ha hp => h.2.2 a (List.mem_range.1 ha) (by simpa using hp) b hb)
  rw [h1] at h2
  exact h2
theorem rndK_none {xs : List Cm} {c : Nat} {kn : Kn} {b : Nat} (h : rndK xs c kn b = none) : kn b = none ∧ (b < c → offL xs kn (List.range c) b = []) := by
  unfold rndK at h
  cases hk : kn b with
  | some s => rw [hk] at h; cases h
  | none =>
    rw [hk] at h
    refine ⟨rfl, fun hb => ?_⟩
    by_cases h0 : offL xs kn (List.range c) b = []
    · exact h0
    · simp only [] at h
      rw [if_pos ⟨hb, h0⟩] at h
      cases h
theorem rndK_some {xs : List Cm} {c : Nat} {kn : Kn} {b : Nat} {s : Int} (h : kn b = some s) : rndK xs c kn b = some s := by unfold rndK; rw [h]
theorem offO_out {c : Int} {xs : List Cm} (h : xs.all (cmB c) = true) (kn : Kn) (b a : Nat) (hb : ¬ (b : Int) < c) : offO xs kn b a = [] := by
  have hd : difL a b xs = [] := by
    rw [difL, List.map_eq_nil_iff, List.filter_eq_nil_iff]
    intro x hx hi
    have hm := bothL_mem h x hx
    obtain ⟨x0, x1, x2⟩ := x
    obtain ⟨_, _, _, h4, _⟩ := cm_bd hm
    simp only [isAB, Bool.and_eq_true, beq_iff_eq] at hi
    omega
  unfold offO
  cases kn a with
  | none => rfl
  | some s => simp only [hd, List.map_nil]
/-- behind a round the invariant holds of the new queue -/
theorem QInv.next {cc : Int} {xs : List Cm} {c : Nat} {kn : Kn} (hx : xs.all (cmB cc) = true) (hc : cc = c) : QInv xs c (rndK xs c kn) (newQ xs c kn) := by
  refine ⟨List.Pairwise.filter _ List.pairwise_lt_range, fun a ha => ?_, fun a ha hq b hb => ?_⟩
  · simp only [newQ, List.mem_filter, List.mem_range, Bool.and_eq_true, Option.isNone_iff_eq_none, Bool.not_eq_true', List.isEmpty_eq_false_iff] at ha
    refine ⟨ha.1, ?_⟩
    unfold rndK
    rw [ha.2.1]
    simp only []
    rw [if_pos ⟨ha.1, ha.2.2⟩]
    rfl
  · by_cases hbc : b < c
    · obtain ⟨_, h0⟩ := rndK_none hb
      have h1 := h0 hbc
      have hall : ∀ a ∈ List.range c, offO xs kn b a = [] := by
        rw [offL, List.flatMap_eq_nil_iff] at h1
        exact h1
      have h2 := hall a (List.mem_range.2 ha)
      -- the shift of a is as it was
      cases hk : kn a with
      | some s =>
        unfold offO at h2 ⊢
        rw [rndK_some hk]
        rw [hk] at h2
        exact h2
      | none =>
        have hr : rndK xs c kn a = none := by
          cases hr : rndK xs c kn a with
          | none => rfl
          | some s =>
            refine absurd ?_ hq
            simp only [newQ, List.mem_filter, List.mem_range, Bool.and_eq_true, Option.isNone_iff_eq_none, Bool.not_eq_true', List.isEmpty_eq_false_iff]
            refine ⟨ha, hk, fun h0 => ?_⟩
            unfold rndK at hr
            rw [hk] at hr
            simp only [] at hr
            rw [if_neg (by simp [h0])] at hr
            cases hr
        unfold offO
        rw [hr]
    · exact offO_out hx _ b a (by omega)
/-- the rounds, one behind the other -/
noncomputable def itK (xs : List Cm) (c : Nat) (kn : Kn) : Nat → Kn
  | 0 => kn
  | i + 1 => rndK xs c (itK xs c kn i)
theorem newQ_nil {xs : List Cm} {c : Nat} {kn : Kn} (h : newQ xs c kn = []) : rndK xs c kn = kn := by
  funext b
  unfold rndK
  cases hk : kn b with
  | some s => rfl
  | none =>
    simp only []
    rw [if_neg]
    rintro ⟨hb, h0⟩
    have : b ∈ newQ xs c kn := by
      simp only [newQ, List.mem_filter, List.mem_range, Bool.and_eq_true, Option.isNone_iff_eq_none, Bool.not_eq_true', List.isEmpty_eq_false_iff]
      exact ⟨hb, hk, h0⟩
    rw [h] at this
    cases this
theorem itK_stays {xs : List Cm} {c : Nat} {kn : Kn} {i : Nat} (h : rndK xs c (itK xs c kn i) = itK xs c kn i) : ∀ j, itK xs c kn (i + j) = itK xs c kn i
  | 0 => rfl
  | j + 1 => by
    show rndK xs c (itK xs c kn (i + j)) = _
    rw [itK_stays h j, h]
/-- where the rounds end, they end alike -/
theorem itK_one {xs : List Cm} {c : Nat} {kn : Kn} {i j : Nat} (hi : newQ xs c (itK xs c kn i) = []) (hj : newQ xs c (itK xs c kn j) = []) : itK xs c kn i = itK xs c kn j := by
  rcases Nat.le_total i j with h | h
  · obtain ⟨d, rfl⟩ := Nat.exists_eq_add_of_le h
    exact (itK_stays (newQ_nil hi) d).symm
  · obtain ⟨d, rfl⟩ := Nat.exists_eq_add_of_le h
    exact itK_stays (newQ_nil hj) d
def knC (c : Nat) (kn : Kn) : Nat := ((List.range c).filter fun b => (kn b).isSome).length
end Go.Proofs.Ytfnjndbnogeddaa
