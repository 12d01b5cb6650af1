/- linkedShifts' rounds in plain words: what the new queue is, what the queue's offers are, the way from a table to the next. -/
import Derived.Test.YtfnjndbnogeddaaLQ
import Derived.Test.YtfnjndbnogeddaaL4
namespace Go.Proofs.Ytfnjndbnogeddaa
open Go.ChangeShapes Go.WideShapes Go.ChangeAt Go.RowKit Go.Deep Go.Maps

theorem lst_one (w : World) (x : Int) (T : TypeId) : Lst (w.alloc (.cells #[.int .i64 x] T)) (some ⟨w.heap.size, 0, none⟩) 1 [x] :=
  ⟨rfl, fun i hi => by
    obtain rfl : i = 0 := by omega
    exact ⟨_, _, rfl, by simp, by rw [World.cell?_alloc_new]; rfl⟩⟩
theorem qinv0 {xs : List Cm} {c first : Nat} (hf : first < c) : QInv xs c (kn0 first) [first] :=
  ⟨by simp, fun a ha => by
    rw [List.mem_singleton.1 ha]
    exact ⟨hf, by simp [kn0]⟩, fun a _ ha b _ => by
    have : kn0 first a = none := by unfold kn0; rw [if_neg (by simpa using ha)]
    unfold offO; rw [this]⟩
theorem bnd0 (first : Nat) : BndK 0 (kn0 first) := fun b s e => by unfold kn0 at e; split at e <;> cases e; omega
theorem knC0 {c first : Nat} (hf : first < c) : 1 ≤ knC c (kn0 first) := by
  have : first ∈ (List.range c).filter fun b => (kn0 first b).isSome := List.mem_filter.2 ⟨List.mem_range.2 hf, by simp [kn0]⟩
  exact List.length_pos_of_mem this
/-- where the queue is empty, nothing new is offered -/
theorem queue_end {xs : List Cm} {c : Nat} {kn : Kn} (h : QInv xs c kn []) : newQ xs c kn = [] := by
  unfold newQ
  rw [List.filter_eq_nil_iff]
  intro b hb
  cases hk : kn b with
  | some _ => simp
  | none =>
    have : offL xs kn (List.range c) b = [] := by
      unfold offL
      rw [List.flatMap_eq_nil_iff]
      intro a ha
      exact h.2.2 a (List.mem_range.1 ha) (by simp) b hk
    simp [this]
/-- who is offered something by the queue: the new ones -/
theorem new_iff {cc : Int} {xs : List Cm} {c : Nat} {kn : Kn} {Q : List Nat} (hx : xs.all (cmB cc) = true) (hc : cc = c) (h : QInv xs c kn Q) (b : Nat) : offP xs kn Q 0 [] b ≠ [] ↔ b ∈ newQ xs c kn := by
  have hmem : b ∈ newQ xs c kn ↔ b < c ∧ kn b = none ∧ offL xs kn (List.range c) b ≠ [] := by
    simp only [newQ, List.mem_filter, List.mem_range, Bool.and_eq_true, Option.isNone_iff_eq_none, Bool.not_eq_true', List.isEmpty_eq_false_iff]
  rw [hmem]
  cases hk : kn b with
  | some s => simp [offP, hk]
  | none =>
    rw [offP_nil _ _ _ _ hk, offL_queue h hk]
    refine ⟨fun h9 => ⟨?_, rfl, h9⟩, fun h9 => h9.2.2⟩
    by_cases hb : b < c
    · exact hb
    · refine absurd ?_ h9
      unfold offL
      rw [List.flatMap_eq_nil_iff]
      intro a _
      exact offO_out hx kn b a (by rw [hc]; omega)
theorem off_new {xs : List Cm} {c : Nat} {kn : Kn} {Q : List Nat} (h : QInv xs c kn Q) {b : Nat} (hb : b ∈ newQ xs c kn) : offP xs kn Q 0 [] b = offL xs kn (List.range c) b ∧ offL xs kn (List.range c) b ≠ [] ∧ b < c ∧ rndK xs c kn b = some (medN (offL xs kn (List.range c) b)) := by
  simp only [newQ, List.mem_filter, List.mem_range, Bool.and_eq_true, Option.isNone_iff_eq_none, Bool.not_eq_true', List.isEmpty_eq_false_iff] at hb
  obtain ⟨h1, h2, h3⟩ := hb
  refine ⟨by rw [offP_nil _ _ _ _ h2, offL_queue h h2], h3, h1, ?_⟩
  unfold rndK
  rw [h2]
  simp only []
  rw [if_pos ⟨h1, h3⟩]
theorem offP_take0 (xs : List Cm) (kn : Kn) (t : Int) : (fun b => offP xs kn [] t [] b) = fun _ => [] := by
  funext b
  unfold offP
  cases kn b <;> simp [offL]
/-- one estimate more, of one who has a shift -/
theorem offP_skip {xs : List Cm} {kn : Kn} {Q : List Nat} {s : Int} {ys : List Cm} {y : Cm} {b0 : Nat} (hy : y.2.1 = (b0 : Int)) (hk : (kn b0).isSome = true) : (fun b => offP xs kn Q s (ys ++ [y]) b) = fun b => offP xs kn Q s ys b := funext fun b => offP_known hy hk b
theorem offP_put {xs : List Cm} {kn : Kn} {Q : List Nat} {s : Int} {ys : List Cm} {y : Cm} {b0 : Nat} (hy : y.2.1 = (b0 : Int)) (hk : kn b0 = none) : (fun b => offP xs kn Q s (ys ++ [y]) b) = fun b => if b = b0 then offP xs kn Q s ys b0 ++ [s - y.2.2] else offP xs kn Q s ys b := by
  funext b
  by_cases e : b = b0
  · subst e; rw [if_pos rfl]; exact offP_new hy hk
  · rw [if_neg e]; exact offP_other hy e
/-- the table with one median more -/
theorem medK_put {xs : List Cm} {c k : Nat} {kn : Kn} {a : Nat} {s : Int} (hk : (newQ xs c kn)[k]? = some a) (hs : rndK xs c kn a = some s) : (fun b => if b = a then some s else medK xs c kn k b) = medK xs c kn (k + 1) := by
  funext b
  rw [medK_step hk]
  by_cases e : b = a <;> simp [e, hs]
theorem nodup_keysD {b nn : Nat} {D0 : DataW Unit} {R : Value → Option (DataW Unit × List MemPlace)} {W : World} (hown : W.ownsMap Try.prog 2 R b nn D0) : (intKeys D0).Nodup := by
  obtain ⟨es, hD, hpw, _⟩ := hown.entries lawC
  obtain ⟨es', hD', hko⟩ := hown.keysOf
  obtain rfl : es = es' := by rw [hD] at hD'; simpa using hD'
  subst hD
  have hk : ∀ p ∈ es, ∃ x, p.1 = .int .i64 x := fun p hp => by
    obtain ⟨v, hv⟩ := hko p hp
    obtain ⟨y, _, hy, _⟩ := Maps.keyOf_i64 Try.underlying2 hv
    exact ⟨y, hy⟩
  show (es.map fun p => Go.intOf p.1).Nodup
  rw [List.nodup_iff_pairwise_ne, List.pairwise_map]
  refine (List.Pairwise.and_mem.1 hpw).imp (fun {p q} h e => ?_)
  obtain ⟨hp, hq, hne⟩ := h
  obtain ⟨x, hx⟩ := hk p hp
  obtain ⟨y, hy⟩ := hk q hq
  rw [hx, hy] at e hne
  simp [Go.intOf] at e
  exact hne (by rw [e])
/-- the sorted keys: strictly rising, and just the keys -/
theorem sorted_keysD {b nn : Nat} {D0 : DataW Unit} {R : Value → Option (DataW Unit × List MemPlace)} {W : World} (hown : W.ownsMap Try.prog 2 R b nn D0) {ss : List Int} (hp : ss.Perm (intKeys D0)) :
    (ss.mergeSort fun x y => decide (x ≤ y)).Pairwise (· < ·) ∧ (∀ z, z ∈ (ss.mergeSort fun x y => decide (x ≤ y)) ↔ Maps.has D0 (.int .i64 z) = true) ∧ (ss.mergeSort fun x y => decide (x ≤ y)).length = ss.length := by
  have h1 : (ss.mergeSort fun x y => decide (x ≤ y)).Perm ss := List.mergeSort_perm _ _
  have h2 : (ss.mergeSort fun x y => decide (x ≤ y)).Pairwise (fun x y => decide (x ≤ y) = true) := List.pairwise_mergeSort (fun a b c h1 h2 => by simp at *; omega) (fun a b => by simp; omega) _
  have h3 : (ss.mergeSort fun x y => decide (x ≤ y)).Nodup := (h1.trans hp).nodup_iff.2 (nodup_keysD hown)
  refine ⟨?_, fun z => ((h1.trans hp).mem_iff (a := z)).trans (mem_keysD hown z), h1.length_eq⟩
  rw [List.nodup_iff_pairwise_ne] at h3
  exact (List.pairwise_and_iff.2 ⟨h2, h3⟩).imp (fun h => by have := of_decide_eq_true h.1; omega)
end Go.Proofs.Ytfnjndbnogeddaa
