/- StarNamed, the program's: the map by names. -/
import Derived.Test.YtfnjndbnogeddaaGreatDoorSA
import Derived.Sort.Walk0
import Derived.WalkKit
namespace Go.Proofs.YtfnjndbnogeddaaGreatDoor
open Go.ChangeShapes Go.WideShapes Go.ChangeAt Go.RowKit Go.Deep Go.Maps Go.WideMaps

/-! names of a valid catalogue are different -/
def nmL (xs : List St) (k : Nat) : List UInt8 := (xs[k]?.getD st0).1.toList
theorem okS_parts {xs : List St} {n : Nat} (hn : xs.length = n) (h : okS xs = true) : n ≤ 60 ∧ ∀ k, k < n → okAt xs k = true := by
  simp only [okS, Bool.and_eq_true, decide_eq_true_eq, List.all_eq_true, List.mem_range] at h
  exact ⟨by omega, fun k hk => h.2 k (by omega)⟩
theorem nm_step {xs : List St} {k : Nat} (h : okAt xs (k + 1) = true) : nmL xs k < nmL xs (k + 1) := by
  simp only [okAt, Bool.and_eq_true, Bool.or_eq_true, decide_eq_true_eq, Nat.add_sub_cancel] at h
  rcases h.2 with h2 | h2
  · omega
  · rw [bytesLess_eq] at h2
    exact of_decide_eq_true h2
theorem nm_lt {xs : List St} {n : Nat} (h : ∀ k, k < n → okAt xs k = true) : ∀ (d i : Nat), i + d + 1 < n → nmL xs i < nmL xs (i + d + 1)
  | 0, i, hi => nm_step (h (i + 1) hi)
  | d + 1, i, hi => List.lt_trans (nm_lt h d i (by omega)) (nm_step (h (i + d + 1 + 1) hi))
theorem nm_ne {xs : List St} {n i j : Nat} (h : ∀ k, k < n → okAt xs k = true) (hij : i < j) (hj : j < n) : (nmL xs i == nmL xs j) = false := by
  obtain ⟨d, rfl⟩ : ∃ d, j = i + d + 1 := ⟨j - i - 1, by omega⟩
  have := nm_lt h d i hj
  simp only [beq_eq_false_iff_ne]
  intro e
  rw [e] at this
  exact List.lt_irrefl _ this
theorem nm_size {xs : List St} {k : Nat} (h : okAt xs k = true) : (xs[k]?.getD st0).1.size ≤ maxLen := by
  simp only [okAt, starB, Bool.and_eq_true] at h
  have h1 := h.1.1.1.1.1.1
  simp only [nameB, Bool.and_eq_true, decide_eq_true_eq] at h1
  unfold maxLen; omega
/-! the map's datum -/
def kS (s : ByteArray) : Lit := .string s.data.toList
theorem kS_ne {s t : ByteArray} (h : (s.toList == t.toList) = false) : kS s ≠ kS t := fun e => by
  simp only [kS, Lit.string.injEq] at e
  rw [ByteArray.toList_eq, ByteArray.toList_eq, e] at h
  simp at h
theorem kS_eq {s t : ByteArray} (h : (s.toList == t.toList) = true) : kS s = kS t := by
  rw [beq_iff_eq, ByteArray.toList_eq, ByteArray.toList_eq] at h
  simp [kS, h]
def dM (xs : List St) : Nat → DataW Unit
  | 0 => .map []
  | k + 1 => (dM xs k).put (kS (xs[k]?.getD st0).1) (.lit (.int .i64 k))
theorem dM_map (xs : List St) : ∀ k, IsMap (dM xs k)
  | 0 => ⟨[], rfl⟩
  | k + 1 => (dM_map xs k).put _ _
theorem lawS : Keyed Tryz.prog 9 := string_keyed Tryz.underlying9
theorem keyS {s : ByteArray} (h : s.size ≤ maxLen) : keyOf Tryz.prog 9 (.string s) = some (kS s) := keyOf_string_mk Tryz.underlying9 h
theorem findS_spec {xs : List St} {nm : ByteArray} (h : findS xs nm < xs.length) : (nmL xs (findS xs nm) == nm.toList) = true := by
  induction xs with
  | nil => simp at h
  | cons x xs ih =>
    simp only [findS] at h ⊢
    split
    · rename_i hx; simpa [nmL] using hx
    · rename_i hx
      rw [if_neg hx] at h
      have := ih (by simpa using h)
      simpa [nmL] using this
theorem findS_min {xs : List St} {nm : ByteArray} : ∀ j, j < findS xs nm → (nmL xs j == nm.toList) = false := by
  induction xs with
  | nil => intro j hj; simp [findS] at hj
  | cons x xs ih =>
    intro j hj
    simp only [findS] at hj
    split at hj
    · omega
    · rename_i hx
      cases j with
      | zero => simpa [nmL] using hx
      | succ j => have := ih j (by omega); simpa [nmL] using this
/-- what the map tells of a name -/
theorem dM_look {xs : List St} {n : Nat} (hn : xs.length = n) (h : ∀ k, k < n → okAt xs k = true) (nm : ByteArray) : ∀ k, k ≤ n →
    Maps.has (dM xs k) (kS nm) = decide (findS xs nm < k) ∧ (findS xs nm < k → (dM xs k).atKey (kS nm) (.lit (.int .i64 0)) = .lit (.int .i64 (findS xs nm : Nat)))
  | 0, _ => ⟨by simp [dM, Maps.has], fun h => absurd h (by omega)⟩
  | k + 1, hk => by
    obtain ⟨ih1, ih2⟩ := dM_look hn h nm k (by omega)
    by_cases hE : (nmL xs k == nm.toList) = true
    · have hf : findS xs nm = k := findS_at (by omega) (fun j hj => by
        have h1 := nm_ne h hj (show k < n by omega)
        have h2 : nmL xs k = nm.toList := by simpa using hE
        rw [h2] at h1; exact h1) hE
      have hk1 : WideAt.IsKeyLit (kS (xs[k]?.getD st0).1) := lawS.key (keyS (nm_size (h k (by omega))))
      have he : kS nm = kS (xs[k]?.getD st0).1 := (kS_eq hE).symm
      rw [he, dM, hf]
      exact ⟨by rw [has_put_same (dM_map xs k) hk1]; simp, fun _ => atKey_put_same (dM_map xs k) hk1 _ _⟩
    · have hE' : (nmL xs k == nm.toList) = false := by simpa using hE
      have hne : kS nm ≠ kS (xs[k]?.getD st0).1 := fun e => kS_ne hE' e.symm
      have hfk : findS xs nm ≠ k := fun e => by
        have := findS_spec (xs := xs) (nm := nm) (by omega)
        rw [e] at this; exact hE this
      rw [dM, has_put_other hne, atKey_put_other hne]
      refine ⟨?_, fun hlt => ih2 (by omega)⟩
      rw [ih1]
      exact decide_eq_decide.2 (by omega)
theorem zeroI (w : World) : (zeroValue 2).run Tryz.prog w = .ok (.int .i64 0) w := by kernel_rfl
theorem mkMap (n : Nat) (hn : n ≤ 1048576) (w : World) : (Instr.makeMap 115 (some (.int .i64 n))).run Tryz.prog w = .ok (.map (some w.heap.size)) (w.alloc (.map #[] 0)) := by
  have h0 : ¬ ((n : Int) < 0) := by omega
  simp [Instr.makeMap, go_sem]
end Go.Proofs.YtfnjndbnogeddaaGreatDoor
