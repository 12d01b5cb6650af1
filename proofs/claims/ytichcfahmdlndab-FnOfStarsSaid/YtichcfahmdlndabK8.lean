/- Drawn estimates, star by star: plain lists. -/
import Derived.Test.YtichcfahmdlndabK7
import Derived.Test.YtichcfahmdlndabP3
import Derived.Test.YtichcfahmdlndabE6
namespace Go.Proofs.Ytichcfahmdlndab
open Go.ChangeShapes Go.WideShapes Go.ChangeAt Go.RowKit Go.Deep

theorem toL_inj {x y : ByteArray} (h : x.toList = y.toList) : x = y := ByteArray.ext (by rw [← Array.toList_inj, ← ByteArray.toList_eq, ← ByteArray.toList_eq]; exact h)
theorem pSt_iff {s : ByteArray} {x : Es} : pSt s x = true ↔ x.2.1 = s := by
  unfold pSt
  rw [beq_iff_eq]
  exact ⟨toL_inj, fun h => by rw [h]⟩
/-- how many estimates the first k of the stars have -/
def cntK (S : List ByteArray) (xs : List Es) (k : Nat) : Nat := ((S.take k).map fun s => (xs.filter (pSt s)).length).sum
theorem cntK_zero (S : List ByteArray) (xs : List Es) : cntK S xs 0 = 0 := rfl
theorem cntK_step {S : List ByteArray} {xs : List Es} {k : Nat} {s : ByteArray} (hk : k < S.length) (hs : S[k]?.getD ⟨#[]⟩ = s) : cntK S xs (k + 1) = cntK S xs k + (xs.filter (pSt s)).length := by
  unfold cntK
  rw [List.getElem?_eq_getElem hk, Option.getD_some] at hs
  rw [List.take_succ_eq_append_getElem hk, List.map_append, List.sum_append, hs]
  simp
theorem one_of {S : List ByteArray} (h : RiseN S) {s : ByteArray} (hs : s ∈ S) : (S.map fun t => if s = t then 1 else 0).sum = 1 := by
  induction S with
  | nil => cases hs
  | cons a S ih =>
    have h2 := List.pairwise_cons.1 h
    simp only [List.map_cons, List.sum_cons]
    by_cases e : s = a
    · subst e
      have : (S.map fun t => if s = t then 1 else 0).sum = 0 := by
        rw [List.sum_eq_zero_iff_forall_eq_nat]
        intro v hv
        obtain ⟨t, ht, rfl⟩ := List.mem_map.1 hv
        have hne : s ≠ t := fun e => by
          have := h2.1 t ht
          rw [← e] at this
          exact absurd this (by simp [bl_irrefl])
        simp [hne]
      simp [this]
    · rcases List.mem_cons.1 hs with e2 | e2
      · exact absurd e2 e
      · rw [if_neg e, ih h2.2 e2]
theorem cnt_all {S : List ByteArray} (h : RiseN S) : ∀ {xs : List Es}, (∀ x ∈ xs, x.2.1 ∈ S) → (S.map fun s => (xs.filter (pSt s)).length).sum = xs.length
  | [], _ => by
    rw [List.sum_eq_zero_iff_forall_eq_nat.2 (fun v hv => by obtain ⟨t, _, rfl⟩ := List.mem_map.1 hv; rfl)]
    rfl
  | x :: xs, hx => by
    have ih := cnt_all h (xs := xs) (fun y hy => hx y (List.mem_cons_of_mem _ hy))
    have e : (S.map fun s => ((x :: xs).filter (pSt s)).length) = S.map fun s => (if x.2.1 = s then 1 else 0) + (xs.filter (pSt s)).length := by
      refine List.map_congr_left fun s _ => ?_
      by_cases hs : x.2.1 = s
      · rw [List.filter_cons_of_pos (pSt_iff.2 hs), if_pos hs, List.length_cons]; omega
      · rw [List.filter_cons_of_neg (fun h => hs (pSt_iff.1 h)), if_neg hs]; omega
    have e2 : ∀ (T : List ByteArray) (f g : ByteArray → Nat), (T.map fun s => f s + g s).sum = (T.map f).sum + (T.map g).sum := by
      intro T f g
      induction T with
      | nil => rfl
      | cons a T ih => simp only [List.map_cons, List.sum_cons, ih]; omega
    rw [e, e2, ih, one_of h (hx x List.mem_cons_self), List.length_cons]
    omega
theorem cntK_full {S : List ByteArray} {xs : List Es} (h : RiseN S) (hx : ∀ x ∈ xs, x.2.1 ∈ S) {n : Nat} (hn : S.length = n) : cntK S xs n = xs.length := by
  rw [cntK, List.take_of_length_le (by omega)]
  exact cnt_all h hx
theorem cntK_le {S : List ByteArray} {xs : List Es} {k n : Nat} (hn : xs.length ≤ n) : cntK S xs k ≤ S.length * n := by
  unfold cntK
  have : ∀ T : List ByteArray, (T.map fun s => (xs.filter (pSt s)).length).sum ≤ T.length * n := by
    intro T
    induction T with
    | nil => simp
    | cons a T ih =>
      have := List.length_filter_le (pSt a) xs
      simp only [List.map_cons, List.sum_cons, List.length_cons, Nat.add_mul]
      omega
  refine Nat.le_trans (this _) (Nat.mul_le_mul_right _ ?_)
  rw [List.length_take]
  exact Nat.min_le_right _ _
/-- the star at a place: a name, its estimates, the last of them -/
theorem star_at {xs : List Es} {k : Nat} {s : ByteArray} (hok : okE xs = true) (hk : k < (stK xs xs.length).length) (hs : (stK xs xs.length)[k]?.getD ⟨#[]⟩ = s) :
    nameB s = true ∧ ∃ m y, (xs.filter (pSt s)).length = m + 1 ∧ (xs.filter (pSt s))[m]?.getD es0 = y ∧ (xs.filter (pSt s)).getLast? = some y := by
  rw [List.getElem?_eq_getElem hk, Option.getD_some] at hs
  have hm : s ∈ stK xs xs.length := by rw [← hs]; exact List.getElem_mem hk
  obtain ⟨x, hx, hxs⟩ := (stK_mem xs xs.length s).1 hm
  rw [List.take_of_length_le (Nat.le_refl _)] at hx
  have hb := okE_all hok x hx
  simp only [esB, Bool.and_eq_true] at hb
  have hmem : x ∈ xs.filter (pSt s) := List.mem_filter.2 ⟨hx, pSt_iff.2 hxs⟩
  have hpos : 0 < (xs.filter (pSt s)).length := List.length_pos_of_mem hmem
  refine ⟨by rw [← hxs]; exact hb.2.1, (xs.filter (pSt s)).length - 1, _, by omega, rfl, ?_⟩
  rw [List.getLast?_eq_getElem?, List.getElem?_eq_getElem (by omega), Option.getD_some]
theorem sel_star {xs : List Es} {s : ByteArray} {j : Nat} {x0 : Int} {x1 x2 : ByteArray} {x3 : Int} {x4 : Bool} (hj : j < (xs.filter (pSt s)).length) (hx : (xs.filter (pSt s))[j]?.getD es0 = (x0, x1, x2, x3, x4)) : x1 = s := by
  rw [List.getElem?_eq_getElem hj, Option.getD_some] at hx
  have := (List.mem_filter.1 (List.getElem_mem hj)).2
  rw [hx] at this
  exact pSt_iff.1 this
theorem in_stars (xs : List Es) : ∀ x ∈ xs, x.2.1 ∈ stK xs xs.length := fun x hx => (stK_mem _ _ _).2 ⟨x, by rw [List.take_of_length_le (Nat.le_refl _)]; exact hx, rfl⟩
end Go.Proofs.Ytichcfahmdlndab
