/- Catalogues: facts on AddStar's list and on ByAmplitude's order. -/
import Derived.Test.YtlbphdbcjhggjaaDoorV2
import Derived.Test.YtlbphdbcjhggjaaDoorA1
import Derived.Test.YtlbphdbcjhggjaaDoorSC
import Derived.Test.YtlbphdbcjhggjaaDoorST
namespace Go.Proofs.YtlbphdbcjhggjaaDoor
open Go.ChangeShapes Go.WideShapes Go.ChangeAt Go.RowKit Go.Deep

theorem okS_all {xs : List St} (h : okS xs = true) : ∀ y ∈ xs, starB y = true := by
  intro y hy
  obtain ⟨j, hj, rfl⟩ := List.getElem_of_mem hy
  have := (okS_parts rfl h).2 j hj
  simp only [okAt, Bool.and_eq_true] at this
  simpa [hj] using this.1
theorem okS_of_pair {ys : List St} (h1 : ∀ y ∈ ys, starB y = true) (h2 : ys.Pairwise (fun a b => nmD a < nmD b)) (h3 : ys.length ≤ 60) : okS ys = true := by
  refine okS_yes rfl h3 fun k hk => ?_
  simp only [okAt, Bool.and_eq_true, Bool.or_eq_true, decide_eq_true_eq]
  refine ⟨by simpa [hk] using h1 ys[k] (List.getElem_mem hk), ?_⟩
  by_cases h0 : k = 0
  · exact .inl h0
  · right
    have := List.pairwise_iff_getElem.1 h2 (k - 1) k (by omega) hk (by omega)
    rw [bytesLess_eq, decide_eq_true_eq, List.getElem?_eq_getElem (by omega), List.getElem?_eq_getElem hk]
    simpa [ByteArray.toList_eq] using this
theorem addL_ok {xs : List St} {x : St} (h : okS xs = true) (hx : starB x = true) (hn : ¬ findS xs x.1 < xs.length) (hl : xs.length < 60) : okS (addL xs x) = true := by
  refine okS_of_pair (fun y hy => ?_) (addL_pair (okS_pair h)) (by rw [addL_len (none_ne hn)]; omega)
  have := (addL_perm (none_ne hn)).mem_iff.1 hy
  rcases List.mem_cons.1 this with rfl | h1
  · exact hx
  · exact okS_all h y h1
theorem addL_find {xs : List St} {x : St} (h : okS xs = true) (hn : ¬ findS xs x.1 < xs.length) : findS (addL xs x) x.1 < (addL xs x).length ∧ (addL xs x)[findS (addL xs x) x.1]?.getD st0 = x := by
  have hp := addL_pair (x := x) (okS_pair h)
  have hm : x ∈ addL xs x := (addL_perm (none_ne hn)).mem_iff.2 (by simp)
  generalize addL xs x = ys at hp hm
  obtain ⟨j, hj, rfl⟩ := List.getElem_of_mem hm
  have hlt : findS ys ys[j].1 < ys.length := by
    by_cases h1 : findS ys ys[j].1 < ys.length
    · exact h1
    · have := findS_min (xs := ys) (nm := ys[j].1) j (by omega)
      simp [nmL, hj] at this
  refine ⟨hlt, ?_⟩
  have hs := findS_spec hlt
  simp only [nmL, beq_iff_eq, List.getElem?_eq_getElem hlt, Option.getD_some, ByteArray.toList_eq] at hs
  have e : findS ys ys[j].1 = j := by
    rcases Nat.lt_trichotomy (findS ys ys[j].1) j with h1 | h1 | h1
    · have := List.pairwise_iff_getElem.1 hp _ _ hlt hj h1
      simp only [nmD] at this
      rw [hs] at this
      exact absurd this (List.lt_irrefl _)
    · exact h1
    · have := List.pairwise_iff_getElem.1 hp _ _ hj hlt h1
      simp only [nmD] at this
      rw [hs] at this
      exact absurd this (List.lt_irrefl _)
  rw [List.getElem?_eq_getElem hlt, Option.getD_some]
  simp only [e]
theorem byL_nodup (v : Nat → Int) : ∀ k, (byL v k).Nodup
  | 0 => List.nodup_nil
  | k + 1 => by
    have ih := byL_nodup v k
    simp only [byL]
    rw [List.nodup_append]
    refine ⟨ih.filter _, List.nodup_cons.2 ⟨fun h => ?_, ih.filter _⟩, fun a ha b hb => ?_⟩
    · have := (byL_mem v k k).1 (List.mem_filter.1 h).1
      omega
    · rcases List.mem_cons.1 hb with rfl | hb
      · have := (byL_mem v _ a).1 (List.mem_filter.1 ha).1
        omega
      · simp at ha hb
        intro e
        subst e
        omega
/-- the i-th of the order: an index, none of the earlier ones, of no greater range -/
theorem ampL_facts {xs : List St} {n i : Nat} (hi : i < n) : ∃ y : Nat, y < n ∧ (ampL xs n)[i]?.getD 0 = (y : Int) ∧ decide ((y : Int) ∈ (ampL xs n).take i) = false ∧ (byL (ampV xs) n)[i]?.getD 0 = y := by
  have hl := byL_len (ampV xs) n
  refine ⟨(byL (ampV xs) n)[i]?.getD 0, ?_, ?_, ?_, rfl⟩
  · exact (byL_mem (ampV xs) n _).1 (by simp [show i < (byL (ampV xs) n).length by omega])
  · simp only [ampL, List.getElem?_map]
    rw [List.getElem?_eq_getElem (by omega)]
    rfl
  · simp only [decide_eq_false_iff_not]
    intro hm
    obtain ⟨j, hj, e⟩ := List.getElem_of_mem hm
    rw [List.length_take, ampL_len] at hj
    rw [List.getElem_take] at e
    simp only [ampL, List.getElem_map] at e
    rw [List.getElem?_eq_getElem (by omega), Option.getD_some] at e
    have := List.pairwise_iff_getElem.1 (show (byL (ampV xs) n).Pairwise (· ≠ ·) from byL_nodup (ampV xs) n) j i (by omega) (by omega) (by omega)
    exact this (by omega)
theorem ampL_falls {xs : List St} {n i : Nat} (hi : i + 1 < n) : ampV xs ((byL (ampV xs) n)[i + 1]?.getD 0) ≤ ampV xs ((byL (ampV xs) n)[i]?.getD 0) := by
  have hl := byL_len (ampV xs) n
  have := List.pairwise_iff_getElem.1 (byL_falls (ampV xs) n) i (i + 1) (by omega) (by omega) (by omega)
  rw [List.getElem?_eq_getElem (by omega), List.getElem?_eq_getElem (by omega)]
  exact this
end Go.Proofs.YtlbphdbcjhggjaaDoor
