/- Facts of FnCurves: the bins of one time each. -/
import Derived.Test.YtiogffjhhhpolaaJD
namespace Go.Proofs.Ytiogffjhhhpolaa

theorem rnd_lim {num den lo hi : Int} (hd : 0 < den) (h1 : lo * den ≤ num) (h2 : num ≤ hi * den) : lo ≤ rnd num den ∧ rnd num den ≤ hi := by
  unfold rnd
  constructor
  · refine (Int.le_ediv_iff_mul_le (by omega)).2 ?_
    have : lo * (2 * den) = 2 * (lo * den) := by grind
    omega
  · have h3 : (2 * num + den) / (2 * den) < hi + 1 := by
      refine Int.ediv_lt_of_lt_mul (by omega) ?_
      have : (hi + 1) * (2 * den) = 2 * (hi * den) + 2 * den := by grind
      omega
    omega
theorem sM_lim {ps : List Pt} (h : SB ps) {g : Nat} (hg : g ≤ ps.length) : -2000 * (g : Int) ≤ sM ps g ∧ sM ps g ≤ 20000 * (g : Int) := by
  have a := sumF_le (f := fun _ => (-2000 : Int)) (g := fun j => (ps[j]?.getD pt0).2) (k := g) (fun j hj => by have := h.1 j (by omega); unfold bdP at this; omega)
  have b := sumF_le (f := fun j => (ps[j]?.getD pt0).2) (g := fun _ => (20000 : Int)) (k := g) (fun j hj => by have := h.1 j (by omega); unfold bdP at this; omega)
  rw [sumF_const] at a b
  unfold sM
  exact ⟨a, b⟩
/-- what the bins of width 1 are -/
theorem bins1_spec : ∀ (m : Nat) (ps : List Pt), ps.length ≤ m → SB ps → (∀ q ∈ binsF 1 ps, (∃ p ∈ ps, q.1 = p.1) ∧ -2000 ≤ q.2 ∧ q.2 ≤ 20000) ∧ (binsF 1 ps).Pairwise (fun a b => a.1 < b.1) ∧ ∀ p ∈ ps, ∃ q ∈ binsF 1 ps, q.1 = p.1
  | m, ps, hm, hs => by
    by_cases h0 : 0 < ps.length
    · match m with
      | 0 => omega
      | m + 1 =>
        have hg := grp_pos 1 h0
        have hgl := grp_le 1 ps
        obtain ⟨hsame, hend⟩ := grp_at 1 ps
        obtain ⟨g, hG⟩ : ∃ g, grp 1 ps = g := ⟨_, rfl⟩
        rw [hG] at hg hgl hsame hend
        have hT : ∀ j, j < g → (ps[j]?.getD pt0).1 = (ps[0]?.getD pt0).1 := fun j hj => by
          have := hsame j hj
          rw [sameW_one] at this
          simpa using this
        have hq1 : rnd (sT ps g) g = (ps[0]?.getD pt0).1 := by
          rw [sT_const (T := (ps[0]?.getD pt0).1) g hgl hT, rnd_mul hg]
        have hlim := sM_lim hs hgl
        have hq2 := rnd_lim (num := sM ps g) (den := g) (lo := -2000) (hi := 20000) (by omega) hlim.1 hlim.2
        have hrest := hs.drop g
        obtain ⟨i1, i2, i3⟩ := bins1_spec m (ps.drop g) (by rw [List.length_drop]; omega) hrest
        have hgt : ∀ p ∈ ps.drop g, (ps[0]?.getD pt0).1 < p.1 := fun p hp => by
          obtain ⟨j, hj, rfl⟩ := List.mem_iff_getElem.1 hp
          rw [List.length_drop] at hj
          have e1 : (ps.drop g)[j]'(by rw [List.length_drop]; exact hj) = ps[g + j]?.getD pt0 := by
            rw [List.getElem_drop, List.getElem?_eq_getElem (by omega)]; rfl
          rw [e1]
          rcases hend with e | e
          · omega
          · rw [sameW_one] at e
            have h3 : (ps[g]?.getD pt0).1 ≠ (ps[0]?.getD pt0).1 := by simpa using e
            have h4 := hs.2 0 g (by omega) (by omega)
            have h5 := hs.2 g (g + j) (by omega) (by omega)
            omega
        have hb : binsF 1 ps = (rnd (sT ps g) g, rnd (sM ps g) g) :: binsF 1 (ps.drop g) := by
          rw [binsF_cons h0, binP, hG]
        rw [hb, hq1]
        refine ⟨fun q hq => ?_, List.pairwise_cons.2 ⟨fun q hq => ?_, i2⟩, fun p hp => ?_⟩
        · rcases List.mem_cons.1 hq with rfl | hq
          · exact ⟨⟨ps[0]?.getD pt0, getD_mem h0, rfl⟩, hq2⟩
          · obtain ⟨⟨p, hp, e⟩, h6⟩ := i1 q hq
            exact ⟨⟨p, List.mem_of_mem_drop hp, e⟩, h6⟩
        · obtain ⟨⟨p, hp, e⟩, _⟩ := i1 q hq
          rw [e]
          exact hgt p hp
        · obtain ⟨j, hj, rfl⟩ := List.mem_iff_getElem.1 hp
          by_cases hjg : j < g
          · refine ⟨_, List.mem_cons_self, ?_⟩
            have := hT j hjg
            rw [List.getElem?_eq_getElem hj, Option.getD_some] at this
            exact this.symm
          · obtain ⟨q, hq, e⟩ := i3 (ps[j]) (by
              have hd : (ps.drop g)[j - g]'(by rw [List.length_drop]; omega) = ps[j] := by
                rw [List.getElem_drop]; congr 1; omega
              rw [← hd]; exact List.getElem_mem _)
            exact ⟨q, List.mem_cons_of_mem _ hq, e⟩
    · rw [binsF_nil (by omega)]
      have : ps = [] := List.length_eq_zero_iff.1 (by omega)
      subst this
      exact ⟨fun q hq => by simp at hq, List.Pairwise.nil, fun p hp => by simp at hp⟩
theorem curve_facts {xs : List Es} {n : Nat} (hn : xs.length = n) (hok : okE xs = true) (s : ByteArray) : okP (binsF 1 (ptsE s xs)) = true ∧ (binsF 1 (ptsE s xs)).length ≤ n ∧ ∀ i, i < n → pSeen s (xs[i]?.getD es0) = true → ∃ k, k < (binsF 1 (ptsE s xs)).length ∧ ((binsF 1 (ptsE s xs))[k]?.getD pt0).1 = (xs[i]?.getD es0).1 := by
  have hs := SB.of_es hok s
  obtain ⟨h1, h2, h3⟩ := bins1_spec _ _ (Nat.le_refl _) hs
  have hl1 := binsF_len 1 _ (ptsE s xs) (Nat.le_refl _)
  have hl2 := ptsE_len s xs
  obtain ⟨h100, -⟩ := okE_at hn hok
  refine ⟨okP_yes (n := (binsF 1 (ptsE s xs)).length) rfl (by omega) fun k hk => ?_, by omega, fun i hi hp => ?_⟩
  · have hq := h1 _ (getD_mem hk)
    obtain ⟨⟨p, hp, e⟩, h6⟩ := hq
    obtain ⟨x, hx, rfl⟩ := ptsE_mem hp
    have hbx := es_bd hok x hx
    unfold bdP at hbx
    have hv : pvB ((binsF 1 (ptsE s xs))[k]?.getD pt0) = true := by
      simp only [pvB, tmB, magB, Bool.and_eq_true, inB_iff]
      omega
    by_cases hk0 : k = 0
    · exact okAtP_zero rfl hv hk0
    · obtain ⟨k', rfl⟩ : ∃ k', k = k' + 1 := ⟨k - 1, by omega⟩
      refine okAtP_succ rfl rfl hv ?_
      have := (List.pairwise_iff_getElem.1 h2) k' (k' + 1) (by omega) hk (by omega)
      rw [List.getElem?_eq_getElem hk, List.getElem?_eq_getElem (show k' < (binsF 1 (ptsE s xs)).length by omega)]
      simpa using this
  · have hlt : i < xs.length := by omega
    rw [List.getElem?_eq_getElem hlt, Option.getD_some] at hp ⊢
    obtain ⟨q, hq, e⟩ := h3 (ptE xs[i]) (by
      unfold ptsE
      exact List.mem_map_of_mem (List.mem_filter.2 ⟨List.getElem_mem hlt, hp⟩))
    obtain ⟨k, hk, rfl⟩ := List.mem_iff_getElem.1 hq
    exact ⟨k, hk, by rw [List.getElem?_eq_getElem hk, Option.getD_some]; exact e⟩
end Go.Proofs.Ytiogffjhhhpolaa
