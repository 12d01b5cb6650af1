/- Facts of FnBinned: bins of any width, medians, ranges and the way. -/
import Derived.Test.YtiogffjhhhpolaaJX
import Derived.Test.YtiogffjhhhpolaaJ7
import Derived.Test.YtiogffjhhhpolaaJ5
import Derived.Test.YtiogffjhhhpolaaGPt4
namespace Go.Proofs.Ytiogffjhhhpolaa

theorem rnd_limB {num den lo hi : Int} (hd : 0 < den) (h1 : lo * den ≤ num) (h2 : num ≤ hi * den) : lo ≤ rnd num den ∧ rnd num den ≤ hi := by
  unfold rnd
  constructor
  · refine (Int.le_ediv_iff_mul_le (by omega)).2 ?_
    have : lo * (2 * den) = 2 * (lo * den) := by grind
    omega
  · have h3 : (2 * num + den) / (2 * den) < hi + 1 := by
      refine Int.ediv_lt_of_lt_mul (by omega) ?_
      have : (hi + 1) * (2 * den) = 2 * (hi * den) + 2 * den := by grind
      omega
    omega
theorem getD_memB {ps : List Pt} {k : Nat} (h : k < ps.length) : ps[k]?.getD pt0 ∈ ps := by
  rw [List.getElem?_eq_getElem h, Option.getD_some]; exact List.getElem_mem h

/-- the list's times rise and are bounded, and so are its magnitudes -/
def LimP (lo hi : Int) (ps : List Pt) : Prop := (∀ j, j < ps.length → (0 ≤ (ps[j]?.getD pt0).1 ∧ (ps[j]?.getD pt0).1 ≤ 10000000) ∧ lo ≤ (ps[j]?.getD pt0).2 ∧ (ps[j]?.getD pt0).2 ≤ hi) ∧ ∀ a b, a ≤ b → b < ps.length → (ps[a]?.getD pt0).1 ≤ (ps[b]?.getD pt0).1
theorem LimP.drop {lo hi : Int} {ps : List Pt} (h : LimP lo hi ps) (i : Nat) : LimP lo hi (ps.drop i) := by
  refine ⟨fun k hk => ?_, fun a b hab hb => ?_⟩
  · rw [List.length_drop] at hk
    rw [drop_at]; exact h.1 (i + k) (by omega)
  · rw [List.length_drop] at hb
    rw [drop_at, drop_at]; exact h.2 (i + a) (i + b) (by omega) (by omega)
theorem sum_lim {f : Nat → Int} {lo hi : Int} {g : Nat} (hg : 0 < g) (h : ∀ j, j < g → lo ≤ f j ∧ f j ≤ hi) : lo ≤ rnd (sumF f g) g ∧ rnd (sumF f g) g ≤ hi := by
  have a := sumF_le (f := fun _ => lo) (g := f) (k := g) (fun j hj => (h j hj).1)
  have b := sumF_le (f := f) (g := fun _ => hi) (k := g) (fun j hj => (h j hj).2)
  rw [sumF_const] at a b
  exact rnd_limB (by omega) a b
/-- what the bins of a width are -/
theorem binsW_spec {wd lo hi : Int} (hw : 1 ≤ wd) : ∀ (m : Nat) (ps : List Pt), ps.length ≤ m → LimP lo hi ps → (∀ q ∈ binsF wd ps, ((0 ≤ q.1 ∧ q.1 ≤ 10000000) ∧ lo ≤ q.2 ∧ q.2 ≤ hi) ∧ (ps[0]?.getD pt0).1 / wd * wd ≤ q.1) ∧ (binsF wd ps).Pairwise (fun a b => a.1 < b.1)
  | m, ps, hm, hs => by
    by_cases h0 : 0 < ps.length
    · match m with
      | 0 => omega
      | m + 1 =>
        have hg := grp_pos wd h0
        have hgl := grp_le wd ps
        obtain ⟨hsame, hend⟩ := grp_at wd ps
        obtain ⟨g, hG⟩ : ∃ g, grp wd ps = g := ⟨_, rfl⟩
        rw [hG] at hg hgl hsame hend
        have hd : ∀ j, j < ps.length → (ps[j]?.getD pt0).1.tdiv wd = (ps[j]?.getD pt0).1 / wd := fun j hj => Int.tdiv_eq_ediv_of_nonneg (hs.1 j hj).1.1
        obtain ⟨q, hq⟩ : ∃ q, (ps[0]?.getD pt0).1 / wd = q := ⟨_, rfl⟩
        have hT : ∀ j, j < g → q * wd ≤ (ps[j]?.getD pt0).1 ∧ (ps[j]?.getD pt0).1 ≤ q * wd + wd - 1 := fun j hj => by
          have h1 := hsame j hj
          rw [sameW, hd j (by omega), hd 0 h0, beq_iff_eq, hq] at h1
          have h2 := Int.mul_ediv_self_le (x := (ps[j]?.getD pt0).1) (k := wd) (by omega)
          have h3 := Int.lt_mul_ediv_self_add (x := (ps[j]?.getD pt0).1) (k := wd) (by omega)
          rw [h1, Int.mul_comm] at h2 h3
          omega
        have hb1 := sum_lim (f := fun j => (ps[j]?.getD pt0).1) hg hT
        have hb2 := sum_lim (f := fun j => (ps[j]?.getD pt0).1) (lo := 0) (hi := 10000000) hg (fun j hj => (hs.1 j (by omega)).1)
        have hb3 := sum_lim (f := fun j => (ps[j]?.getD pt0).2) (lo := lo) (hi := hi) hg (fun j hj => (hs.1 j (by omega)).2)
        obtain ⟨i1, i2⟩ := binsW_spec hw m (ps.drop g) (by rw [List.length_drop]; omega) (hs.drop g)
        have hb : binsF wd ps = (rnd (sT ps g) g, rnd (sM ps g) g) :: binsF wd (ps.drop g) := by
          rw [binsF_cons h0, binP, hG]
        have hnext : ∀ x ∈ binsF wd (ps.drop g), q * wd + wd ≤ x.1 := fun x hx => by
          by_cases hlt : g < ps.length
          · have h1 := (i1 x hx).2
            rw [drop_at, Nat.add_zero] at h1
            have h2 : ((ps[g]?.getD pt0).1 / wd) ≠ q := by
              rcases hend with e | e
              · omega
              · rw [sameW, hd g hlt, hd 0 h0, hq] at e
                simpa using e
            have h3 := Int.ediv_le_ediv (show 0 < wd by omega) (hs.2 0 g (by omega) hlt)
            rw [hq] at h3
            have h4 : (q + 1) * wd ≤ (ps[g]?.getD pt0).1 / wd * wd := Int.mul_le_mul_of_nonneg_right (by omega) (by omega)
            rw [Int.add_mul, Int.one_mul] at h4
            omega
          · rw [binsF_nil (by rw [List.length_drop]; omega)] at hx
            cases hx
        rw [hb, hq]
        refine ⟨fun x hx => ?_, List.pairwise_cons.2 ⟨fun x hx => ?_, i2⟩⟩
        · rcases List.mem_cons.1 hx with rfl | hx
          · exact ⟨⟨hb2, hb3⟩, hb1.1⟩
          · exact ⟨(i1 x hx).1, by have := hnext x hx; omega⟩
        · have h1 := hnext x hx
          have h2 := hb1.2
          show rnd (sT ps g) g < x.1
          unfold sT
          omega
    · rw [binsF_nil (by omega)]
      exact ⟨fun q hq => by simp at hq, List.Pairwise.nil⟩
theorem LimP.of {xs : List Pt} {n : Nat} {lo hi : Int} (hn : xs.length = n) (hok : okP xs = true) (h : ∀ j, j < n → lo ≤ (xs[j]?.getD pt0).2 ∧ (xs[j]?.getD pt0).2 ≤ hi) : LimP lo hi xs := by
  obtain ⟨-, h2, h3⟩ := okP_num hn hok
  refine ⟨fun j hj => ⟨⟨(h2 j (by omega)).1, (h2 j (by omega)).2.1⟩, h j (by omega)⟩, ?_⟩
  have key : ∀ d a, a + d < n → (xs[a]?.getD pt0).1 ≤ (xs[a + d]?.getD pt0).1 := by
    intro d
    induction d with
    | zero => intro a _; exact Int.le_refl _
    | succ d ih =>
      intro a ha
      have h4 := ih a (by omega)
      have h5 := h3 (a + d) (by omega)
      rw [show a + (d + 1) = a + d + 1 by omega]
      omega
  intro a b hab hb
  obtain ⟨d, rfl⟩ : ∃ d, b = a + d := ⟨b - a, by omega⟩
  exact key d a (by omega)
theorem okP_of {zs : List Pt} (hl : zs.length ≤ 100) (h : ∀ q ∈ zs, (0 ≤ q.1 ∧ q.1 ≤ 10000000) ∧ -2000 ≤ q.2 ∧ q.2 ≤ 20000) (hp : zs.Pairwise (fun a b => a.1 < b.1)) : okP zs = true := by
  refine okP_yes (n := zs.length) rfl hl fun k hk => ?_
  have hq := h _ (getD_memB hk)
  have hv : pvB (zs[k]?.getD pt0) = true := by
    simp only [pvB, tmB, magB, Bool.and_eq_true, inB_iff]
    omega
  by_cases hk0 : k = 0
  · exact okAtP_zero rfl hv hk0
  · obtain ⟨k', rfl⟩ : ∃ k', k = k' + 1 := ⟨k - 1, by omega⟩
    refine okAtP_succ rfl rfl hv ?_
    have := (List.pairwise_iff_getElem.1 hp) k' (k' + 1) (by omega) hk (by omega)
    rw [List.getElem?_eq_getElem hk, List.getElem?_eq_getElem (show k' < zs.length by omega)]
    simpa using this
/-- how many bins -/
def cntW (wd : Int) (xs : List Pt) : Nat → Nat
  | 0 => 0
  | k + 1 => cntW wd xs k + (if k = 0 ∨ sameW wd (xs[k - 1]?.getD pt0) (xs[k]?.getD pt0) = false then 1 else 0)
theorem cntW_add {wd : Int} {xs : List Pt} {g : Nat} (hg : 0 < g) (h : sameW wd (xs[g - 1]?.getD pt0) (xs[g]?.getD pt0) = false) : ∀ k, cntW wd xs (g + k) = cntW wd xs g + cntW wd (xs.drop g) k
  | 0 => by simp [cntW]
  | k + 1 => by
    rw [← Nat.add_assoc, cntW, cntW, cntW_add hg h k, drop_at, drop_at, Nat.add_assoc]
    congr 2
    by_cases hk : k = 0
    · subst hk
      rw [Nat.add_zero, if_pos (.inr h), if_pos (.inl rfl)]
    · rw [show g + k - 1 = g + (k - 1) by omega]
      have e : ¬ g + k = 0 := by omega
      simp only [e, hk, false_or]
theorem cntW_one {wd : Int} {xs : List Pt} {g : Nat} (h : ∀ j, j < g → sameW wd (xs[0]?.getD pt0) (xs[j]?.getD pt0) = true) : ∀ k, 0 < k → k ≤ g → cntW wd xs k = 1
  | 1, _, _ => by simp [cntW]
  | k + 2, _, hk => by
    have ih := cntW_one h (k + 1) (by omega) (by omega)
    have h1 := h k (by omega)
    have h2 := h (k + 1) (by omega)
    rw [cntW, ih, if_neg]
    simp only [sameW, beq_iff_eq, Nat.add_sub_cancel] at h1 h2 ⊢
    rw [h2, h1]
    simp
theorem cntW_len (wd : Int) : ∀ (m : Nat) (xs : List Pt), xs.length ≤ m → cntW wd xs xs.length = (binsF wd xs).length
  | m, xs, hm => by
    by_cases h0 : 0 < xs.length
    · match m with
      | 0 => omega
      | m + 1 =>
        have hg := grp_pos wd h0
        have hgl := grp_le wd xs
        obtain ⟨hsame, hend⟩ := grp_at wd xs
        have hb : binsF wd xs = binP wd xs :: binsF wd (xs.drop (grp wd xs)) := binsF_cons h0
        rw [hb, List.length_cons]
        generalize grp wd xs = g at hg hgl hsame hend ⊢
        have h1 := cntW_one hsame g hg (Nat.le_refl g)
        have ih := cntW_len wd m (xs.drop g) (by rw [List.length_drop]; omega)
        rw [List.length_drop] at ih
        by_cases hlt : g < xs.length
        · have hs : sameW wd (xs[g - 1]?.getD pt0) (xs[g]?.getD pt0) = false := by
            rcases hend with e | e
            · omega
            · have h2 := hsame (g - 1) (by omega)
              simp only [sameW, beq_iff_eq] at h2 e ⊢
              rw [h2]; exact e
          have h2 := cntW_add hg hs (xs.length - g)
          rw [show g + (xs.length - g) = xs.length by omega, h1, ih] at h2
          omega
        · have hz : xs.length - g = 0 := by omega
          rw [hz] at ih
          rw [← ih, cntW, show xs.length = g by omega, h1]
    · rw [show xs.length = 0 by omega, binsF_nil (by omega)]; rfl
/-- medians of the nearest -/
theorem medP_lim {ys xs : List Int} {lo hi : Int} (hp : ys.Perm xs) (h0 : 0 < ys.length) (h : ∀ x ∈ xs, lo ≤ x ∧ x ≤ hi) : lo ≤ medP ys ∧ medP ys ≤ hi := by
  have hb : ∀ j, j < ys.length → lo ≤ ys[j]?.getD 0 ∧ ys[j]?.getD 0 ≤ hi := fun j hj => by
    have := h ys[j] (hp.mem_iff.1 (List.getElem_mem hj))
    simpa [hj] using this
  have h1 := hb (ys.length / 2) (by omega)
  unfold medP
  split
  · exact h1
  · have h2 := hb (ys.length / 2 - 1) (by omega)
    unfold rnd; omega
theorem rmed_lim {xs : List Pt} {n i s : Nat} {lo hi : Int} (hn : xs.length = n) (hi' : i < n) (h : ∀ j, j < n → lo ≤ (xs[j]?.getD pt0).2 ∧ (xs[j]?.getD pt0).2 ≤ hi) : lo ≤ rmed xs s i ∧ rmed xs s i ≤ hi := by
  have hp := srt_perm (winL (mgP xs) i s)
  refine medP_lim hp ?_ fun x hx => ?_
  · rw [hp.length_eq, winL_len (n := n) (by rw [mgP_len, hn])]
    exact winL_pos s hi'
  · obtain ⟨j, hj, rfl⟩ := List.mem_iff_getElem.1 (winL_mem hx)
    have h1 := h j (by rw [mgP_len] at hj; omega)
    have h2 := mgP_at xs j
    rw [List.getElem?_eq_getElem hj, Option.getD_some] at h2
    omega
theorem rmed_zero {xs : List Pt} {n i : Nat} (hn : xs.length = n) (hi : i < n) : rmed xs 0 i = (xs[i]?.getD pt0).2 := by
  have hl : (mgP xs).length = n := by rw [mgP_len, hn]
  have hw : winL (mgP xs) i 0 = [(mgP xs)[i]?.getD 0] := by
    unfold winL wF wT
    rw [hl, show min n (i + 0 + 1) - (i - 0) = 1 by omega, Nat.sub_zero]
    rw [List.drop_eq_getElem_cons (by omega), List.take_succ_cons, List.take_zero, List.getElem?_eq_getElem (by omega), Option.getD_some]
  rw [rmed, hw, srt, List.mergeSort_singleton, mgP_at]
  simp [medP]
theorem smP_zero {xs : List Pt} {n : Nat} (hn : xs.length = n) : smP xs 0 n = xs := by
  refine List.ext_getElem (by rw [smP_len, hn]) fun i h1 h2 => ?_
  simp only [smP, List.getElem_map, List.getElem_range]
  rw [rmed_zero hn (by omega), List.getElem?_eq_getElem h2]
  rfl
theorem ouP_none {xs : List Pt} {n : Nat} (hn : xs.length = n) : ouP xs 0 1 n = [] := by
  unfold ouP
  rw [List.map_eq_nil_iff, List.filter_eq_nil_iff]
  intro i hi
  simp only [List.mem_range] at hi
  rw [farP, rmed_zero hn hi]
  simp
theorem smP_at {xs : List Pt} {s n i : Nat} (hi : i < n) : (smP xs s n)[i]?.getD pt0 = ((xs[i]?.getD pt0).1, rmed xs s i) := by
  rw [smP, List.getElem?_map, List.getElem?_range hi]; rfl
theorem smP_ok {xs : List Pt} {n s : Nat} (hn : xs.length = n) (hok : okP xs = true) : okP (smP xs s n) = true := by
  obtain ⟨h1, h2, h3⟩ := okP_num hn hok
  refine okP_yes (smP_len xs s n) h1 fun k hk => ?_
  have hm := rmed_lim (s := s) (lo := -2000) (hi := 20000) hn hk (fun j hj => (h2 j hj).2.2)
  have hv : pvB ((smP xs s n)[k]?.getD pt0) = true := by
    rw [smP_at hk]
    have := h2 k hk
    simp only [pvB, tmB, magB, Bool.and_eq_true, inB_iff]
    omega
  by_cases hk0 : k = 0
  · exact okAtP_zero rfl hv hk0
  · obtain ⟨k', rfl⟩ : ∃ k', k = k' + 1 := ⟨k - 1, by omega⟩
    refine okAtP_succ rfl rfl hv ?_
    rw [smP_at hk, smP_at (show k' < n by omega)]
    simpa using h3 k' hk
/-- the range of numbers -/
theorem mm_at {xs : List Int} : ∀ (k j : Nat), j < k → mnTo xs k ≤ xs[j]?.getD 0 ∧ xs[j]?.getD 0 ≤ mxTo xs k
  | k + 1, j, hj => by
    simp only [mnTo, mxTo]
    by_cases e : j = k
    · subst e
      constructor <;> split <;> omega
    · have := mm_at (xs := xs) k j (by omega)
      constructor <;> split <;> omega
theorem mm_is {xs : List Int} {n : Nat} (h0 : 0 < n) : ∀ k, k ≤ n → (∃ j, j < n ∧ mnTo xs k = xs[j]?.getD 0) ∧ ∃ j, j < n ∧ mxTo xs k = xs[j]?.getD 0
  | 0, _ => ⟨⟨0, h0, rfl⟩, ⟨0, h0, rfl⟩⟩
  | k + 1, hk => by
    obtain ⟨a, b⟩ := mm_is (xs := xs) h0 k (by omega)
    simp only [mnTo, mxTo]
    constructor
    · split
      · exact ⟨k, by omega, rfl⟩
      · exact a
    · split
      · exact ⟨k, by omega, rfl⟩
      · exact b
theorem am_le {xs zs : List Pt} {n m : Nat} (hn : xs.length = n) (hm : zs.length = m) (hx : okP xs = true) (hz : okP zs = true) (hn0 : 0 < n) (hm0 : 0 < m) (h : ∀ lo hi : Int, (∀ j, j < n → lo ≤ (xs[j]?.getD pt0).2 ∧ (xs[j]?.getD pt0).2 ≤ hi) → ∀ j, j < m → lo ≤ (zs[j]?.getD pt0).2 ∧ (zs[j]?.getD pt0).2 ≤ hi) : amA zs ≤ amA xs := by
  rw [(am_0 hn hx hn0).2, (am_0 hm hz hm0).2]
  have hb := h (mnTo (mgP xs) n) (mxTo (mgP xs) n) (fun j hj => by have := mm_at (xs := mgP xs) n j hj; rw [mgP_at] at this; exact this)
  obtain ⟨⟨i, hi, e1⟩, ⟨j, hj, e2⟩⟩ := mm_is (xs := mgP zs) hm0 m (Nat.le_refl m)
  rw [e1, e2, mgP_at, mgP_at]
  have a := hb i hi
  have b := hb j hj
  omega
theorem am_bins {xs : List Pt} {n : Nat} {wd : Int} (hn : xs.length = n) (hok : okP xs = true) (hw : 1 ≤ wd) : okP (binsF wd xs) = true ∧ (binsF wd xs).length ≤ n ∧ (0 < n → 0 < (binsF wd xs).length ∧ amA (binsF wd xs) ≤ amA xs) := by
  obtain ⟨h1, h2, h3⟩ := okP_num hn hok
  have hl := binsF_len wd _ xs (Nat.le_refl _)
  have hS := fun lo hi (h : ∀ j, j < n → lo ≤ (xs[j]?.getD pt0).2 ∧ (xs[j]?.getD pt0).2 ≤ hi) => binsW_spec hw _ xs (Nat.le_refl _) (LimP.of hn hok h)
  have h20 := hS (-2000) 20000 (fun j hj => (h2 j hj).2.2)
  have hB := okP_of (zs := binsF wd xs) (by omega) (fun q hq => (h20.1 q hq).1) h20.2
  refine ⟨hB, by omega, fun h0 => ?_⟩
  have hpos : 0 < (binsF wd xs).length := by rw [binsF_cons (by omega)]; simp
  exact ⟨hpos, am_le hn rfl hok hB h0 hpos fun lo hi h j hj => ((hS lo hi h).1 _ (getD_memB hj)).1.2⟩
theorem am_smooth {xs : List Pt} {n s : Nat} (hn : xs.length = n) (hok : okP xs = true) (h0 : 0 < n) : amA (smP xs s n) ≤ amA xs :=
  am_le hn (smP_len xs s n) hok (smP_ok hn hok) h0 h0 fun lo hi h j hj => by rw [smP_at hj]; exact rmed_lim hn hj h
/-- the way is at least as long as the range -/
theorem path_far {xs : List Pt} : ∀ (d i : Nat), pathN xs (i + 1) + ((xs[i + d]?.getD pt0).2 - (xs[i]?.getD pt0).2).natAbs ≤ pathN xs (i + d + 1)
  | 0, i => by simp
  | d + 1, i => by
    have ih := path_far (xs := xs) d i
    have e : pathN xs (i + (d + 1) + 1) = pathN xs (i + d + 1) + ((xs[i + d + 1]?.getD pt0).2 - (xs[i + d]?.getD pt0).2).natAbs := by
      rw [show i + (d + 1) + 1 = (i + d + 1) + 1 by omega, pathN, if_neg (by omega), Nat.add_sub_cancel]
    rw [e, show i + (d + 1) = i + d + 1 by omega]
    omega
theorem path_rise {xs : List Pt} : ∀ (d i : Nat), pathN xs i ≤ pathN xs (i + d)
  | 0, _ => Nat.le_refl _
  | d + 1, i => by
    have := path_rise (xs := xs) d i
    rw [show i + (d + 1) = i + d + 1 by omega, pathN]
    omega
theorem path_pair {xs : List Pt} {n i j : Nat} (hij : i ≤ j) (hj : j < n) : ((xs[j]?.getD pt0).2 - (xs[i]?.getD pt0).2).natAbs ≤ pathN xs n := by
  have h1 := path_far (xs := xs) (j - i) i
  have h2 := path_rise (xs := xs) (n - (j + 1)) (j + 1)
  rw [show i + (j - i) = j by omega] at h1
  rw [show j + 1 + (n - (j + 1)) = n by omega] at h2
  omega
theorem path_am {xs : List Pt} {n : Nat} (hn : xs.length = n) (hok : okP xs = true) (h0 : 0 < n) : amA xs ≤ paA xs := by
  rw [(am_0 hn hok h0).2, paA_yes hn hok]
  obtain ⟨⟨i, hi, e1⟩, ⟨j, hj, e2⟩⟩ := mm_is (xs := mgP xs) h0 n (Nat.le_refl n)
  rw [e1, e2, mgP_at, mgP_at]
  by_cases h : i ≤ j
  · have := path_pair (xs := xs) h hj
    omega
  · have := path_pair (xs := xs) (show j ≤ i by omega) hi
    omega
end Go.Proofs.Ytiogffjhhhpolaa
