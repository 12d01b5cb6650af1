/- The light curve of estimates: plain lists. -/
import Derived.Test.YtiogffjhhhpolaaE4
import Derived.Test.YtiogffjhhhpolaaJB
namespace Go.Proofs.Ytiogffjhhhpolaa

def pSeen (s : ByteArray) (x : Es) : Bool := x.2.1.toList == s.toList && !x.2.2.2.2
def ptE (x : Es) : Pt := (x.1, x.2.2.2.1)
def ptsE (s : ByteArray) (xs : List Es) : List Pt := (xs.filter (pSeen s)).map ptE
theorem ptsE_app (s : ByteArray) (xs ys : List Es) : ptsE s (xs ++ ys) = ptsE s xs ++ ptsE s ys := by simp [ptsE]
theorem ptsE_len (s : ByteArray) (xs : List Es) : (ptsE s xs).length ≤ xs.length := by
  have := List.length_filter_le (pSeen s) xs
  simp only [ptsE, List.length_map]
  omega
theorem ptsE_mem {s : ByteArray} {xs : List Es} {p : Pt} (h : p ∈ ptsE s xs) : ∃ x ∈ xs, p = ptE x := by
  simp only [ptsE, List.mem_map, List.mem_filter] at h
  obtain ⟨x, ⟨h1, _⟩, h2⟩ := h
  exact ⟨x, h1, h2.symm⟩
theorem getD_mem {xs : List Pt} {j : Nat} (h : j < xs.length) : xs[j]?.getD pt0 ∈ xs := by
  rw [List.getElem?_eq_getElem h, Option.getD_some]; exact List.getElem_mem h
theorem sM_app (P Q : List Pt) : ∀ k, k ≤ P.length → sM (P ++ Q) k = sM P k
  | 0, _ => rfl
  | k + 1, hk => by
    have ih := sM_app P Q k (by omega)
    unfold sM at ih ⊢
    simp only [sumF, ih]
    rw [List.getElem?_append_left (by omega)]
theorem sM_snoc (P : List Pt) (p : Pt) : sM (P ++ [p]) (P.length + 1) = sM P P.length + p.2 := by
  have h := sM_app P [p] P.length (Nat.le_refl _)
  unfold sM at h ⊢
  simp only [sumF, h]
  rw [List.getElem?_append_right (Nat.le_refl _)]
  simp
theorem sT_const {P : List Pt} {T : Int} : ∀ k, k ≤ P.length → (∀ j, j < k → (P[j]?.getD pt0).1 = T) → sT P k = k * T
  | 0, _, _ => by simp [sT, sumF]
  | k + 1, hk, h => by
    have ih := sT_const (P := P) (T := T) k (by omega) (fun j hj => h j (by omega))
    have h1 := h k (by omega)
    unfold sT at ih ⊢
    simp only [sumF, ih, h1]
    grind
theorem rnd_mul {T : Int} {n : Nat} (h : 0 < n) : rnd (n * T) n = T := by
  have h1 : 2 * ((n : Int) * T) + n = n + T * (2 * n) := by grind
  rw [rnd, h1, Int.add_mul_ediv_right _ _ (by omega), Int.ediv_eq_zero_of_lt (by omega) (by omega)]
  omega
theorem sameW_one {x y : Pt} : sameW 1 x y = decide (y.1 = x.1) := by
  simp only [sameW, Int.tdiv_one]
  rw [Bool.eq_iff_iff]; simp
/-- points of one time, then points of others: the first bin -/
theorem bins_head {P Q : List Pt} {T : Int} (h0 : 0 < P.length) (hP : ∀ p ∈ P, p.1 = T) (hQ : ∀ q ∈ Q, q.1 ≠ T) : binsF 1 (P ++ Q) = (T, rnd (sM P P.length) P.length) :: binsF 1 Q := by
  have hl : (P ++ Q).length = P.length + Q.length := by simp
  have h0' : ((P ++ Q)[0]?.getD pt0).1 = T := by rw [List.getElem?_append_left h0]; exact hP _ (getD_mem h0)
  have hPj : ∀ j, j < P.length → ((P ++ Q)[j]?.getD pt0).1 = T := fun j hj => by rw [List.getElem?_append_left hj]; exact hP _ (getD_mem hj)
  have hg : grp 1 (P ++ Q) = P.length := by
    refine grp_is hl (by omega) (fun j hj => ?_) ?_
    · rw [sameW_one, h0', hPj j hj]; simp
    · by_cases hq : Q.length = 0
      · exact .inl (by omega)
      · refine .inr ?_
        rw [sameW_one, h0', List.getElem?_append_right (Nat.le_refl _), Nat.sub_self]
        simpa using hQ _ (getD_mem (by omega))
  rw [binsF_cons (by omega), hg, List.drop_left, binP, hg, sM_app P Q _ (Nat.le_refl _)]
  have : sT (P ++ Q) P.length = P.length * T := sT_const _ (by omega) hPj
  rw [this, rnd_mul h0]
/-- the estimates of one time, from the i-th one on -/
def seenG (s : ByteArray) (xs : List Es) (i t : Nat) : List Pt := ptsE s ((xs.drop i).take t)
theorem seenG_zero (s : ByteArray) (xs : List Es) (i : Nat) : seenG s xs i 0 = [] := by simp [seenG, ptsE]
theorem seenG_succ {s : ByteArray} {xs : List Es} {i t n : Nat} {x : Es} (hn : xs.length = n) (ht : i + t < n) (hx : xs[i + t]?.getD es0 = x) : seenG s xs i (t + 1) = seenG s xs i t ++ (if pSeen s x then [ptE x] else []) := by
  have e : t < (xs.drop i).length := by rw [List.length_drop]; omega
  have h1 : (xs.drop i)[t] = x := by
    rw [List.getElem?_eq_getElem (by omega), Option.getD_some] at hx
    rw [List.getElem_drop]; exact hx
  unfold seenG
  rw [← List.take_append_getElem e, ptsE_app, h1]
  congr 1
  cases h : pSeen s x <;> simp [ptsE, h]
theorem seenG_yes {s : ByteArray} {xs : List Es} {i t n : Nat} {x : Es} (hn : xs.length = n) (ht : i + t < n) (hx : xs[i + t]?.getD es0 = x) (h : pSeen s x = true) : sM (seenG s xs i (t + 1)) (seenG s xs i (t + 1)).length = sM (seenG s xs i t) (seenG s xs i t).length + x.2.2.2.1 ∧ (seenG s xs i (t + 1)).length = (seenG s xs i t).length + 1 := by
  rw [seenG_succ hn ht hx, if_pos h, List.length_append, List.length_singleton, sM_snoc]
  exact ⟨rfl, rfl⟩
theorem seenG_no {s : ByteArray} {xs : List Es} {i t n : Nat} {x : Es} (hn : xs.length = n) (ht : i + t < n) (hx : xs[i + t]?.getD es0 = x) (h : pSeen s x = false) : seenG s xs i (t + 1) = seenG s xs i t := by
  rw [seenG_succ hn ht hx, if_neg (by rw [h]; simp), List.append_nil]
theorem seenG_len (s : ByteArray) (xs : List Es) (i t : Nat) : (seenG s xs i t).length ≤ t := by
  have h1 := ptsE_len s ((xs.drop i).take t)
  have h2 : ((xs.drop i).take t).length ≤ t := by rw [List.length_take]; omega
  unfold seenG
  omega
/-- the parts of a list behind one time: points, or none -/
theorem seen_split {s : ByteArray} {xs : List Es} {i t n : Nat} (hn : xs.length = n) (hi : i + t ≤ n) (ht : ∀ j, j < t → (xs[i + j]?.getD es0).1 = (xs[i]?.getD es0).1) (h2 : i + t = n ∨ (xs[i + t]?.getD es0).1 ≠ (xs[i]?.getD es0).1) (hs : ∀ a b, a ≤ b → b < n → (xs[a]?.getD es0).1 ≤ (xs[b]?.getD es0).1) :
    binsF 1 (ptsE s (xs.drop i)) = (if 0 < (seenG s xs i t).length then [((xs[i]?.getD es0).1, rnd (sM (seenG s xs i t) (seenG s xs i t).length) (seenG s xs i t).length)] else []) ++ binsF 1 (ptsE s (xs.drop (i + t))) := by
  have hd : xs.drop i = (xs.drop i).take t ++ xs.drop (i + t) := by rw [← List.drop_drop, List.take_append_drop]
  have hsp : ptsE s (xs.drop i) = seenG s xs i t ++ ptsE s (xs.drop (i + t)) := by
    have h := ptsE_app s ((xs.drop i).take t) (xs.drop (i + t))
    rw [← hd] at h
    exact h
  have hat : ∀ j, j < n → ∀ x, xs[j]? = some x → xs[j]?.getD es0 = x := fun j _ x e => by rw [e]; rfl
  rw [hsp]
  by_cases h0 : 0 < (seenG s xs i t).length
  · rw [if_pos h0]
    refine bins_head h0 (fun p hp => ?_) (fun q hq => ?_)
    · obtain ⟨x, hx, rfl⟩ := ptsE_mem hp
      obtain ⟨j, hj, rfl⟩ := List.mem_iff_getElem.1 hx
      have hj' : j < t ∧ i + j < n := by rw [List.length_take, List.length_drop] at hj; omega
      have := ht j hj'.1
      rw [List.getElem?_eq_getElem (by omega), Option.getD_some] at this
      simpa [ptE] using this
    · obtain ⟨x, hx, rfl⟩ := ptsE_mem hq
      obtain ⟨j, hj, rfl⟩ := List.mem_iff_getElem.1 hx
      rw [List.length_drop] at hj
      rcases h2 with h2 | h2
      · omega
      · have a1 := hs i (i + t) (by omega) (by omega)
        have a2 := hs (i + t) (i + t + j) (by omega) (by omega)
        rw [List.getElem?_eq_getElem (show i + t + j < xs.length by omega), Option.getD_some] at a2
        show (((xs.drop (i + t))[j]'(by rw [List.length_drop]; omega)).1 : Int) ≠ _
        rw [List.getElem_drop]
        omega
  · have : seenG s xs i t = [] := List.length_eq_zero_iff.1 (by omega)
    rw [if_neg h0, this, List.nil_append, List.nil_append]
def coC (xs : List Es) (s : ByteArray) : Int := if okE xs then (if nameB s then 0 else 2) else 1
def coL (xs : List Es) (s : ByteArray) : List Pt := if coC xs s = 0 then binsF 1 (ptsE s xs) else []
theorem co_1 {xs : List Es} {s : ByteArray} (h : okE xs = false) : coC xs s = 1 ∧ coL xs s = [] := by simp [coL, coC, h]
theorem co_2 {xs : List Es} {s : ByteArray} (h : okE xs = true) (h2 : nameB s = false) : coC xs s = 2 ∧ coL xs s = [] := by simp [coL, coC, h, h2]
theorem co_0 {xs : List Es} {s : ByteArray} (h : okE xs = true) (h2 : nameB s = true) : coC xs s = 0 ∧ coL xs s = binsF 1 (ptsE s xs) := by simp [coL, coC, h, h2]
theorem coL_len {xs : List Es} {s : ByteArray} {n : Nat} (h : xs.length ≤ n) : (coL xs s).length ≤ n := by
  unfold coL
  split
  · have h1 := binsF_len 1 _ (ptsE s xs) (Nat.le_refl _)
    have h2 := ptsE_len s xs
    omega
  · simp
end Go.Proofs.Ytiogffjhhhpolaa
