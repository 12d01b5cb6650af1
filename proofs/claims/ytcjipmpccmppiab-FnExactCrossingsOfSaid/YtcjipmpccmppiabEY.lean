/- Extrema of a light curve: plain lists. -/
import Derived.Test.YtcjipmpccmppiabJ1
import Derived.Test.YtcjipmpccmppiabEB
import Derived.Test.YtcjipmpccmppiabGEx3
namespace Go.Proofs.Ytcjipmpccmppiab

/-- what a point is beside another one -/
def kb (x y : Int) : Int := if x < y then 1 else if y < x then 2 else 0
theorem kb_1 {x y : Int} (h : x < y) : kb x y = 1 := by simp [kb, h]
theorem kb_2 {x y : Int} (h : y < x) : kb x y = 2 := by unfold kb; rw [if_neg (by omega), if_pos h]
theorem kb_0 {x y : Int} (h1 : ¬ x < y) (h : ¬ y < x) : kb x y = 0 := by unfold kb; rw [if_neg h1, if_neg h]
/-- the points before and behind the i-th one are all of a kind beside it -/
def exH (m : Nat → Int) (i s : Nat) (k : Int) : Bool := (List.range s).all (fun j => kb (m i) (m (i - s + j)) == k) && (List.range s).all (fun j => kb (m i) (m (i + 1 + j)) == k || kb (m i) (m (i + 1 + j)) == 0)
def exK (m : Nat → Int) (n s i : Nat) : Int := if i < s ∨ n ≤ i + s then 0 else if exH m i s 1 then 1 else if exH m i s 2 then 2 else 0
def exL (m : Nat → Int) (n s k : Nat) : List Ex := ((List.range k).filter fun i => exK m n s i != 0).map fun i => (exK m n s i, (i : Int))
theorem exL_no {m : Nat → Int} {n s k : Nat} (h : exK m n s k = 0) : exL m n s (k + 1) = exL m n s k := by
  rw [exL, exL, List.range_succ, List.filter_append, List.map_append, List.filter_cons, if_neg (by simp [h])]; simp
theorem exL_yes {m : Nat → Int} {n s k : Nat} {z : Int} (h : exK m n s k = z) (hz : z ≠ 0) : exL m n s (k + 1) = exL m n s k ++ [(z, (k : Int))] := by
  rw [exL, exL, List.range_succ, List.filter_append, List.map_append, List.filter_cons, if_pos (by simp [h, hz])]; simp [h]
theorem exL_len (m : Nat → Int) (n s k : Nat) : (exL m n s k).length ≤ k := by
  rw [exL, List.length_map]; exact Nat.le_trans (List.length_filter_le _ _) (by simp)
theorem exL_low (m : Nat → Int) (n s : Nat) : ∀ k, k ≤ s → exL m n s k = []
  | 0, _ => rfl
  | k + 1, h => by rw [exL_no (by rw [exK, if_pos (.inl (by omega))]), exL_low m n s k (by omega)]
theorem exL_high (m : Nat → Int) (n s k : Nat) (hk : n ≤ k + s) : ∀ d, exL m n s (k + d) = exL m n s k
  | 0 => rfl
  | d + 1 => by rw [show k + (d + 1) = (k + d) + 1 by omega, exL_no (by rw [exK, if_pos (.inr (by omega))]), exL_high m n s k hk d]
theorem exH_iff {m : Nat → Int} {i s : Nat} {k : Int} : exH m i s k = true ↔ (∀ j, j < s → kb (m i) (m (i - s + j)) = k) ∧ ∀ j, j < s → kb (m i) (m (i + 1 + j)) = k ∨ kb (m i) (m (i + 1 + j)) = 0 := by
  simp [exH]
theorem exK_in {m : Nat → Int} {n s i : Nat} (h1 : s ≤ i) (h2 : i + s < n) : exK m n s i = if exH m i s 1 then 1 else if exH m i s 2 then 2 else 0 := by
  rw [exK, if_neg (by omega)]
/-- the kind is that beside the point before, or none -/
theorem exK_yes {m : Nat → Int} {n s i : Nat} {k : Int} (h1 : s ≤ i) (h2 : i + s < n) (hs : 1 ≤ s) (hk : kb (m i) (m (i - 1)) = k) (hk0 : k ≠ 0) (h : exH m i s k = true) : exK m n s i = k := by
  rw [exK_in h1 h2]
  have hd : k = 1 ∨ k = 2 := by rw [← hk] at hk0 ⊢; unfold kb at hk0 ⊢; split; (exact .inl rfl); split; (exact .inr rfl); simp_all
  rcases hd with e | e
  · rw [e] at h ⊢; rw [if_pos h]
  · rw [e] at h ⊢
    have h3 : exH m i s 1 = false := by
      cases hh : exH m i s 1 with
      | false => rfl
      | true =>
        have a := (exH_iff.1 hh).1 (s - 1) (by omega)
        have b := (exH_iff.1 h).1 (s - 1) (by omega)
        rw [a] at b; cases b
    rw [h3, if_neg (by simp), if_pos h]
theorem exK_no {m : Nat → Int} {n s i : Nat} {k : Int} (h1 : s ≤ i) (h2 : i + s < n) (hs : 1 ≤ s) (hk : kb (m i) (m (i - 1)) = k) (h : k = 0 ∨ exH m i s k = false) : exK m n s i = 0 := by
  rw [exK_in h1 h2]
  have hno : ∀ z, z ≠ 0 → exH m i s z = true → z = k ∧ k ≠ 0 := fun z hz hh => by
    have a := (exH_iff.1 hh).1 (s - 1) (by omega)
    rw [show i - s + (s - 1) = i - 1 by omega, hk] at a
    exact ⟨a.symm, by omega⟩
  have h3 : ∀ z, z ≠ 0 → exH m i s z = false := fun z hz => by
    cases hh : exH m i s z with
    | false => rfl
    | true =>
      obtain ⟨e, hk0⟩ := hno z hz hh
      rcases h with h | h
      · exact absurd h hk0
      · rw [← e, hh] at h; cases h
  rw [h3 1 (by decide), h3 2 (by decide)]; simp
/-! ### the answers -/
def exC (xs : List Pt) (s : Int) : Int := if okP xs then (if inB s 1 10 then 0 else 2) else 1
def exA (xs : List Pt) (s : Int) : List Ex := if exC xs s = 0 then exL (mgX xs) xs.length s.toNat xs.length else []
theorem exA_1 {xs : List Pt} {s : Int} (h : okP xs = false) : exC xs s = 1 ∧ exA xs s = [] := by simp [exA, exC, h]
theorem exA_2 {xs : List Pt} {s : Int} (h : okP xs = true) (h2 : inB s 1 10 = false) : exC xs s = 2 ∧ exA xs s = [] := by simp [exA, exC, h, h2]
theorem exA_0 {xs : List Pt} {s : Int} {n : Nat} (hn : xs.length = n) (h : okP xs = true) (h2 : inB s 1 10 = true) : exC xs s = 0 ∧ exA xs s = exL (mgX xs) n s.toNat n := by simp [exA, exC, h, h2, hn]
theorem exA_len {xs : List Pt} {s : Int} {n : Nat} (h : xs.length ≤ n) : (exA xs s).length ≤ n := by
  unfold exA
  split
  · exact Nat.le_trans (exL_len _ _ _ _) h
  · simp
theorem exL_at {m : Nat → Int} {n s k j : Nat} (hj : j < (exL m n s k).length) : ∃ i : Nat, i < k ∧ i < n ∧ exK m n s i ≠ 0 ∧ (exL m n s k)[j]?.getD ex0 = (exK m n s i, (i : Int)) := by
  rw [List.getElem?_eq_getElem hj, Option.getD_some]
  have hm := List.getElem_mem hj
  obtain ⟨y, hy⟩ : ∃ y, (exL m n s k)[j] = y := ⟨_, rfl⟩
  rw [hy] at hm ⊢
  simp only [exL, List.mem_map] at hm
  obtain ⟨i, hi, he⟩ := hm
  rw [List.mem_filter, List.mem_range] at hi
  have h0 : exK m n s i ≠ 0 := by simpa using hi.2
  refine ⟨i, hi.1, ?_, h0, he.symm⟩
  have : ¬ (i < s ∨ n ≤ i + s) := fun h => h0 (by rw [exK, if_pos h])
  omega
end Go.Proofs.Ytcjipmpccmppiab
