/- Deep extrema, rises, mean cycles: plain lists. -/
import Derived.Test.YtcjipmpccmppiabEX
import Derived.Test.YtcjipmpccmppiabEY
namespace Go.Proofs.Ytcjipmpccmppiab

/-- by how much an extremum is higher than another one -/
def deH (xs : List Pt) (x y : Ex) : Int := if x.1 = 2 then -(mgX xs y.2.toNat - mgX xs x.2.toNat) else mgX xs y.2.toNat - mgX xs x.2.toNat
def deB (xs : List Pt) (L : List Ex) (b : Int) (i : Nat) : Bool := (decide (i = 0) || decide (b ≤ deH xs (L[i]?.getD ex0) (L[i - 1]?.getD ex0))) && (decide (L.length ≤ i + 1) || decide (b ≤ deH xs (L[i]?.getD ex0) (L[i + 1]?.getD ex0)))
def deL (xs : List Pt) (L : List Ex) (b : Int) (k : Nat) : List Ex := ((List.range k).filter (deB xs L b)).map fun i => L[i]?.getD ex0
theorem deL_no {xs : List Pt} {L : List Ex} {b : Int} {k : Nat} (h : deB xs L b k = false) : deL xs L b (k + 1) = deL xs L b k := by
  rw [deL, deL, List.range_succ, List.filter_append, List.map_append, List.filter_cons, if_neg (by simp [h])]; simp
theorem deL_yes {xs : List Pt} {L : List Ex} {b : Int} {k : Nat} {x : Ex} (hx : L[k]?.getD ex0 = x) (h : deB xs L b k = true) : deL xs L b (k + 1) = deL xs L b k ++ [x] := by
  rw [deL, deL, List.range_succ, List.filter_append, List.map_append, List.filter_cons, if_pos h]; simp [hx]
theorem deL_len (xs : List Pt) (L : List Ex) (b : Int) (k : Nat) : (deL xs L b k).length ≤ k := by
  rw [deL, List.length_map]; exact Nat.le_trans (List.length_filter_le _ _) (by simp)
/-- an extremum of a curve -/
def isE (n : Nat) (x : Ex) : Bool := inB x.1 1 2 && inB x.2 0 ((n : Int) - 1)
def okE (n : Nat) (L : List Ex) (i : Nat) : Bool := isE n (L[i]?.getD ex0) && (decide (i = 0) || decide ((L[i - 1]?.getD ex0).2 < (L[i]?.getD ex0).2))
def lsE (n : Nat) (L : List Ex) : Bool := (List.range L.length).all (okE n L)
theorem lsE_bad {n m k : Nat} {L : List Ex} (hm : L.length = m) (hk : k < m) (h : okE n L k = false) : lsE n L = false := not_all_rangeP (k := k) (by omega) h
theorem lsE_yes {n m : Nat} {L : List Ex} (hm : L.length = m) (h : ∀ k, k < m → okE n L k = true) : lsE n L = true := all_rangeP fun k hk => h k (by omega)
theorem lsE_at {n m k : Nat} {L : List Ex} (hm : L.length = m) (h : lsE n L = true) (hk : k < m) : okE n L k = true := by
  simp only [lsE, List.all_eq_true, List.mem_range] at h
  exact h k (by omega)
theorem isE_iff {n : Nat} {x : Ex} : isE n x = true ↔ (1 ≤ x.1 ∧ x.1 ≤ 2) ∧ 0 ≤ x.2 ∧ x.2 ≤ (n : Int) - 1 := by simp [isE, inB_iff]
theorem okE_num {n m k : Nat} {L : List Ex} {x : Ex} (hm : L.length = m) (h : lsE n L = true) (hk : k < m) (hx : L[k]?.getD ex0 = x) : (x.1 = 1 ∨ x.1 = 2) ∧ ∃ q : Nat, x.2 = (q : Int) ∧ q < n := by
  have := lsE_at hm h hk
  rw [okE, Bool.and_eq_true, hx, isE_iff] at this
  exact ⟨by omega, x.2.toNat, by omega, by omega⟩
def deC (xs : List Pt) (L : List Ex) (b : Int) : Int := if okP xs then (if lsE xs.length L && inB b 0 20000 then 0 else 2) else 1
def deA (xs : List Pt) (L : List Ex) (b : Int) : List Ex := if deC xs L b = 0 then deL xs L b L.length else []
theorem de_1 {xs : List Pt} {L : List Ex} {b : Int} (h : okP xs = false) : deC xs L b = 1 ∧ deA xs L b = [] := by simp [deA, deC, h]
theorem de_2 {xs : List Pt} {L : List Ex} {b : Int} {n : Nat} (hn : xs.length = n) (h : okP xs = true) (h2 : (lsE n L && inB b 0 20000) = false) : deC xs L b = 2 ∧ deA xs L b = [] := by subst hn; simp only [deA, deC, h, h2]; simp
theorem de_0 {xs : List Pt} {L : List Ex} {b : Int} {n m : Nat} (hn : xs.length = n) (hm : L.length = m) (h : okP xs = true) (h2 : (lsE n L && inB b 0 20000) = true) : deC xs L b = 0 ∧ deA xs L b = deL xs L b m := by subst hn; subst hm; simp only [deA, deC, h, h2]; simp
theorem deA_len {xs : List Pt} {L : List Ex} {b : Int} {n : Nat} (h : L.length ≤ n) : (deA xs L b).length ≤ n := by
  unfold deA
  split
  · exact Nat.le_trans (deL_len _ _ _ _) h
  · simp
/-! ### rises -/
def riB (L : List Ex) (i : Nat) : Bool := (L[i]?.getD ex0).1 == 2 && (L[i + 1]?.getD ex0).1 == 1
def riT (xs : List Pt) (L : List Ex) (i : Nat) : Int := tmX xs (L[i + 1]?.getD ex0).2.toNat - tmX xs (L[i]?.getD ex0).2.toNat
def riL (xs : List Pt) (L : List Ex) (k : Nat) : List Int := ((List.range k).filter (riB L)).map (riT xs L)
theorem riL_no {xs : List Pt} {L : List Ex} {k : Nat} (h : riB L k = false) : riL xs L (k + 1) = riL xs L k := by
  rw [riL, riL, List.range_succ, List.filter_append, List.map_append, List.filter_cons, if_neg (by simp [h])]; simp
theorem riL_yes {xs : List Pt} {L : List Ex} {k : Nat} {t : Int} (h : riB L k = true) (ht : riT xs L k = t) : riL xs L (k + 1) = riL xs L k ++ [t] := by
  rw [riL, riL, List.range_succ, List.filter_append, List.map_append, List.filter_cons, if_pos h]; simp [ht]
theorem riL_len (xs : List Pt) (L : List Ex) (k : Nat) : (riL xs L k).length ≤ k := by
  rw [riL, List.length_map]; exact Nat.le_trans (List.length_filter_le _ _) (by simp)
def riA (xs : List Pt) (s : Int) : List Int := riL xs (exA xs s) ((exA xs s).length - 1)
theorem riA_len {xs : List Pt} {s : Int} {n : Nat} (h : xs.length ≤ n) : (riA xs s).length ≤ n := by
  have h1 := exA_len (s := s) h
  have h2 := riL_len xs (exA xs s) ((exA xs s).length - 1)
  unfold riA
  omega
theorem riA_nil {xs : List Pt} {s : Int} (h : exA xs s = []) : riA xs s = [] := by rw [riA, h]; rfl
/-! ### mean cycles -/
def mcO (xs : List Pt) (s k : Int) : List Ex := (exA xs s).filter fun x => x.1 == k
def mcC (xs : List Pt) (s k : Int) : Int := if okP xs then (if inB s 1 10 && inB k 1 2 then (if (mcO xs s k).length < 2 then 3 else 0) else 2) else 1
def mcT (xs : List Pt) (s k : Int) : Int := tmX xs ((mcO xs s k)[(mcO xs s k).length - 1]?.getD ex0).2.toNat - tmX xs ((mcO xs s k)[0]?.getD ex0).2.toNat
def mcF (xs : List Pt) (s k : Int) : Int × Int × Int := if mcC xs s k = 0 then (lowN (mcT xs s k) (((mcO xs s k).length - 1 : Nat) : Int), lowD (mcT xs s k) (((mcO xs s k).length - 1 : Nat) : Int), 0) else (0, 0, mcC xs s k)
theorem mcF_no {xs : List Pt} {s k c : Int} (h : mcC xs s k = c) (hc : c ≠ 0) : mcF xs s k = (0, 0, c) := by subst h; simp [mcF, hc]
theorem mc_1 {xs : List Pt} {s k : Int} (h : okP xs = false) : mcC xs s k = 1 := by simp [mcC, h]
theorem mc_2 {xs : List Pt} {s k : Int} (h : okP xs = true) (h2 : (inB s 1 10 && inB k 1 2) = false) : mcC xs s k = 2 := by simp only [mcC, h, h2]; simp
theorem mc_3 {xs : List Pt} {s k : Int} {O : List Ex} (h : okP xs = true) (h2 : (inB s 1 10 && inB k 1 2) = true) (hO : mcO xs s k = O) (h3 : O.length < 2) : mcC xs s k = 3 := by simp only [mcC, h, h2, hO]; simp [h3]
theorem mc_0 {xs : List Pt} {s k : Int} {O : List Ex} (h : okP xs = true) (h2 : (inB s 1 10 && inB k 1 2) = true) (hO : mcO xs s k = O) (h3 : ¬ O.length < 2) : mcC xs s k = 0 := by simp only [mcC, h, h2, hO]; simp [h3]
end Go.Proofs.Ytcjipmpccmppiab
