/- Bins of a light curve: plain lists. -/
import Derived.Test.YtidiiladlmaigaaJ1
import Derived.Test.YtidiiladlmaigaaJN
namespace Go.Proofs.Ytidiiladlmaigaa

theorem tw_len {p : Pt → Bool} : ∀ (l : List Pt) (t : Nat), t ≤ l.length → (∀ j, j < t → p (l[j]?.getD pt0) = true) → (t = l.length ∨ p (l[t]?.getD pt0) = false) → (l.takeWhile p).length = t
  | [], t, h, _, _ => by simp at h; simp [h]
  | x :: l, 0, _, _, h => by
    have : p x = false := by simpa using h
    simp [this]
  | x :: l, t + 1, h, h1, h2 => by
    have hx : p x = true := by simpa using h1 0 (by omega)
    have ih := tw_len (p := p) l t (by simpa using h) (fun j hj => by simpa using h1 (j + 1) (by omega)) (by simpa using h2)
    simp [hx, ih]
theorem tw_is {p : Pt → Bool} : ∀ (l : List Pt), (l.takeWhile p).length ≤ l.length ∧ (∀ j, j < (l.takeWhile p).length → p (l[j]?.getD pt0) = true) ∧ ((l.takeWhile p).length = l.length ∨ p (l[(l.takeWhile p).length]?.getD pt0) = false)
  | [] => ⟨by simp, by simp, .inl rfl⟩
  | x :: l => by
    obtain ⟨h1, h2, h3⟩ := tw_is (p := p) l
    cases hx : p x
    · simp [hx]
    · simp only [List.takeWhile_cons, hx, if_true, List.length_cons, List.getElem?_cons_succ]
      refine ⟨by omega, fun j hj => ?_, h3.imp (fun e => by omega) id⟩
      match j with
      | 0 => simpa using hx
      | j + 1 => simpa using h2 j (by omega)
/-- how many of the first points are in the first one's bin -/
def sameW (wd : Int) (x y : Pt) : Bool := y.1.tdiv wd == x.1.tdiv wd
def grp (wd : Int) (xs : List Pt) : Nat := (xs.takeWhile fun y => sameW wd (xs[0]?.getD pt0) y).length
theorem grp_is {wd : Int} {xs : List Pt} {n t : Nat} (hn : xs.length = n) (ht : t ≤ n) (h : ∀ j, j < t → sameW wd (xs[0]?.getD pt0) (xs[j]?.getD pt0) = true) (h2 : t = n ∨ sameW wd (xs[0]?.getD pt0) (xs[t]?.getD pt0) = false) : grp wd xs = t :=
  tw_len (p := fun y => sameW wd (xs[0]?.getD pt0) y) xs t (by omega) h (by rw [hn]; exact h2)
theorem grp_le (wd : Int) (xs : List Pt) : grp wd xs ≤ xs.length := (tw_is xs).1
theorem grp_pos (wd : Int) {xs : List Pt} (h : 0 < xs.length) : 0 < grp wd xs := by
  match xs, h with
  | x :: l, _ => simp [grp, sameW]
theorem grp_at (wd : Int) (xs : List Pt) : (∀ j, j < grp wd xs → sameW wd (xs[0]?.getD pt0) (xs[j]?.getD pt0) = true) ∧ (grp wd xs = xs.length ∨ sameW wd (xs[0]?.getD pt0) (xs[grp wd xs]?.getD pt0) = false) :=
  (tw_is (p := fun y => sameW wd (xs[0]?.getD pt0) y) xs).2
def sT (xs : List Pt) : Nat → Int := sumF fun j => (xs[j]?.getD pt0).1
def sM (xs : List Pt) : Nat → Int := sumF fun j => (xs[j]?.getD pt0).2
def binP (wd : Int) (xs : List Pt) : Pt := (rnd (sT xs (grp wd xs)) (grp wd xs), rnd (sM xs (grp wd xs)) (grp wd xs))
def binsF (wd : Int) (xs : List Pt) : List Pt :=
  if _h : 0 < xs.length then binP wd xs :: binsF wd (xs.drop (grp wd xs)) else []
termination_by xs.length
decreasing_by rw [List.length_drop]; have := grp_pos wd (xs := xs) (by assumption); omega
theorem binsF_nil {wd : Int} {xs : List Pt} (h : xs.length = 0) : binsF wd xs = [] := by rw [binsF, dif_neg (by omega)]
theorem binsF_cons {wd : Int} {xs : List Pt} (h : 0 < xs.length) : binsF wd xs = binP wd xs :: binsF wd (xs.drop (grp wd xs)) := by rw [binsF, dif_pos h]
theorem binsF_len (wd : Int) : ∀ (n : Nat) (xs : List Pt), xs.length ≤ n → (binsF wd xs).length ≤ xs.length
  | n, xs, hn => by
    by_cases h : 0 < xs.length
    · rw [binsF_cons h, List.length_cons]
      have h1 := grp_pos wd h
      have h2 := List.length_drop (i := grp wd xs) (l := xs)
      match n with
      | 0 => omega
      | n + 1 =>
        have := binsF_len wd n (xs.drop (grp wd xs)) (by omega)
        omega
    · rw [binsF_nil (by omega)]; simp
theorem drop_at (xs : List Pt) (i j : Nat) : (xs.drop i)[j]?.getD pt0 = xs[i + j]?.getD pt0 := by rw [List.getElem?_drop]
/-- one bin more -/
theorem binsF_step {wd : Int} {xs B : List Pt} {n i t : Nat} (hn : xs.length = n) (hi : i < n) (ht : t ≤ n - i) (hB : binsF wd xs = B ++ binsF wd (xs.drop i)) (h : ∀ j, j < t → sameW wd (xs[i]?.getD pt0) (xs[i + j]?.getD pt0) = true) (h2 : i + t = n ∨ sameW wd (xs[i]?.getD pt0) (xs[i + t]?.getD pt0) = false) :
    binsF wd xs = (B ++ [(rnd (sumF (fun j => (xs[i + j]?.getD pt0).1) t) t, rnd (sumF (fun j => (xs[i + j]?.getD pt0).2) t) t)]) ++ binsF wd (xs.drop (i + t)) := by
  have hl : (xs.drop i).length = n - i := by rw [List.length_drop, hn]
  have hg : grp wd (xs.drop i) = t := grp_is hl ht (fun j hj => by rw [drop_at, drop_at]; exact h j hj) (by rw [drop_at, drop_at]; rcases h2 with h2 | h2; exact .inl (by omega); exact .inr h2)
  rw [hB, binsF_cons (by omega), hg, binP, hg, List.drop_drop, List.append_assoc, List.singleton_append]
  have e1 : sT (xs.drop i) t = sumF (fun j => (xs[i + j]?.getD pt0).1) t := by simp only [sT, drop_at]
  have e2 : sM (xs.drop i) t = sumF (fun j => (xs[i + j]?.getD pt0).2) t := by simp only [sM, drop_at]
  rw [e1, e2]
/-- what sort.Search finds: the length of the first bin -/
theorem srch_grp {wd : Int} {xs : List Pt} {n : Nat} (hn : xs.length = n) (h0 : 0 < n) (hw : 1 ≤ wd) (hnn : ∀ j, j < n → 0 ≤ (xs[j]?.getD pt0).1) (hs : ∀ a b, a ≤ b → b < n → (xs[a]?.getD pt0).1 ≤ (xs[b]?.getD pt0).1) :
    (List.range n).countP (fun i => !decide (((xs[0]?.getD pt0).1.tdiv wd + 1) * wd ≤ (xs[i]?.getD pt0).1)) = grp wd xs := by
  obtain ⟨g1, g2⟩ := grp_at wd xs
  have g3 := grp_le wd xs
  have hd : ∀ j, j < n → (xs[j]?.getD pt0).1.tdiv wd = (xs[j]?.getD pt0).1 / wd := fun j hj => Int.tdiv_eq_ediv_of_nonneg (hnn j hj)
  have key : ∀ j, j < n → (sameW wd (xs[0]?.getD pt0) (xs[j]?.getD pt0) = true ↔ ¬ ((xs[0]?.getD pt0).1.tdiv wd + 1) * wd ≤ (xs[j]?.getD pt0).1) := fun j hj => by
    have a := hs 0 j (by omega) hj
    rw [sameW, hd j hj, hd 0 h0, beq_iff_eq]
    generalize (xs[0]?.getD pt0).1 = u at a ⊢
    generalize (xs[j]?.getD pt0).1 = v at a ⊢
    have e1 := Int.ediv_le_ediv (show 0 < wd by omega) a
    have e2 := Int.le_ediv_iff_mul_le (a := u / wd + 1) (b := v) (show 0 < wd by omega)
    constructor
    · intro h h3
      have := e2.2 h3
      omega
    · intro h
      have : ¬ u / wd + 1 ≤ v / wd := fun h4 => h (e2.1 h4)
      omega
  have hc : ∀ (m : Nat) (f : Nat → Bool) (i : Nat), i ≤ m → (∀ t, t < i → f t = true) → (∀ t, i ≤ t → t < m → f t = false) → (List.range m).countP f = i := by
    intro m
    induction m with
    | zero => intro f i hi _ _; simp; omega
    | succ m ih =>
      intro f i hi h1 h2
      rw [List.range_succ, List.countP_append, List.countP_singleton]
      by_cases hm : i = m + 1
      · rw [ih f m (Nat.le_refl _) (fun t ht => h1 t (by omega)) (fun t ht1 ht2 => by omega), h1 m (by omega)]
        simp; omega
      · rw [ih f i (by omega) h1 (fun t ht1 ht2 => h2 t ht1 (by omega)), h2 m (by omega) (by omega)]
        simp
  refine hc n _ _ (by omega) (fun t ht => ?_) (fun t ht1 ht2 => ?_)
  · have := (key t (by omega)).1 (g1 t ht)
    simpa using this
  · rcases g2 with g2 | g2
    · omega
    · have hk : ((xs[0]?.getD pt0).1.tdiv wd + 1) * wd ≤ (xs[grp wd xs]?.getD pt0).1 := by
        by_cases h : ((xs[0]?.getD pt0).1.tdiv wd + 1) * wd ≤ (xs[grp wd xs]?.getD pt0).1
        · exact h
        · have := (key _ (by omega)).2 h
          rw [this] at g2; cases g2
      have := hs _ _ ht1 ht2
      simp
      omega
end Go.Proofs.Ytidiiladlmaigaa
