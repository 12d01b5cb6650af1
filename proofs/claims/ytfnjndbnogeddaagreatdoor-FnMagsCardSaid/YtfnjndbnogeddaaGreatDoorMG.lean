/- Facts of FnMags: magnitudes between, the mean and the median, how many are below and above it; the text of a magnitude is read back. -/
import Derived.Test.YtfnjndbnogeddaaGreatDoorB2
import Derived.Test.YtfnjndbnogeddaaGreatDoorB5
import Derived.Test.YtfnjndbnogeddaaGreatDoorM4
import Derived.Test.YtfnjndbnogeddaaGreatDoorR8
namespace Go.Proofs.YtfnjndbnogeddaaGreatDoor

theorem rnd_rng {num den lo hi : Int} (hd : 0 < den) (h1 : lo * den ≤ num) (h2 : num ≤ hi * den) : lo ≤ rnd num den ∧ rnd num den ≤ hi := by
  unfold rnd
  constructor
  · refine (Int.le_ediv_iff_mul_le (by omega)).2 ?_
    have : lo * (2 * den) = 2 * (lo * den) := by grind
    omega
  · have h3 : (2 * num + den) / (2 * den) < hi + 1 := by
      refine Int.ediv_lt_of_lt_mul (by omega) ?_
      have : (hi + 1) * (2 * den) = 2 * (hi * den) + 2 * den := by grind
      omega
    omega
theorem btw_rng {a b p q : Int} (ha : magB a = true) (hb : magB b = true) (hp : 0 ≤ p) (hp2 : p ≤ 50) (hq : 0 ≤ q) (hq2 : q ≤ 50) (h0 : 0 < p + q) : ∃ m, btw a b p q = two m 0 ∧ min a b ≤ m ∧ m ≤ max a b := by
  have e1 : inB p 0 50 = true := inB_iff.2 ⟨hp, hp2⟩
  have e2 : inB q 0 50 = true := inB_iff.2 ⟨hq, hq2⟩
  refine ⟨rnd (a * q + b * p) (p + q), ?_, ?_⟩
  · unfold btw
    simp only [ha, hb, e1, e2, Bool.and_self, if_true]
    rw [if_neg (by omega)]
  · have h1 : min a b * (p + q) ≤ a * q + b * p := by
      have x1 := Int.mul_le_mul_of_nonneg_right (show min a b ≤ a by omega) hq
      have x2 := Int.mul_le_mul_of_nonneg_right (show min a b ≤ b by omega) hp
      rw [Int.mul_add]; omega
    have h2 : a * q + b * p ≤ max a b * (p + q) := by
      have x1 := Int.mul_le_mul_of_nonneg_right (show a ≤ max a b by omega) hq
      have x2 := Int.mul_le_mul_of_nonneg_right (show b ≤ max a b by omega) hp
      rw [Int.mul_add]; omega
    exact rnd_rng h0 h1 h2
theorem btw_left {a b q : Int} (ha : magB a = true) (hb : magB b = true) (hq : 0 < q) (hq2 : q ≤ 50) : btw a b 0 q = two a 0 := by
  have e1 : inB 0 0 50 = true := inB_iff.2 (by omega)
  have e2 : inB q 0 50 = true := inB_iff.2 (by omega)
  unfold btw
  simp only [ha, hb, e1, e2, Bool.and_self, if_true]
  rw [if_neg (by omega)]
  have := rnd_rng (num := a * q + b * 0) (den := 0 + q) (lo := a) (hi := a) (by omega) (by simp) (by simp)
  congr 1; omega
theorem btw_right {a b q : Int} (ha : magB a = true) (hb : magB b = true) (hq : 0 < q) (hq2 : q ≤ 50) : btw a b q 0 = two b 0 := by
  have e1 : inB 0 0 50 = true := inB_iff.2 (by omega)
  have e2 : inB q 0 50 = true := inB_iff.2 (by omega)
  unfold btw
  simp only [ha, hb, e1, e2, Bool.and_self, if_true]
  rw [if_neg (by omega)]
  have := rnd_rng (num := a * 0 + b * q) (den := q + 0) (lo := b) (hi := b) (by omega) (by simp) (by simp)
  congr 1; omega
theorem mnmx_at {xs : List Int} {n : Nat} : ∀ k, k ≤ n → ∀ j, j < k → mnTo xs k ≤ xs[j]?.getD 0 ∧ xs[j]?.getD 0 ≤ mxTo xs k
  | 0, _, j, h => absurd h (by omega)
  | k + 1, hk, j, h => by
    have ih := mnmx_at (xs := xs) (n := n) k (by omega)
    simp only [mnTo, mxTo]
    by_cases e : j = k
    · subst e; constructor <;> split <;> omega
    · have := ih j (by omega)
      constructor <;> split <;> omega
theorem sum_rng {xs : List Int} {lo hi : Int} {n : Nat} (h : ∀ j, j < n → lo ≤ xs[j]?.getD 0 ∧ xs[j]?.getD 0 ≤ hi) : ∀ k, k ≤ n → lo * k ≤ sumTo xs k ∧ sumTo xs k ≤ hi * k
  | 0, _ => by simp [sumTo]
  | k + 1, hk => by
    have h1 := sum_rng h k (by omega)
    have h2 := h k (by omega)
    simp only [sumTo]
    rw [show ((k + 1 : Nat) : Int) = (k : Int) + 1 by omega, Int.mul_add, Int.mul_add]
    omega
theorem mean_rng {xs : List Int} {n : Nat} (hn : xs.length = n) (h0 : 0 < n) (hok : okMags xs = true) : ∃ m, meanV xs = two m 0 ∧ mnTo xs n ≤ m ∧ m ≤ mxTo xs n := by
  subst hn
  refine ⟨_, by rw [meanV, if_pos (some_ok hok h0)], ?_⟩
  have := sum_rng (xs := xs) (mnmx_at (xs := xs) xs.length (Nat.le_refl _)) xs.length (Nat.le_refl _)
  exact rnd_rng (by omega) this.1 this.2
/-- how many of the first k are less than m, and greater -/
def cntL (xs : List Int) (m : Int) (k : Nat) : Nat := (xs.take k).countP fun x => decide (x < m)
def cntG (xs : List Int) (m : Int) (k : Nat) : Nat := (xs.take k).countP fun x => decide (m < x)
theorem cnt_step {p : Int → Bool} {xs : List Int} {n k : Nat} {x : Int} (hn : xs.length = n) (hk : k < n) (hx : xs[k]?.getD 0 = x) : (xs.take (k + 1)).countP p = (xs.take k).countP p + (if p x then 1 else 0) := by
  have hkl : k < xs.length := by omega
  rw [List.getElem?_eq_getElem hkl, Option.getD_some] at hx
  rw [List.take_add_one, List.getElem?_eq_getElem hkl, hx, List.countP_append]
  simp [List.countP_cons]
theorem cntL_step {xs : List Int} {n k : Nat} {x m : Int} (hn : xs.length = n) (hk : k < n) (hx : xs[k]?.getD 0 = x) : cntL xs m (k + 1) = cntL xs m k + (if x < m then 1 else 0) := by
  rw [cntL, cnt_step hn hk hx, ← cntL]; simp
theorem cntG_step {xs : List Int} {n k : Nat} {x m : Int} (hn : xs.length = n) (hk : k < n) (hx : xs[k]?.getD 0 = x) : cntG xs m (k + 1) = cntG xs m k + (if m < x then 1 else 0) := by
  rw [cntG, cnt_step hn hk hx, ← cntG]; simp
theorem cnt_le {p : Int → Bool} (xs : List Int) (k : Nat) : (xs.take k).countP p ≤ k := Nat.le_trans List.countP_le_length (by simp; omega)
theorem countP_front {p : Int → Bool} {ys : List Int} {h : Nat} (hp : ∀ j, h ≤ j → j < ys.length → p (ys[j]?.getD 0) = false) : ys.countP p ≤ h := by
  rw [← List.take_append_drop h ys, List.countP_append]
  have h1 : (ys.drop h).countP p = 0 := by
    rw [List.countP_eq_zero]
    intro x hx
    obtain ⟨j, hj, rfl⟩ := List.getElem_of_mem hx
    rw [List.length_drop] at hj
    have := hp (h + j) (by omega) (by omega)
    rw [List.getElem?_eq_getElem (by omega), Option.getD_some] at this
    rw [List.getElem_drop, this]; simp
  have h2 : (ys.take h).countP p ≤ h := cnt_le ys h
  omega
theorem countP_back {p : Int → Bool} {ys : List Int} {h : Nat} (hp : ∀ j, j < h → j < ys.length → p (ys[j]?.getD 0) = false) : ys.countP p ≤ ys.length - h := by
  rw [← List.take_append_drop h ys, List.countP_append]
  have h1 : (ys.take h).countP p = 0 := by
    rw [List.countP_eq_zero]
    intro x hx
    obtain ⟨j, hj, rfl⟩ := List.getElem_of_mem hx
    rw [List.length_take] at hj
    have := hp j (by omega) (by omega)
    rw [List.getElem?_eq_getElem (by omega), Option.getD_some] at this
    rw [List.getElem_take, this]; simp
  have h2 : (ys.drop h).countP p ≤ (ys.drop h).length := List.countP_le_length
  rw [List.length_drop] at h2
  simp only [List.length_append, List.length_take, List.length_drop]
  omega
theorem ris_at {ys : List Int} (h : Rising ys) {i j : Nat} (hij : i ≤ j) (hj : j < ys.length) : ys[i]?.getD 0 ≤ ys[j]?.getD 0 := by
  by_cases e : i = j
  · subst e; exact Int.le_refl _
  · have := List.pairwise_iff_getElem.1 h i j (by omega) hj (by omega)
    rwa [List.getElem?_eq_getElem (by omega), List.getElem?_eq_getElem hj, Option.getD_some, Option.getD_some]
theorem med_facts {ys : List Int} (hr : Rising ys) {n : Nat} (hn : ys.length = n) (h0 : 0 < n) :
    ys[0]?.getD 0 ≤ medP ys ∧ medP ys ≤ ys[n - 1]?.getD 0 ∧ 2 * (ys.countP fun x => decide (x < medP ys)) ≤ n ∧ 2 * (ys.countP fun x => decide (medP ys < x)) ≤ n := by
  by_cases ho : n % 2 = 1
  · have e := medP_odd hn ho
    have a1 := ris_at hr (i := 0) (j := n / 2) (by omega) (by omega)
    have a2 := ris_at hr (i := n / 2) (j := n - 1) (by omega) (by omega)
    have c1 := countP_front (p := fun x => decide (x < medP ys)) (ys := ys) (h := n / 2) (fun j hj hjn => by
      have := ris_at hr (i := n / 2) (j := j) hj hjn
      rw [e]; simp; omega)
    have c2 := countP_back (p := fun x => decide (medP ys < x)) (ys := ys) (h := n / 2 + 1) (fun j hj hjn => by
      have := ris_at hr (i := j) (j := n / 2) (by omega) (by omega)
      rw [e]; simp; omega)
    exact ⟨by omega, by omega, by omega, by omega⟩
  · have e := medP_even hn (by omega)
    have a0 := ris_at hr (i := n / 2 - 1) (j := n / 2) (by omega) (by omega)
    have a1 := ris_at hr (i := 0) (j := n / 2 - 1) (by omega) (by omega)
    have a2 := ris_at hr (i := n / 2) (j := n - 1) (by omega) (by omega)
    have hm := rnd_rng (num := ys[n / 2 - 1]?.getD 0 + ys[n / 2]?.getD 0) (den := 2) (lo := ys[n / 2 - 1]?.getD 0) (hi := ys[n / 2]?.getD 0) (by omega) (by omega) (by omega)
    rw [← e] at hm
    have c1 := countP_front (p := fun x => decide (x < medP ys)) (ys := ys) (h := n / 2) (fun j hj hjn => by
      have := ris_at hr (i := n / 2) (j := j) hj hjn
      simp; omega)
    have c2 := countP_back (p := fun x => decide (medP ys < x)) (ys := ys) (h := n / 2) (fun j hj hjn => by
      have := ris_at hr (i := j) (j := n / 2 - 1) (by omega) (by omega)
      simp; omega)
    exact ⟨by omega, by omega, by omega, by omega⟩
theorem perm_in {ys xs : List Int} (h : ys.Perm xs) {j n : Nat} (hn : xs.length = n) (hj : j < n) : ∃ i, i < n ∧ ys[j]?.getD 0 = xs[i]?.getD 0 := by
  have hl : j < ys.length := by rw [h.length_eq]; omega
  have hm : ys[j] ∈ xs := h.mem_iff.1 (List.getElem_mem hl)
  obtain ⟨i, hi, he⟩ := List.getElem_of_mem hm
  exact ⟨i, by omega, by rw [List.getElem?_eq_getElem hl, List.getElem?_eq_getElem hi, Option.getD_some, Option.getD_some, he]⟩
/-- what the law asks of the median -/
theorem med_rng {xs : List Int} {n : Nat} {v : Value} (hn : xs.length = n) (h0 : 0 < n) (hok : okMags xs = true) (h : medS xs v) : ∃ m, v = .tuple #[.int .i64 m, .int .i64 0] ∧ mnTo xs n ≤ m ∧ m ≤ mxTo xs n ∧ 2 * cntL xs m n ≤ n ∧ 2 * cntG xs m n ≤ n := by
  rcases h with ⟨-, -, ys, hr, hp, rfl⟩ | ⟨hno, -⟩
  · have hyn : ys.length = n := by rw [hp.length_eq, hn]
    obtain ⟨f1, f2, f3, f4⟩ := med_facts hr hyn h0
    obtain ⟨i, hi, ei⟩ := perm_in hp hn (j := 0) h0
    obtain ⟨k, hk, ek⟩ := perm_in hp hn (j := n - 1) (by omega)
    have b1 := mnmx_at (xs := xs) n (Nat.le_refl _) i hi
    have b2 := mnmx_at (xs := xs) n (Nat.le_refl _) k hk
    refine ⟨medP ys, rfl, by omega, by omega, ?_, ?_⟩
    · rw [cntL, List.take_of_length_le (by omega), ← hp.countP_eq]; exact f3
    · rw [cntG, List.take_of_length_le (by omega), ← hp.countP_eq]; exact f4
  · exact absurd ⟨hok, by omega⟩ hno
theorem range_is {xs : List Int} {n : Nat} (hn : xs.length = n) (h0 : 0 < n) (hok : okMags xs = true) : rangeV xs = three (mnTo xs n) (mxTo xs n) 0 := by
  rw [rangeV, if_pos (some_ok hok (by omega)), hn]
theorem mag_back {a : Int} {v : Value} (ha : magB a = true) (h : MagPost (magP a) v) : v = .tuple #[.int .i64 a, .bool true] := by
  rcases h with ⟨t, _, he, rfl⟩ | ⟨hno, -⟩
  · rw [mag_inj he]
  · exact absurd rfl (hno a ha)
theorem magV_yes {a : Int} (ha : magB a = true) : magV a = strV (magP a) := by rw [magV, ha, if_pos rfl]
end Go.Proofs.YtfnjndbnogeddaaGreatDoor
