/- Sums, and the slope of a line by least squares: plain arithmetic. -/
import Derived.Test.YtbjflgohahmjgaaDoorB1
namespace Go.Proofs.YtbjflgohahmjgaaDoor

def sumF (f : Nat → Int) : Nat → Int
  | 0 => 0
  | k + 1 => sumF f k + f k
theorem sumF_le {f g : Nat → Int} : ∀ {k : Nat}, (∀ j, j < k → f j ≤ g j) → sumF f k ≤ sumF g k
  | 0, _ => Int.le_refl _
  | k + 1, h => by
    have h1 := sumF_le (k := k) (fun j hj => h j (by omega))
    have h2 := h k (by omega)
    simp only [sumF]
    omega
theorem sumF_const (c : Int) : ∀ k : Nat, sumF (fun _ => c) k = c * k
  | 0 => by simp [sumF]
  | k + 1 => by
    simp only [sumF, sumF_const c k]
    grind
theorem sumF_mul (c : Int) (f : Nat → Int) : ∀ k : Nat, sumF (fun j => c * f j) k = c * sumF f k
  | 0 => by simp [sumF]
  | k + 1 => by
    simp only [sumF, sumF_mul c f k]
    grind
theorem sumF_neg (f : Nat → Int) : ∀ k : Nat, sumF (fun j => - f j) k = - sumF f k
  | 0 => by simp [sumF]
  | k + 1 => by
    simp only [sumF, sumF_neg f k]
    omega
theorem sumF_congr {f g : Nat → Int} : ∀ {k : Nat}, (∀ j, j < k → f j = g j) → sumF f k = sumF g k
  | 0, _ => rfl
  | k + 1, h => by rw [sumF, sumF, sumF_congr (fun j hj => h j (by omega)), h k (by omega)]
theorem sumF_bd {f : Nat → Int} {c : Int} {k : Nat} (h : ∀ j, j < k → -c ≤ f j ∧ f j ≤ c) : -(c * k) ≤ sumF f k ∧ sumF f k ≤ c * k := by
  have h1 := sumF_le (f := f) (g := fun _ => c) (k := k) (fun j hj => (h j hj).2)
  have h2 := sumF_le (f := fun j => - f j) (g := fun _ => c) (k := k) (fun j hj => by have := (h j hj).1; show - f j ≤ c; omega)
  rw [sumF_neg] at h2
  rw [sumF_const] at h1 h2
  omega
/-- the products of differences of the i-th pair with the first k -/
def inF (t m : Nat → Int) (i : Nat) : Nat → Int := sumF fun j => (t i - t j) * (m i - m j)
def outF (t m : Nat → Int) : Nat → Int := sumF fun i => inF t m i i
theorem inF_eq (t m : Nat → Int) (i : Nat) : ∀ k : Nat, inF t m i k = k * (t i * m i) - t i * sumF m k - m i * sumF t k + sumF (fun j => t j * m j) k
  | 0 => by simp [inF, sumF]
  | k + 1 => by
    have h := inF_eq t m i k
    unfold inF at h ⊢
    simp only [sumF, h]
    grind
theorem outF_eq (t m : Nat → Int) : ∀ n : Nat, outF t m n = n * sumF (fun j => t j * m j) n - sumF t n * sumF m n
  | 0 => by simp [outF, sumF]
  | n + 1 => by
    have h := outF_eq t m n
    have e : outF t m (n + 1) = outF t m n + inF t m n n := rfl
    rw [e, h, inF_eq, Int.natCast_succ]
    simp only [sumF]
    generalize sumF t n = T
    generalize sumF m n = M
    generalize sumF (fun j => t j * m j) n = X
    generalize t n = a
    generalize m n = b
    generalize (n : Int) = c
    grind
def farF (t : Nat → Int) : Nat → Int := sumF fun i => sumF (fun j => t i - t j) i
theorem farF_in (t : Nat → Int) (i : Nat) : ∀ k : Nat, sumF (fun j => t i - t j) k = k * t i - sumF t k
  | 0 => by simp [sumF]
  | k + 1 => by
    simp only [sumF, farF_in t i k]
    grind
theorem farF_eq (t : Nat → Int) : ∀ n : Nat, farF t n = 2 * sumF (fun i => i * t i) n - (n - 1) * sumF t n
  | 0 => by simp [farF, sumF]
  | n + 1 => by
    have h := farF_eq t n
    have e : farF t (n + 1) = farF t n + sumF (fun j => t n - t j) n := rfl
    rw [e, h, farF_in, Int.natCast_succ]
    simp only [sumF]
    generalize sumF t n = T
    generalize sumF (fun i => (i : Int) * t i) n = X
    generalize t n = a
    generalize (n : Int) = c
    rw [show c + 1 - 1 = c by omega]
    grind
theorem farF_sum (t : Nat → Int) (c : Int) : ∀ n : Nat, sumF (fun i => (2 * i - c) * t i) n = 2 * sumF (fun i => i * t i) n - c * sumF t n
  | 0 => by simp [sumF]
  | n + 1 => by
    simp only [sumF, farF_sum t c n]
    grind
def topI (c : Int) (i : Nat) : Int := if c ≤ 2 * i then 2 * i - c else 0
theorem topI_small : ∀ n : Nat, n < 101 → sumF (topI ((n : Int) - 1)) n ≤ 2500 := by decide +kernel
theorem farF_le {t : Nat → Int} {n : Nat} {T : Int} (hn : n ≤ 100) (hT : 0 ≤ T) (h : ∀ k, k < n → 0 ≤ t k ∧ t k ≤ T) : farF t n ≤ 2500 * T := by
  rw [farF_eq, ← farF_sum t ((n : Int) - 1) n]
  have h1 : sumF (fun i => (2 * (i : Int) - ((n : Int) - 1)) * t i) n ≤ sumF (fun i => T * topI ((n : Int) - 1) i) n := sumF_le fun j hj => by
    obtain ⟨h2, h3⟩ := h j hj
    unfold topI
    split
    · rename_i hc
      rw [Int.mul_comm]
      exact Int.mul_le_mul_of_nonneg_right h3 (by omega)
    · rename_i hc
      rw [Int.mul_zero]
      exact Int.mul_nonpos_of_nonpos_of_nonneg (by omega) h2
  rw [sumF_mul] at h1
  have h2 := Int.mul_le_mul_of_nonneg_left (topI_small n (by omega)) hT
  omega
theorem mulD {d e M : Int} (hd : 0 ≤ d) (h1 : -M ≤ e) (h2 : e ≤ M) : -(M * d) ≤ d * e ∧ d * e ≤ M * d := by
  have a := Int.mul_le_mul_of_nonneg_left h2 hd
  have b := Int.mul_le_mul_of_nonneg_left h1 hd
  rw [Int.mul_neg] at b
  rw [Int.mul_comm M d]
  exact ⟨b, a⟩
/-- the sharp bound of the slope's numerator -/
theorem outF_bd {t m : Nat → Int} {n : Nat} {T M : Int} (hn : n ≤ 100) (hT : 0 ≤ T) (hM : 0 ≤ M) (h : ∀ k, k < n → 0 ≤ t k ∧ t k ≤ T) (hi : ∀ i j, j < i → i < n → t j ≤ t i) (hm : ∀ i j, i < n → j < n → m i - m j ≤ M) : -(M * (2500 * T)) ≤ outF t m n ∧ outF t m n ≤ M * (2500 * T) := by
  have hf := Int.mul_le_mul_of_nonneg_left (farF_le hn hT h) hM
  have hin : ∀ i, i < n → -(M * sumF (fun j => t i - t j) i) ≤ inF t m i i ∧ inF t m i i ≤ M * sumF (fun j => t i - t j) i := fun i hin => by
    have hj : ∀ j, j < i → -(M * (t i - t j)) ≤ (t i - t j) * (m i - m j) ∧ (t i - t j) * (m i - m j) ≤ M * (t i - t j) := fun j hj =>
      mulD (by have := hi i j hj hin; omega) (by have := hm j i (by omega) hin; omega) (hm i j hin (by omega))
    have a := sumF_le (f := fun j => (t i - t j) * (m i - m j)) (g := fun j => M * (t i - t j)) (k := i) (fun j h1 => (hj j h1).2)
    have b := sumF_le (f := fun j => - ((t i - t j) * (m i - m j))) (g := fun j => M * (t i - t j)) (k := i) (fun j h1 => by have := (hj j h1).1; show - ((t i - t j) * (m i - m j)) ≤ M * (t i - t j); omega)
    rw [sumF_mul] at a b
    rw [sumF_neg] at b
    unfold inF
    omega
  have a := sumF_le (f := fun i => inF t m i i) (g := fun i => M * sumF (fun j => t i - t j) i) (k := n) (fun i h1 => (hin i h1).2)
  have b := sumF_le (f := fun i => - inF t m i i) (g := fun i => M * sumF (fun j => t i - t j) i) (k := n) (fun i h1 => by have := (hin i h1).1; show - inF t m i i ≤ M * sumF (fun j => t i - t j) i; omega)
  rw [sumF_mul] at a b
  rw [sumF_neg] at b
  unfold farF at hf
  unfold outF
  omega
theorem sumF_nonneg {f : Nat → Int} : ∀ {k : Nat}, (∀ j, j < k → 0 ≤ f j) → 0 ≤ sumF f k
  | 0, _ => Int.le_refl _
  | k + 1, h => by
    have h1 := sumF_nonneg (k := k) (fun j hj => h j (by omega))
    have h2 := h k (by omega)
    simp only [sumF]
    omega
theorem sqr_nonneg (d : Int) : 0 ≤ d * d := by
  rcases Int.le_total 0 d with h | h
  · exact Int.mul_nonneg h h
  · exact Int.mul_nonneg_of_nonpos_of_nonpos h h
theorem outF_pos {t : Nat → Int} {n : Nat} (h2 : 2 ≤ n) (h01 : t 0 < t 1) : 1 ≤ outF t t n := by
  obtain ⟨k, rfl⟩ : ∃ k, n = k + 2 := ⟨n - 2, by omega⟩
  clear h2
  have hin : ∀ i j : Nat, 0 ≤ inF t t i j := fun i j => sumF_nonneg fun x _ => sqr_nonneg _
  have h1 : 1 ≤ outF t t 2 := by
    have e : outF t t 2 = (t 1 - t 0) * (t 1 - t 0) := by simp [outF, inF, sumF]
    rw [e]
    have := Int.mul_le_mul (show (1 : Int) ≤ t 1 - t 0 by omega) (show (1 : Int) ≤ t 1 - t 0 by omega) (by omega) (by omega)
    omega
  induction k with
  | zero => exact h1
  | succ k ih =>
    have := hin (k + 2) (k + 2)
    show 1 ≤ sumF (fun i => inF t t i i) (k + 2) + inF t t (k + 2) (k + 2)
    unfold outF at ih
    omega
end Go.Proofs.YtbjflgohahmjgaaDoor
