/- Pairs of points in bins: plain sums. -/
import Derived.Test.YtidiiladlmaigaaJN
import Derived.Test.YtidiiladlmaigaaGPt1
namespace Go.Proofs.Ytidiiladlmaigaa

def tmX (xs : List Pt) (k : Nat) : Int := (xs[k]?.getD pt0).1
def mgX (xs : List Pt) (k : Nat) : Int := (xs[k]?.getD pt0).2
theorem aMul {a b A B : Int} (h1 : -A ≤ a) (h2 : a ≤ A) (h3 : -B ≤ b) (h4 : b ≤ B) : -(A * B) ≤ a * b ∧ a * b ≤ A * B := by
  have hA : 0 ≤ A := by omega
  have hB : 0 ≤ B := by omega
  have e : (a * b).natAbs ≤ (A * B).natAbs := by
    rw [Int.natAbs_mul, Int.natAbs_mul]
    exact Nat.mul_le_mul (by omega) (by omega)
  have e2 : 0 ≤ A * B := Int.mul_nonneg hA hB
  omega
theorem sumF_change {f g : Nat → Int} {b : Nat} (h : ∀ c, c ≠ b → g c = f c) : ∀ n, b < n → sumF g n = sumF f n + (g b - f b)
  | 0, hb => by omega
  | n + 1, hb => by
    by_cases e : b = n
    · subst e
      have h1 : sumF g b = sumF f b := sumF_congr fun j hj => h j (by omega)
      simp only [sumF, h1]; omega
    · have h1 := sumF_change h n (by omega)
      have h2 := h n (fun e' => e e'.symm)
      simp only [sumF, h1, h2]; omega
/-- the points of a bin among the first k: their number, the sum of their magnitudes, that of the squares -/
def bCN (B : Nat → Nat) (b : Nat) : Nat → Int := sumF fun j => if B j = b then 1 else 0
def bCS (B : Nat → Nat) (m : Nat → Int) (b : Nat) : Nat → Int := sumF fun j => if B j = b then m j else 0
def bCQ (B : Nat → Nat) (m : Nat → Int) (b : Nat) : Nat → Int := sumF fun j => if B j = b then m j * m j else 0
/-- the i-th point with the first k: the squares of the differences in its bin -/
def inQ (B : Nat → Nat) (m : Nat → Int) (i : Nat) : Nat → Int := sumF fun j => if B j = B i then (m i - m j) * (m i - m j) else 0
def outQ (B : Nat → Nat) (m : Nat → Int) : Nat → Int := sumF fun i => inQ B m i i
def outN (B : Nat → Nat) : Nat → Int := sumF fun i => bCN B (B i) i
def trQ (B : Nat → Nat) (m : Nat → Int) (k c : Nat) : Int := bCN B c k * bCQ B m c k - bCS B m c k * bCS B m c k
def trN (B : Nat → Nat) (k c : Nat) : Int := bCN B c k * (bCN B c k - 1) / 2
theorem bCN_yes {B : Nat → Nat} {b k : Nat} (h : B k = b) : bCN B b (k + 1) = bCN B b k + 1 := by simp [bCN, sumF, h]
theorem bCN_no {B : Nat → Nat} {b k : Nat} (h : B k ≠ b) : bCN B b (k + 1) = bCN B b k := by simp [bCN, sumF, h]
theorem bCS_yes {B : Nat → Nat} {m : Nat → Int} {b k : Nat} (h : B k = b) : bCS B m b (k + 1) = bCS B m b k + m k := by simp [bCS, sumF, h]
theorem bCS_no {B : Nat → Nat} {m : Nat → Int} {b k : Nat} (h : B k ≠ b) : bCS B m b (k + 1) = bCS B m b k := by simp [bCS, sumF, h]
theorem bCQ_yes {B : Nat → Nat} {m : Nat → Int} {b k : Nat} (h : B k = b) : bCQ B m b (k + 1) = bCQ B m b k + m k * m k := by simp [bCQ, sumF, h]
theorem bCQ_no {B : Nat → Nat} {m : Nat → Int} {b k : Nat} (h : B k ≠ b) : bCQ B m b (k + 1) = bCQ B m b k := by simp [bCQ, sumF, h]
theorem inQ_yes {B : Nat → Nat} {m : Nat → Int} {i k : Nat} (h : B k = B i) : inQ B m i (k + 1) = inQ B m i k + (m i - m k) * (m i - m k) := by simp [inQ, sumF, h]
theorem inQ_no {B : Nat → Nat} {m : Nat → Int} {i k : Nat} (h : B k ≠ B i) : inQ B m i (k + 1) = inQ B m i k := by simp [inQ, sumF, h]
theorem inQ_eq (B : Nat → Nat) (m : Nat → Int) (i : Nat) : ∀ k, inQ B m i k = bCN B (B i) k * (m i * m i) - 2 * m i * bCS B m (B i) k + bCQ B m (B i) k
  | 0 => by simp [inQ, bCN, bCS, bCQ, sumF]
  | k + 1 => by
    have ih := inQ_eq B m i k
    by_cases h : B k = B i
    · rw [inQ_yes h, bCN_yes h, bCS_yes h, bCQ_yes h, ih]
      generalize bCN B (B i) k = a
      generalize bCS B m (B i) k = b
      generalize bCQ B m (B i) k = c
      grind
    · rw [inQ_no h, bCN_no h, bCS_no h, bCQ_no h, ih]
theorem half_step (a : Int) : (a + 1) * (a + 1 - 1) / 2 - a * (a - 1) / 2 = a := by
  have e : (a + 1) * (a + 1 - 1) = a * (a - 1) + a * 2 := by grind
  rw [e, Int.add_mul_ediv_right _ _ (by decide)]
  omega
/-- the sums over all bins are those over all pairs -/
theorem outQ_bins {B : Nat → Nat} {m : Nat → Int} {K : Nat} : ∀ n, (∀ j, j < n → B j < K) → sumF (trQ B m n) K = outQ B m n
  | 0, _ => by
    have h := sumF_congr (f := trQ B m 0) (g := fun _ => 0) (k := K) (fun j _ => by simp [trQ, bCN, bCS, bCQ, sumF])
    rw [h, sumF_const]; simp [outQ, sumF]
  | n + 1, hB => by
    have ih := outQ_bins (m := m) n (fun j hj => hB j (by omega))
    rw [sumF_change (f := trQ B m n) (b := B n) (fun c hc => by rw [trQ, trQ, bCN_no (fun e => hc e.symm), bCS_no (fun e => hc e.symm), bCQ_no (fun e => hc e.symm)]) K (hB n (by omega)), ih]
    show _ = outQ B m n + inQ B m n n
    rw [inQ_eq, trQ, trQ, bCN_yes rfl, bCS_yes rfl, bCQ_yes rfl]
    generalize bCN B (B n) n = a
    generalize bCS B m (B n) n = b
    generalize bCQ B m (B n) n = c
    generalize m n = x
    generalize outQ B m n = y
    grind
theorem outN_bins {B : Nat → Nat} {K : Nat} : ∀ n, (∀ j, j < n → B j < K) → sumF (trN B n) K = outN B n
  | 0, _ => by
    have h := sumF_congr (f := trN B 0) (g := fun _ => 0) (k := K) (fun j _ => by simp [trN, bCN, sumF])
    rw [h, sumF_const]; simp [outN, sumF]
  | n + 1, hB => by
    have ih := outN_bins n (fun j hj => hB j (by omega))
    rw [sumF_change (f := trN B n) (b := B n) (fun c hc => by rw [trN, trN, bCN_no (fun e => hc e.symm)]) K (hB n (by omega)), ih]
    show _ = outN B n + bCN B (B n) n
    rw [trN, trN, bCN_yes rfl, half_step]
/-! ### bounds -/
theorem bCN_bd (B : Nat → Nat) (b : Nat) : ∀ k : Nat, 0 ≤ bCN B b k ∧ bCN B b k ≤ k
  | 0 => by simp [bCN, sumF]
  | k + 1 => by
    have ih := bCN_bd B b k
    by_cases h : B k = b
    · rw [bCN_yes h]; omega
    · rw [bCN_no h]; omega
theorem mag_sq {x : Int} (h : -2000 ≤ x ∧ x ≤ 20000) : 0 ≤ x * x ∧ x * x ≤ 400000000 := by
  have a := aMul (a := x) (b := x) (A := 20000) (B := 20000) (by omega) (by omega) (by omega) (by omega)
  have b := sqr_nonneg x
  omega
theorem bCS_bd {B : Nat → Nat} {m : Nat → Int} {b n : Nat} (h : ∀ j, j < n → -2000 ≤ m j ∧ m j ≤ 20000) : ∀ k : Nat, k ≤ n → -(20000 * k) ≤ bCS B m b k ∧ bCS B m b k ≤ 20000 * k
  | 0, _ => by simp [bCS, sumF]
  | k + 1, hk => by
    have ih := bCS_bd (B := B) (b := b) h k (by omega)
    have hm := h k (by omega)
    by_cases e : B k = b
    · rw [bCS_yes e]; omega
    · rw [bCS_no e]; omega
theorem bCQ_bd {B : Nat → Nat} {m : Nat → Int} {b n : Nat} (h : ∀ j, j < n → -2000 ≤ m j ∧ m j ≤ 20000) : ∀ k : Nat, k ≤ n → 0 ≤ bCQ B m b k ∧ bCQ B m b k ≤ 400000000 * k
  | 0, _ => by simp [bCQ, sumF]
  | k + 1, hk => by
    have ih := bCQ_bd (B := B) (b := b) h k (by omega)
    have hm := mag_sq (h k (by omega))
    by_cases e : B k = b
    · rw [bCQ_yes e]; omega
    · rw [bCQ_no e]; omega
theorem inQ_bd {B : Nat → Nat} {m : Nat → Int} {i n : Nat} (hi : i < n) (h : ∀ j, j < n → -2000 ≤ m j ∧ m j ≤ 20000) : ∀ k : Nat, k ≤ n → 0 ≤ inQ B m i k ∧ inQ B m i k ≤ 484000000 * k
  | 0, _ => by simp [inQ, sumF]
  | k + 1, hk => by
    have ih := inQ_bd (B := B) hi h k (by omega)
    have h1 := h k (by omega)
    have h2 := h i hi
    have hp := aMul (a := m i - m k) (b := m i - m k) (A := 22000) (B := 22000) (by omega) (by omega) (by omega) (by omega)
    have hq := sqr_nonneg (m i - m k)
    by_cases e : B k = B i
    · rw [inQ_yes e]; omega
    · rw [inQ_no e]; omega
theorem outQ_bd {B : Nat → Nat} {m : Nat → Int} {n : Nat} (hn : n ≤ 100) (h : ∀ j, j < n → -2000 ≤ m j ∧ m j ≤ 20000) : ∀ k : Nat, k ≤ n → 0 ≤ outQ B m k ∧ outQ B m k ≤ 48400000000 * k
  | 0, _ => by simp [outQ, sumF]
  | k + 1, hk => by
    have ih := outQ_bd (B := B) hn h k (by omega)
    have h1 := inQ_bd (B := B) (i := k) (by omega) h k (by omega)
    show 0 ≤ outQ B m k + inQ B m k k ∧ outQ B m k + inQ B m k k ≤ _
    omega
theorem outN_bd {B : Nat → Nat} : ∀ k : Nat, k ≤ 100 → 0 ≤ outN B k ∧ outN B k ≤ 100 * k
  | 0, _ => by simp [outN, sumF]
  | k + 1, hk => by
    have ih := outN_bd (B := B) k (by omega)
    have h1 := bCN_bd B (B k) k
    show 0 ≤ outN B k + bCN B (B k) k ∧ outN B k + bCN B (B k) k ≤ _
    omega
theorem trQ_bd {B : Nat → Nat} {m : Nat → Int} {n : Nat} (hn : n ≤ 100) (h : ∀ j, j < n → -2000 ≤ m j ∧ m j ≤ 20000) (c : Nat) : -10000000000000 ≤ trQ B m n c ∧ trQ B m n c ≤ 10000000000000 := by
  have a := bCN_bd B c n
  have b := bCS_bd (B := B) (b := c) h n (Nat.le_refl _)
  have d := bCQ_bd (B := B) (b := c) h n (Nat.le_refl _)
  have p := aMul (a := bCN B c n) (b := bCQ B m c n) (A := 100) (B := 40000000000) (by omega) (by omega) (by omega) (by omega)
  have q := aMul (a := bCS B m c n) (b := bCS B m c n) (A := 2000000) (B := 2000000) (by omega) (by omega) (by omega) (by omega)
  unfold trQ
  omega
theorem trN_bd {B : Nat → Nat} {n : Nat} (hn : n ≤ 100) (c : Nat) : 0 ≤ trN B n c ∧ trN B n c ≤ 10000 := by
  have a := bCN_bd B c n
  unfold trN
  have h0 : 0 ≤ bCN B c n * (bCN B c n - 1) := by
    by_cases e : bCN B c n = 0
    · rw [e]; simp
    · exact Int.mul_nonneg (by omega) (by omega)
  have p := aMul (a := bCN B c n) (b := bCN B c n - 1) (A := 100) (B := 100) (by omega) (by omega) (by omega) (by omega)
  omega
theorem outQ_flat (m : Nat → Int) : ∀ n, outQ (fun _ => 0) m n = outF m m n := fun n => by
  unfold outQ outF inQ inF
  simp
end Go.Proofs.Ytidiiladlmaigaa
