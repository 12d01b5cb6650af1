/- Points in the bins of a period: what the functions answer, in plain lists. -/
import Derived.Test.YtcjipmpccmppiaaEB
import Derived.Test.YtcjipmpccmppiaaEP
import Derived.Test.YtcjipmpccmppiaaEX
import Derived.Test.YtcjipmpccmppiaaF0
import Derived.Test.YtcjipmpccmppiaaJ1
namespace Go.Proofs.Ytcjipmpccmppiaa

/-- the bin of a point with the epoch 0 -/
def bf (p b : Int) (xs : List Pt) (j : Nat) : Nat := bnN 0 p b (tmX xs j)
theorem bf_lt {p b : Int} (hp : 1 ≤ p) (hb : 1 ≤ b) (xs : List Pt) {K : Nat} (hK : b ≤ (K : Int)) (j : Nat) : bf p b xs j < K := by
  have := bnN_lt (e := 0) (t := tmX xs j) hp hb
  unfold bf
  omega
theorem bf_is {p b : Int} (hp : 1 ≤ p) (hb : 1 ≤ b) {xs : List Pt} {j : Nat} {x : Pt} (hx : xs[j]?.getD pt0 = x) : bnI 0 p b x.1 = (bf p b xs j : Int) := by
  rw [bnN_is hp hb, bf, tmX, hx]
theorem mgX_bd {xs : List Pt} {n : Nat} (h : ∀ k, k < n → 0 ≤ (xs[k]?.getD pt0).1 ∧ (xs[k]?.getD pt0).1 ≤ 10000000 ∧ -2000 ≤ (xs[k]?.getD pt0).2 ∧ (xs[k]?.getD pt0).2 ≤ 20000) : ∀ j, j < n → -2000 ≤ mgX xs j ∧ mgX xs j ≤ 20000 := fun j hj => by have := h j hj; unfold mgX; omega
def foC (xs : List Pt) (p b : Int) : Int := if okP xs then (if perB p && inB b 1 20 then 0 else 2) else 1
theorem fo_1 {xs : List Pt} {p b : Int} (h : okP xs = false) : foC xs p b = 1 := by simp [foC, h]
theorem fo_2 {xs : List Pt} {p b : Int} (h : okP xs = true) (h2 : (perB p && inB b 1 20) = false) : foC xs p b = 2 := by simp only [foC, h, h2]; simp
theorem fo_0 {xs : List Pt} {p b : Int} (h : okP xs = true) (h2 : (perB p && inB b 1 20) = true) : foC xs p b = 0 := by simp only [foC, h, h2]; simp
theorem fo_parts {xs : List Pt} {p b : Int} (h : foC xs p b = 0) : okP xs = true ∧ (1 ≤ p ∧ p ≤ 1000000) ∧ 1 ≤ b ∧ b ≤ 20 := by
  unfold foC at h
  cases h1 : okP xs
  · simp [h1] at h
  · cases h2 : (perB p && inB b 1 20)
    · simp only [h1, h2] at h; simp at h
    · rw [Bool.and_eq_true, perB_iff, inB_iff] at h2
      exact ⟨rfl, h2⟩
/-! ### the bins of all points -/
def boE (p b : Int) (xs : List Pt) (k : Nat) : List Int := (List.range k).map fun j => (bf p b xs j : Int)
theorem boE_len (p b : Int) (xs : List Pt) (k : Nat) : (boE p b xs k).length = k := by simp [boE]
theorem boE_step (p b : Int) (xs : List Pt) (k : Nat) : boE p b xs (k + 1) = boE p b xs k ++ [(bf p b xs k : Int)] := by simp [boE, List.range_succ]
theorem boE_at {p b : Int} {xs : List Pt} {k j : Nat} (hj : j < k) : (boE p b xs k)[j]?.getD 0 = (bf p b xs j : Int) := by simp [boE, hj]
theorem boE_map (p b : Int) (xs : List Pt) (k : Nat) : (boE p b xs (k + 1)).map (Value.int .i64) = (boE p b xs k).map (Value.int .i64) ++ [.int .i64 (bf p b xs k : Int)] := by rw [boE_step, List.map_append]; rfl
def boC (xs : List Pt) (p b : Int) : Int := foC xs p b
def boL (xs : List Pt) (p b : Int) : List Int := if foC xs p b = 0 then boE p b xs xs.length else []
theorem bo_no {xs : List Pt} {p b : Int} (h : foC xs p b ≠ 0) : boL xs p b = [] := by simp [boL, h]
theorem bo_yes {xs : List Pt} {p b : Int} {n : Nat} (hn : xs.length = n) (h : foC xs p b = 0) : boL xs p b = boE p b xs n := by simp [boL, h, hn]
theorem boL_len {xs : List Pt} {p b : Int} {n : Nat} (h : xs.length ≤ n) : (boL xs p b).length ≤ n := by
  unfold boL
  split
  · rw [boE_len]; exact h
  · simp
/-! ### bins with points -/
def seB (B : Nat → Nat) (k : Nat) (c : Nat) : Bool := decide (0 < bCN B c k)
def seL (B : Nat → Nat) (k : Nat) : List Int := ((List.range 20).filter (seB B k)).map fun c : Nat => (c : Int)
theorem seL_zero (B : Nat → Nat) : seL B 0 = [] := by
  rw [seL, List.filter_eq_nil_iff.2 (fun c _ => by simp [seB, bCN, sumF])]; rfl
theorem seL_step {B : Nat → Nat} {k : Nat} (hB : B k < 20) : puI (B k : Int) (seL B k) = seL B (k + 1) := by
  unfold seL
  rw [List.range_eq_range', puI_range _ _ 20 0 (by omega) (by omega)]
  congr 1
  refine List.filter_congr fun c _ => ?_
  unfold seB
  have h0 := (bCN_bd B c k).1
  by_cases e : B k = c
  · rw [bCN_yes e, show (c == B k) = true by simp [e], Bool.or_true]
    simp; omega
  · rw [bCN_no e, show (c == B k) = false by simp; exact fun h => e h.symm, Bool.or_false]
theorem seL_len (B : Nat → Nat) (k : Nat) : (seL B k).length ≤ 20 := by
  rw [seL, List.length_map]; exact Nat.le_trans (List.length_filter_le _ _) (by simp)
/-- how many of the first c bins have points -/
def fiN (B : Nat → Nat) (n c : Nat) : Nat := ((List.range c).filter (seB B n)).length
theorem fiN_yes {B : Nat → Nat} {n c : Nat} (h : 0 < bCN B c n) : fiN B n (c + 1) = fiN B n c + 1 := by
  rw [fiN, fiN, List.range_succ, List.filter_append, List.length_append, List.filter_cons, if_pos (by simpa [seB] using h)]; rfl
theorem fiN_no {B : Nat → Nat} {n c : Nat} (h : ¬ 0 < bCN B c n) : fiN B n (c + 1) = fiN B n c := by
  rw [fiN, fiN, List.range_succ, List.filter_append, List.length_append, List.filter_cons, if_neg (by simpa [seB] using h)]; rfl
theorem fiN_le (B : Nat → Nat) (n c : Nat) : fiN B n c ≤ c := Nat.le_trans (List.length_filter_le _ _) (by simp)
theorem fiN_se (B : Nat → Nat) (n : Nat) : (seL B n).length = fiN B n 20 := by rw [seL, List.length_map]; rfl
def fiA (xs : List Pt) (p b : Int) : Int := if foC xs p b = 0 then (fiN (bf p b xs) xs.length 20 : Nat) else 0
theorem fi_no {xs : List Pt} {p b : Int} (h : foC xs p b ≠ 0) : fiA xs p b = 0 := by simp [fiA, h]
theorem fi_yes {xs : List Pt} {p b : Int} {n : Nat} (hn : xs.length = n) (h : foC xs p b = 0) : fiA xs p b = (fiN (bf p b xs) n 20 : Nat) := by simp [fiA, h, hn]
/-! ### dispersions -/
def dpQ (p b : Int) (xs : List Pt) (n : Nat) : Int := outQ (bf p b xs) (mgX xs) n
def dpN (p b : Int) (xs : List Pt) (n : Nat) : Int := outN (bf p b xs) n
def dpF (p b : Int) (xs : List Pt) (n : Nat) : Fr := if dpN p b xs n = 0 then (0, 0) else (lowN (dpQ p b xs n) (dpN p b xs n), lowD (dpQ p b xs n) (dpN p b xs n))
theorem dpF_0 {p b : Int} {xs : List Pt} {n : Nat} (h : dpN p b xs n = 0) : dpF p b xs n = (0, 0) := by simp [dpF, h]
theorem dpF_1 {p b : Int} {xs : List Pt} {n : Nat} (h : dpN p b xs n ≠ 0) : dpF p b xs n = (lowN (dpQ p b xs n) (dpN p b xs n), lowD (dpQ p b xs n) (dpN p b xs n)) := by simp [dpF, h]
theorem dp_bd {p b : Int} {xs : List Pt} {n : Nat} (hn : xs.length = n) (h : okP xs = true) : (0 ≤ dpQ p b xs n ∧ dpQ p b xs n ≤ 4840000000000) ∧ 0 ≤ dpN p b xs n ∧ dpN p b xs n ≤ 10000 := by
  obtain ⟨h100, hbd, -⟩ := okP_num hn h
  have a := outQ_bd (B := bf p b xs) h100 (mgX_bd hbd) n (Nat.le_refl _)
  have c := outN_bd (B := bf p b xs) n h100
  unfold dpQ dpN
  omega
def dsC (xs : List Pt) (p b : Int) : Int := if foC xs p b = 0 then (if dpN p b xs xs.length = 0 then 3 else 0) else foC xs p b
def dsF (xs : List Pt) (p b : Int) : Int × Int × Int := if dsC xs p b = 0 then ((dpF p b xs xs.length).1, (dpF p b xs xs.length).2, 0) else (0, 0, dsC xs p b)
theorem dsF_no {xs : List Pt} {p b c : Int} (h : dsC xs p b = c) (hc : c ≠ 0) : dsF xs p b = (0, 0, c) := by subst h; simp [dsF, hc]
theorem ds_f {xs : List Pt} {p b c : Int} (h : foC xs p b = c) (hc : c ≠ 0) : dsC xs p b = c := by subst h; simp [dsC, hc]
theorem ds_3 {xs : List Pt} {p b : Int} {n : Nat} (hn : xs.length = n) (h : foC xs p b = 0) (h2 : dpN p b xs n = 0) : dsC xs p b = 3 := by subst hn; simp [dsC, h, h2]
theorem ds_0 {xs : List Pt} {p b : Int} {n : Nat} (hn : xs.length = n) (h : foC xs p b = 0) (h2 : dpN p b xs n ≠ 0) : dsC xs p b = 0 ∧ dsF xs p b = (lowN (dpQ p b xs n) (dpN p b xs n), lowD (dpQ p b xs n) (dpN p b xs n), 0) := by
  subst hn
  have e : dsC xs p b = 0 := by simp [dsC, h, h2]
  refine ⟨e, ?_⟩
  simp only [dsF, e, dpF_1 h2, if_true]
theorem foC_whole {xs : List Pt} (h : okP xs = true) : foC xs 1000000 1 = 0 := fo_0 h (by decide)
/-! ### theta -/
theorem low_scale {a b k : Int} (hk : 1 ≤ k) : lowN (a * k) (b * k) = lowN a b ∧ lowD (a * k) (b * k) = lowD a b := by
  have e : ((Int.gcd (a * k) (b * k) : Nat) : Int) = (Int.gcd a b : Int) * k := by
    rw [Int.gcd_mul_right, Int.natCast_mul, Int.natAbs_of_nonneg (by omega)]
  unfold lowN lowD
  rw [e]
  exact ⟨Int.mul_ediv_mul_of_pos_left _ _ (by omega), Int.mul_ediv_mul_of_pos_left _ _ (by omega)⟩
theorem low_mul (a b : Int) : a = lowN a b * (Int.gcd a b : Int) ∧ b = lowD a b * (Int.gcd a b : Int) := by
  unfold lowN lowD
  exact ⟨(Int.ediv_mul_cancel (Int.gcd_dvd_left ..)).symm, (Int.ediv_mul_cancel (Int.gcd_dvd_right ..)).symm⟩
theorem theta_low {a b c d : Int} (hb : b ≠ 0) (hc : c ≠ 0) : lowN (lowN a b * lowD c d) (lowD a b * lowN c d) = lowN (a * d) (b * c) ∧ lowD (lowN a b * lowD c d) (lowD a b * lowN c d) = lowD (a * d) (b * c) := by
  obtain ⟨e1, e2⟩ := low_mul a b
  obtain ⟨e3, e4⟩ := low_mul c d
  have g1 : 0 < Int.gcd a b := Int.gcd_pos_of_ne_zero_right a hb
  have g2 : 0 < Int.gcd c d := Int.gcd_pos_of_ne_zero_left d hc
  have k1 : 1 ≤ (Int.gcd a b : Int) * (Int.gcd c d : Int) := by
    have := Int.mul_pos (show (0 : Int) < (Int.gcd a b : Int) by omega) (show (0 : Int) < (Int.gcd c d : Int) by omega)
    omega
  have h := low_scale (a := lowN a b * lowD c d) (b := lowD a b * lowN c d) k1
  generalize (Int.gcd a b : Int) = x at e1 e2 h
  generalize (Int.gcd c d : Int) = y at e3 e4 h
  have f1 : a * d = lowN a b * lowD c d * (x * y) := by
    conv => lhs; rw [e1, e4]
    grind
  have f2 : b * c = lowD a b * lowN c d * (x * y) := by
    conv => lhs; rw [e2, e3]
    grind
  rw [f1, f2, h.1, h.2]
  exact ⟨rfl, rfl⟩
theorem lowN_zero {a b : Int} : lowN a b = 0 ↔ a = 0 := by
  obtain ⟨e1, -⟩ := low_mul a b
  constructor
  · intro h; rw [e1, h, Int.zero_mul]
  · intro h; subst h; simp [lowN]
def thC (xs : List Pt) (p b : Int) : Int := if dsC xs p b = 0 then (if dpQ 1000000 1 xs xs.length = 0 then 6 else 0) else dsC xs p b
def thF (xs : List Pt) (p b : Int) : Int × Int × Int := if thC xs p b = 0 then (lowN (dpQ p b xs xs.length * dpN 1000000 1 xs xs.length) (dpN p b xs xs.length * dpQ 1000000 1 xs xs.length), lowD (dpQ p b xs xs.length * dpN 1000000 1 xs xs.length) (dpN p b xs xs.length * dpQ 1000000 1 xs xs.length), 0) else (0, 0, thC xs p b)
end Go.Proofs.Ytcjipmpccmppiaa
