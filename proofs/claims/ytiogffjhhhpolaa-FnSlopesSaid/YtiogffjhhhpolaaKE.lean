/- Facts of FnSlopes: fainter points, points on a line: plain arithmetic. -/
import Derived.Test.YtiogffjhhhpolaaKC
import Derived.Test.YtiogffjhhhpolaaJU
namespace Go.Proofs.Ytiogffjhhhpolaa

def fnt (xs : List Pt) : List Pt := xs.map fun x => (x.1, x.2 + 500)
def lin (xs : List Pt) (t0 r : Int) : List Pt := xs.map fun x => (x.1, 9000 + (r * (x.1 - t0)).tdiv 100)
theorem fnt_len (xs : List Pt) : (fnt xs).length = xs.length := by simp [fnt]
theorem lin_len (xs : List Pt) (t0 r : Int) : (lin xs t0 r).length = xs.length := by simp [lin]
theorem fnt_at {xs : List Pt} {n k : Nat} (hn : xs.length = n) (hk : k < n) : (fnt xs)[k]?.getD pt0 = ((xs[k]?.getD pt0).1, (xs[k]?.getD pt0).2 + 500) := by
  rw [fnt, List.getElem?_map, List.getElem?_eq_getElem (by omega)]
  rfl
theorem lin_at {xs : List Pt} {n k : Nat} {t0 r : Int} (hn : xs.length = n) (hk : k < n) : (lin xs t0 r)[k]?.getD pt0 = ((xs[k]?.getD pt0).1, 9000 + (r * ((xs[k]?.getD pt0).1 - t0)).tdiv 100) := by
  rw [lin, List.getElem?_map, List.getElem?_eq_getElem (by omega)]
  rfl
theorem fnt_step {xs : List Pt} {k n : Nat} {x0 x1 : Int} (hn : xs.length = n) (hk : k < n) (hx : xs[k]?.getD pt0 = (x0, x1)) : flatPt ((fnt xs).take (k + 1)) = flatPt ((fnt xs).take k) ++ [.int .i64 x0, .int .i64 (x1 + 500)] := by
  have hlt : k < (fnt xs).length := by rw [fnt_len]; omega
  have h := fnt_at hn hk
  rw [hx, List.getElem?_eq_getElem hlt, Option.getD_some] at h
  rw [← List.take_append_getElem hlt, h, flatPt_snoc]
  rfl
theorem lin_step {xs : List Pt} {k n : Nat} {x0 x1 t0 r : Int} (hn : xs.length = n) (hk : k < n) (hx : xs[k]?.getD pt0 = (x0, x1)) : flatPt ((lin xs t0 r).take (k + 1)) = flatPt ((lin xs t0 r).take k) ++ [.int .i64 x0, .int .i64 (9000 + (r * (x0 - t0)).tdiv 100)] := by
  have hlt : k < (lin xs t0 r).length := by rw [lin_len]; omega
  have h := lin_at (t0 := t0) (r := r) hn hk
  rw [hx, List.getElem?_eq_getElem hlt, Option.getD_some] at h
  rw [← List.take_append_getElem hlt, h, flatPt_snoc]
  rfl
theorem fnt_ok {xs : List Pt} {n : Nat} (hn : xs.length = n) (hok : okP xs = true) (hd : ∀ k, k < n → drP (xs[k]?.getD pt0)) : okP (fnt xs) = true := by
  obtain ⟨h1, h2, h3⟩ := okP_num hn hok
  refine okP_yes (n := n) (by rw [fnt_len, hn]) h1 fun k hk => ?_
  have a := h2 k hk
  have b := hd k hk
  unfold drP at b
  have hv : pvB ((fnt xs)[k]?.getD pt0) = true := by
    rw [fnt_at hn hk]
    simp only [pvB, tmB, magB, Bool.and_eq_true, inB_iff]
    omega
  by_cases hk0 : k = 0
  · exact okAtP_zero rfl hv hk0
  · obtain ⟨k', rfl⟩ : ∃ k', k = k' + 1 := ⟨k - 1, by omega⟩
    refine okAtP_succ rfl rfl hv ?_
    rw [fnt_at hn hk, fnt_at hn (by omega)]
    simpa using h3 k' hk
theorem outF_congr {t m t' m' : Nat → Int} {n : Nat} (h : ∀ i j, j < i → i < n → (t i - t j) * (m i - m j) = (t' i - t' j) * (m' i - m' j)) : outF t m n = outF t' m' n :=
  sumF_congr fun i hi => sumF_congr fun j hj => h i j hj hi
theorem outF_scale {t m : Nat → Int} {n : Nat} {c r : Int} (h : ∀ i j, j < i → i < n → c * ((t i - t j) * (m i - m j)) = r * ((t i - t j) * (t i - t j))) : c * outF t m n = r * outF t t n := by
  unfold outF
  rw [← sumF_mul, ← sumF_mul]
  refine sumF_congr fun i hi => ?_
  unfold inF
  rw [← sumF_mul, ← sumF_mul]
  exact sumF_congr fun j hj => h i j hj hi
theorem fnt_sl {xs : List Pt} {n : Nat} (hn : xs.length = n) (hok : okP xs = true) (hd : ∀ k, k < n → drP (xs[k]?.getD pt0)) : slF (fnt xs) = slF xs := by
  have h1 : slN (fnt xs) = slN xs := by
    unfold slN
    rw [fnt_len, hn]
    refine outF_congr fun i j hj hi => ?_
    have e1 : tmF (fnt xs) i = tmF xs i ∧ mgF (fnt xs) i = mgF xs i + 500 := by unfold tmF mgF; rw [fnt_at hn hi]; exact ⟨rfl, rfl⟩
    have e2 : tmF (fnt xs) j = tmF xs j ∧ mgF (fnt xs) j = mgF xs j + 500 := by unfold tmF mgF; rw [fnt_at hn (by omega)]; exact ⟨rfl, rfl⟩
    rw [e1.1, e1.2, e2.1, e2.2, show mgF xs i + 500 - (mgF xs j + 500) = mgF xs i - mgF xs j by omega]
  have h2 : slD (fnt xs) = slD xs := by
    unfold slD
    rw [fnt_len, hn]
    refine outF_congr fun i j hj hi => ?_
    have e1 : tmF (fnt xs) i = tmF xs i := by unfold tmF; rw [fnt_at hn hi]
    have e2 : tmF (fnt xs) j = tmF xs j := by unfold tmF; rw [fnt_at hn (by omega)]
    rw [e1, e2]
  unfold slF
  rw [fnt_ok hn hok hd, hok, fnt_len, h1, h2]
theorem low_mul {k D : Int} (hD : 1 ≤ D) : lowN (k * D) D = k ∧ lowD (k * D) D = 1 := by
  have hg : (Int.gcd (k * D) D : Int) = D := by
    rw [Int.gcd, Int.natAbs_mul, Nat.gcd_mul_left_left]
    omega
  unfold lowN lowD
  rw [hg]
  exact ⟨Int.mul_ediv_cancel _ (by omega), Int.ediv_self (by omega)⟩
theorem lowD_pos {a D : Int} (hD : 1 ≤ D) : 1 ≤ lowD a D := by
  unfold lowD
  have hp : 0 < Int.gcd a D := Int.gcd_pos_of_ne_zero_right a (by omega)
  have hdv : (Int.gcd a D : Int) ∣ D := Int.gcd_dvd_right ..
  have hle := Int.le_of_dvd (by omega) hdv
  exact (Int.le_ediv_iff_mul_le (by omega)).2 (by omega)
theorem tdiv_hundred (r q : Int) : (r * (100 * q)).tdiv 100 = r * q := by
  rw [show r * (100 * q) = r * q * 100 by grind]
  exact Int.mul_tdiv_cancel _ (by omega)
theorem lin_sl {xs : List Pt} {n : Nat} {t0 r : Int} (hn : xs.length = n) (hd : ∀ k, k < n → drP (xs[k]?.getD pt0)) (h0 : t0 % 100 = 0) (h2 : ¬ n < 2) (hok : okP (lin xs t0 r) = true) : slF (lin xs t0 r) = (100 * r, 1, 0) := by
  have hl : (lin xs t0 r).length = n := by rw [lin_len, hn]
  obtain ⟨-, hD, -⟩ := sl_bd hl hok h2
  have hs : 100 * slN (lin xs t0 r) = r * slD (lin xs t0 r) := by
    unfold slN slD
    rw [hl]
    refine outF_scale fun i j hj hi => ?_
    obtain ⟨qi, hqi⟩ : ∃ q, tmF xs i - t0 = 100 * q := ⟨(tmF xs i - t0) / 100, by have := (hd i hi).1; unfold tmF; omega⟩
    obtain ⟨qj, hqj⟩ : ∃ q, tmF xs j - t0 = 100 * q := ⟨(tmF xs j - t0) / 100, by have := (hd j (by omega)).1; unfold tmF; omega⟩
    have e1 : tmF (lin xs t0 r) i = tmF xs i ∧ mgF (lin xs t0 r) i = 9000 + r * qi := by
      unfold tmF mgF at *
      rw [lin_at hn hi]
      simp only [hqi, tdiv_hundred]
      exact ⟨trivial, trivial⟩
    have e2 : tmF (lin xs t0 r) j = tmF xs j ∧ mgF (lin xs t0 r) j = 9000 + r * qj := by
      unfold tmF mgF at *
      rw [lin_at hn (by omega)]
      simp only [hqj, tdiv_hundred]
      exact ⟨trivial, trivial⟩
    rw [e1.1, e1.2, e2.1, e2.2, show tmF xs i - tmF xs j = 100 * (qi - qj) by omega]
    grind
  have hN : 10000 * slN (lin xs t0 r) = 100 * r * slD (lin xs t0 r) := by
    have : 100 * r * slD (lin xs t0 r) = 100 * (r * slD (lin xs t0 r)) := by grind
    rw [this, ← hs]
    omega
  rw [sl_0 hl hok h2, hN, (low_mul hD).1, (low_mul hD).2]
end Go.Proofs.Ytiogffjhhhpolaa
