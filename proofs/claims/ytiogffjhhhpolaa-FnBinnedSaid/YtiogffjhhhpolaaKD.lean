/- Facts of FnBetween: magnitudes at the points' times and just between them; the widest gap. -/
import Derived.Test.YtiogffjhhhpolaaKC
import Derived.Test.YtiogffjhhhpolaaJG
import Derived.Test.YtiogffjhhhpolaaJ4
namespace Go.Proofs.Ytiogffjhhhpolaa

theorem PtL.get {w : World} {a n k : Nat} {xs : List Pt} {x0 x1 : Int} (h : PtL w (some ⟨a, 0, none⟩) n xs) (hk : k < n) (hx : xs[k]?.getD pt0 = (x0, x1)) : w.cell? ⟨a, k * 2, none⟩ = some (.int .i64 x0) ∧ w.cell? ⟨a, k * 2 + 1, none⟩ = some (.int .i64 x1) := by
  obtain ⟨b, o, e, hc⟩ := h.2 k hk
  cases e
  rw [hx] at hc
  obtain ⟨-, c0, c1⟩ := hc.parts
  simp only [Nat.zero_add] at c0 c1
  exact ⟨c0, c1⟩
theorem rnd_btw {num den lo hi : Int} (hd : 0 < den) (h1 : lo * den ≤ num) (h2 : num ≤ hi * den) : lo ≤ rnd num den ∧ rnd num den ≤ hi := by
  unfold rnd
  constructor
  · refine (Int.le_ediv_iff_mul_le (by omega)).2 ?_
    have : lo * (2 * den) = 2 * (lo * den) := by grind
    omega
  · have h3 : (2 * num + den) / (2 * den) < hi + 1 := by
      refine Int.ediv_lt_of_lt_mul (by omega) ?_
      have : (hi + 1) * (2 * den) = 2 * (hi * den) + 2 * den := by grind
      omega
    omega
theorem ok_lt {xs : List Pt} {n : Nat} (hn : xs.length = n) (hok : okP xs = true) : ∀ b a, a < b → b < n → (xs[a]?.getD pt0).1 < (xs[b]?.getD pt0).1 := by
  obtain ⟨-, -, h3⟩ := okP_num hn hok
  intro b
  induction b with
  | zero => intro a h; omega
  | succ b ih =>
    intro a h1 h2
    have h4 := h3 b h2
    by_cases e : a = b
    · subst e; exact h4
    · have := ih a (by omega) (by omega)
      omega
theorem bet_at {xs : List Pt} {n k : Nat} (hn : xs.length = n) (hok : okP xs = true) (hk : k < n) : maC xs (xs[k]?.getD pt0).1 = 0 ∧ maA xs (xs[k]?.getD pt0).1 = (xs[k]?.getD pt0).2 := by
  obtain ⟨-, h2, -⟩ := okP_num hn hok
  have hlt := ok_lt hn hok
  have ht : tmB (xs[k]?.getD pt0).1 = true := by have := h2 k hk; simp only [tmB, inB_iff]; omega
  have hp : plc xs (xs[k]?.getD pt0).1 = k := plc_is hn (by omega) (fun j hj => hlt k j hj hk) (.inr (Int.le_refl _))
  exact ma_ex hok ht (exB_yes hn hp hk rfl rfl) hp rfl
theorem bet_mid {xs : List Pt} {n k : Nat} {x0 x1 y0 y1 : Int} (hn : xs.length = n) (hok : okP xs = true) (hk : k + 1 < n) (hx : xs[k]?.getD pt0 = (x0, x1)) (hy : xs[k + 1]?.getD pt0 = (y0, y1)) :
    maC xs ((x0 + y0).tdiv 2) = 0 ∧ min x1 y1 ≤ maA xs ((x0 + y0).tdiv 2) ∧ maA xs ((x0 + y0).tdiv 2) ≤ max x1 y1 := by
  obtain ⟨-, h2, h3⟩ := okP_num hn hok
  have hlt := ok_lt hn hok
  have a1 := h2 k (by omega)
  have a2 := h2 (k + 1) hk
  have a3 := h3 k hk
  rw [hx] at a1 a3
  rw [hy] at a2 a3
  simp only at a1 a2 a3
  obtain ⟨t, ht⟩ : ∃ t, (x0 + y0).tdiv 2 = t := ⟨_, rfl⟩
  have ht2 : t = (x0 + y0) / 2 := by rw [← ht, Int.tdiv_eq_ediv_of_nonneg (by omega)]
  rw [ht]
  have htb : tmB t = true := by simp only [tmB, inB_iff]; omega
  by_cases e : t = x0
  · have := bet_at hn hok (show k < n by omega)
    rw [hx] at this
    simp only at this
    rw [e, this.1, this.2]
    omega
  · have hp : plc xs t = k + 1 := plc_is hn (by omega) (fun j hj => by
      by_cases ej : j = k
      · subst ej; rw [hx]; show x0 < t; omega
      · have := hlt k j (by omega) (by omega)
        rw [hx] at this
        have h9 : (xs[j]?.getD pt0).1 < x0 := this
        omega) (.inr (by rw [hy]; show t ≤ y0; omega))
    have he := exB_not hp hy (show y0 ≠ t by omega)
    have hm := ma_0 hn hok htb he hp (by omega) (show xs[k + 1 - 1]?.getD pt0 = (x0, x1) from by rw [Nat.add_sub_cancel]; exact hx) hy
    rw [hm.1, hm.2]
    refine ⟨rfl, ?_⟩
    unfold btwP
    simp only
    have hp1 : 0 ≤ t - x0 := by omega
    have hq1 : 0 ≤ y0 - t := by omega
    have b1 := Int.mul_le_mul_of_nonneg_right (show min x1 y1 ≤ x1 by omega) hq1
    have b2 := Int.mul_le_mul_of_nonneg_right (show min x1 y1 ≤ y1 by omega) hp1
    have b3 := Int.mul_le_mul_of_nonneg_right (show x1 ≤ max x1 y1 by omega) hq1
    have b4 := Int.mul_le_mul_of_nonneg_right (show y1 ≤ max x1 y1 by omega) hp1
    have c1 : min x1 y1 * (t - x0 + (y0 - t)) = min x1 y1 * (y0 - t) + min x1 y1 * (t - x0) := by generalize min x1 y1 = z; grind
    have c2 : max x1 y1 * (t - x0 + (y0 - t)) = max x1 y1 * (y0 - t) + max x1 y1 * (t - x0) := by generalize max x1 y1 = z; grind
    exact rnd_btw (by omega) (by omega) (by omega)
theorem best_max (xs : List Pt) : ∀ k i, 1 ≤ i → i < k → gapT xs i ≤ gapT xs (bestG xs k)
  | 0, i, _, h => by omega
  | k + 1, i, h1, h2 => by
    by_cases hk : 2 ≤ k
    · have ih := best_max xs k
      by_cases hg : gapT xs (bestG xs k) < gapT xs k
      · rw [bestG_yes hk hg]
        by_cases e : i = k
        · subst e; exact Int.le_refl _
        · have := ih i h1 (by omega); omega
      · rw [bestG_no hg]
        by_cases e : i = k
        · subst e; omega
        · exact ih i h1 (by omega)
    · have e : i = 1 := by omega
      have hk1 : k = 1 := by omega
      subst e
      subst hk1
      rw [bestG_two]
      exact Int.le_refl _
theorem gap_max {xs : List Pt} {n k : Nat} {x0 x1 y0 y1 : Int} (h2 : 2 ≤ n) (hk : k + 1 < n) (hx : xs[k]?.getD pt0 = (x0, x1)) (hy : xs[k + 1]?.getD pt0 = (y0, y1)) : y0 - x0 ≤ gto xs n - gfr xs n := by
  have h := best_max xs n (k + 1) (by omega) hk
  simp only [gapT, Nat.add_sub_cancel, tmP, hx, hy] at h
  unfold gto gfr
  rw [if_neg (by omega), if_neg (by omega)]
  unfold tmP
  exact h
end Go.Proofs.Ytiogffjhhhpolaa
