/- SlopeOf: sums of products of differences, the model's l08Line. -/
import Derived.Test.YtiogffjhhhpolaaJS
import Derived.Test.YtiogffjhhhpolaaB1W
import Derived.Test.YtiogffjhhhpolaaGFr1
import Derived.Deep.AppendLies
namespace Go.Proofs.Ytiogffjhhhpolaa
open Go.ChangeShapes Go.WideShapes Go.ChangeAt Go.RowKit Go.Deep

theorem inF_bd {t m : Nat → Int} {i k n : Nat} {T M : Int} (hi : i < n) (hk : k ≤ i) (hT : ∀ j, j < n → 0 ≤ t j ∧ t j ≤ T) (hM : ∀ i j, i < n → j < n → m i - m j ≤ M) : -(T * M * k) ≤ inF t m i k ∧ inF t m i k ≤ T * M * k :=
  sumF_bd fun j hj => absMul (by have := hT i hi; have := hT j (by omega); omega) (by have := hT i hi; have := hT j (by omega); omega) (by have := hM j i (by omega) hi; omega) (hM i j hi (by omega))
theorem outF_crude {t m : Nat → Int} {n k : Nat} {T M : Int} (hn : n ≤ 100) (hk : k ≤ n) (hT0 : 0 ≤ T * M) (hT : ∀ j, j < n → 0 ≤ t j ∧ t j ≤ T) (hM : ∀ i j, i < n → j < n → m i - m j ≤ M) : -(T * M * 100 * k) ≤ outF t m k ∧ outF t m k ≤ T * M * 100 * k :=
  sumF_bd fun i hi => by
    have h := inF_bd (t := t) (m := m) (i := i) (k := i) (n := n) (by omega) (Nat.le_refl _) hT hM
    have h2 : T * M * (i : Int) ≤ T * M * 100 := Int.mul_le_mul_of_nonneg_left (by omega) hT0
    omega
theorem inF_step (t m : Nat → Int) (i k : Nat) : inF t m i (k + 1) = inF t m i k + (t i - t k) * (m i - m k) := rfl
theorem outF_step (t m : Nat → Int) (i : Nat) : outF t m (i + 1) = outF t m i + inF t m i i := rfl
end Go.Proofs.Ytiogffjhhhpolaa
