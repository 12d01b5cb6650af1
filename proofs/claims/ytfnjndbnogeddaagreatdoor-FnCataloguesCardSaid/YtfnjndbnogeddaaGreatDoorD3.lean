/- The model's text of a magnitude (l02Three, l02Text) over one seat's translation. -/
import Derived.Test.YtfnjndbnogeddaaGreatDoorD1
namespace Go.Proofs.YtfnjndbnogeddaaGreatDoor
open Go.ChangeShapes Go.WideShapes Go.ChangeAt Go.RowKit

theorem cat_bytes (a b : List UInt8) : ((⟨a.toArray⟩ : ByteArray) ++ (⟨b.toArray⟩ : ByteArray)) = ⟨(a ++ b).toArray⟩ := by apply ByteArray.ext; simp
theorem decDigits_len : ∀ (k u : Nat), u < 10 ^ (k + 1) → (Lib.decDigits u).length ≤ k + 1
  | 0, u, h => by rw [Lib.decDigits_one (by omega)]; simp
  | k + 1, u, h => by
    by_cases h10 : u < 10
    · rw [Lib.decDigits_one h10]; simp
    · rw [Lib.decDigits, dif_neg h10, List.length_append]
      have hp : u / 10 < 10 ^ (k + 1) := by rw [Nat.pow_succ] at h; omega
      have := decDigits_len k (u / 10) hp
      simp; omega
theorem itoa_len (n : Int) (h1 : -9223372036854775808 ≤ n) (h2 : n ≤ 9223372036854775807) : (Lib.itoa n).length ≤ 20 := by
  unfold Lib.itoa
  split
  · have := decDigits_len 18 n.natAbs (by omega)
    simp; omega
  · have := decDigits_len 18 n.toNat (by omega)
    omega
def threeV (n : Int) : List UInt8 := Lib.itoa (n / 100) ++ Lib.itoa (n / 10 % 10) ++ Lib.itoa (n % 10)
theorem three_len (n : Int) (h1 : 0 ≤ n) (h2 : n ≤ 999) : (threeV n).length ≤ 60 := by
  have l1 := itoa_len (n / 100) (by omega) (by omega)
  have l2 := itoa_len (n / 10 % 10) (by omega) (by omega)
  have l3 := itoa_len (n % 10) (by omega) (by omega)
  simp only [threeV, List.length_append]; omega
/-- the text of a magnitude as the model writes it -/
def magL (m : Int) : List UInt8 := (if m < 0 then [45] else []) ++ (Lib.itoa (m.natAbs / 1000 : Nat) ++ [46] ++ threeV (m.natAbs % 1000 : Nat))
end Go.Proofs.YtfnjndbnogeddaaGreatDoor
