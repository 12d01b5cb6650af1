/- The model's text of a magnitude (l02Three, l02Text) over one seat's translation. -/
import Derived.Test.YtfnjndbnogeddaaDoorD1
namespace Go.Proofs.YtfnjndbnogeddaaDoor
open Go.ChangeShapes Go.WideShapes Go.ChangeAt Go.RowKit

theorem cat_bytes (a b : List UInt8) : ((⟨a.toArray⟩ : ByteArray) ++ (⟨b.toArray⟩ : ByteArray)) = ⟨(a ++ b).toArray⟩ := by apply ByteArray.ext; simp
theorem decDigits_len : ∀ (k u : Nat), u < 10 ^ (k + 1) → (Lib.decDigits u).length ≤ k + 1
  | 0, u, h => by rw [Lib.decDigits_one (by omega)]; simp
  | k + 1, u, h => by
    by_cases h10 : u < 10
    · rw [Lib.decDigits_one h10]; simp
    · rw [Lib.decDigits, dif_neg h10, List.length_append]
      have hp : u / 10 < 10 ^ (k + 1) := by rw [Nat.pow_succ] at h; omega
      have := decDigits_len k (u / 10) hp
      simp; omega
theorem itoa_len (n : Int) (h1 : -9223372036854775808 ≤ n) (h2 : n ≤ 9223372036854775807) : (Lib.itoa n).length ≤ 20 := by
  unfold Lib.itoa
  split
  · have := decDigits_len 18 n.natAbs (by omega)
    simp; omega
  · have := decDigits_len 18 n.toNat (by omega)
    omega
def threeV (n : Int) : List UInt8 := Lib.itoa (n / 100) ++ Lib.itoa (n / 10 % 10) ++ Lib.itoa (n % 10)
theorem three_len (n : Int) (h1 : 0 ≤ n) (h2 : n ≤ 999) : (threeV n).length ≤ 60 := by
  have l1 := itoa_len (n / 100) (by omega) (by omega)
  have l2 := itoa_len (n / 10 % 10) (by omega) (by omega)
  have l3 := itoa_len (n % 10) (by omega) (by omega)
  simp only [threeV, List.length_append]; omega
theorem l02Three_any (n : Int) (w : World) (h1 : 0 ≤ n) (h2 : n ≤ 999) :
    Calls Tryd.prog 47 #[.int .i64 n] w fun e w' => e = .returned (.string ⟨(threeV n).toArray⟩) ∧ Below w.heap.size w w' := by
  have l1 := itoa_len (n / 100) (by omega) (by omega)
  have l2 := itoa_len (n / 10 % 10) (by omega) (by omega)
  have l3 := itoa_len (n % 10) (by omega) (by omega)
  have hv : (((⟨(Lib.itoa (n / 100)).toArray⟩ : ByteArray) ++ (⟨(Lib.itoa (n / 10 % 10)).toArray⟩ : ByteArray)) ++ (⟨(Lib.itoa (n % 10)).toArray⟩ : ByteArray)) = ⟨(threeV n).toArray⟩ := by rw [cat_bytes, cat_bytes]; rfl
  have HV := Lib.hid hv
  clear hv
  go_enter Tryd.func47, Tryd.ntmps47
  go_wp2_with fail
  refine (l01Dec_any _ _ (by omega) (by omega)).mono ?_
  rintro e w1 ⟨rfl, b1⟩
  go_wp2_with fail
  refine (l01Dec_any _ _ (by omega) (by omega)).mono ?_
  rintro e w2 ⟨rfl, b2⟩
  go_wp2_with fail
  refine (l01Dec_any _ _ (by omega) (by omega)).mono ?_
  rintro e w3 ⟨rfl, b3⟩
  generalize Lib.itoa (n / 100) = A at l1 HV
  generalize Lib.itoa (n / 10 % 10) = B at l2 HV
  generalize Lib.itoa (n % 10) = C at l3 HV
  have s1 : ¬ 9223372036854775807 < A.length + B.length := by omega
  have s2 : ¬ 9223372036854775807 < A.length + B.length + C.length := by omega
  go_wp2
  go_ret
  exact ⟨by rw [← HV.out]; rfl, belowCall (belowCall b1 b2) b3⟩
/-- the text of a magnitude as the model writes it -/
def magL (m : Int) : List UInt8 := (if m < 0 then [45] else []) ++ (Lib.itoa (m.natAbs / 1000 : Nat) ++ [46] ++ threeV (m.natAbs % 1000 : Nat))
theorem l02Text_any (m : Int) (w : World) (h1 : -20000 ≤ m) (h2 : m ≤ 20000) :
    Calls Tryd.prog 33 #[.int .i64 m] w fun e w' => e = .returned (.string ⟨(magL m).toArray⟩) ∧ Below w.heap.size w w' := by
  by_cases hneg : m < 0
  · obtain ⟨u, rfl⟩ : ∃ u : Nat, m = -(u : Int) := ⟨m.natAbs, by omega⟩
    have l1 := itoa_len ((u : Int) / 1000) (by omega) (by omega)
    have hv : (((⟨#[45]⟩ : ByteArray) ++ (⟨(Lib.itoa ((u : Int) / 1000)).toArray⟩ : ByteArray)) ++ (⟨#[46]⟩ : ByteArray)) ++ (⟨(threeV ((u : Int) % 1000)).toArray⟩ : ByteArray) = ⟨(magL (-(u : Int))).toArray⟩ := by
      rw [show (⟨#[45]⟩ : ByteArray) = ⟨([45] : List UInt8).toArray⟩ from rfl, show (⟨#[46]⟩ : ByteArray) = ⟨([46] : List UInt8).toArray⟩ from rfl, cat_bytes, cat_bytes, cat_bytes]; unfold magL; rw [if_pos (by omega)]
      have e1 : ((Int.natAbs (-(u : Int)) / 1000 : Nat) : Int) = (u : Int) / 1000 := by omega
      have e2 : ((Int.natAbs (-(u : Int)) % 1000 : Nat) : Int) = (u : Int) % 1000 := by omega
      rw [e1, e2]; simp
    have HV := Lib.hid hv
    clear hv
    go_enter Tryd.func33, Tryd.ntmps33
    go_wp2_with fail
    refine (l01Dec_any _ _ (by omega) (by omega)).mono ?_
    rintro e w1 ⟨rfl, b1⟩
    go_wp2_with fail
    refine (l02Three_any _ _ (by omega) (by omega)).mono ?_
    rintro e w2 ⟨rfl, b2⟩
    have l3 := three_len ((u : Int) % 1000) (by omega) (by omega)
    generalize Lib.itoa ((u : Int) / 1000) = A at l1 HV
    generalize threeV ((u : Int) % 1000) = C at l3 HV
    have s1 : ¬ 9223372036854775807 < 1 + A.length := by omega
    have s2 : ¬ 9223372036854775807 < 1 + A.length + 1 := by omega
    have s3 : ¬ 9223372036854775807 < 1 + A.length + 1 + C.length := by omega
    have s4 : ¬ 9223372036854775807 < A.length + 1 := by omega
    have s5 : ¬ 9223372036854775807 < A.length + 1 + C.length := by omega
    go_wp2
    go_ret
    exact ⟨by rw [← HV.out]; rfl, belowCall b1 b2⟩
  · obtain ⟨u, rfl⟩ : ∃ u : Nat, m = (u : Int) := ⟨m.natAbs, by omega⟩
    have l1 := itoa_len ((u : Int) / 1000) (by omega) (by omega)
    have hv : ((⟨(Lib.itoa ((u : Int) / 1000)).toArray⟩ : ByteArray) ++ (⟨#[46]⟩ : ByteArray)) ++ (⟨(threeV ((u : Int) % 1000)).toArray⟩ : ByteArray) = ⟨(magL (u : Int)).toArray⟩ := by
      rw [show (⟨#[46]⟩ : ByteArray) = ⟨([46] : List UInt8).toArray⟩ from rfl, cat_bytes, cat_bytes]; unfold magL; rw [if_neg (by omega)]
      have e1 : ((Int.natAbs (u : Int) / 1000 : Nat) : Int) = (u : Int) / 1000 := by omega
      have e2 : ((Int.natAbs (u : Int) % 1000 : Nat) : Int) = (u : Int) % 1000 := by omega
      rw [e1, e2]; simp
    have HV := Lib.hid hv
    clear hv
    go_enter Tryd.func33, Tryd.ntmps33
    go_wp2_with fail
    refine (l01Dec_any _ _ (by omega) (by omega)).mono ?_
    rintro e w1 ⟨rfl, b1⟩
    go_wp2_with fail
    refine (l02Three_any _ _ (by omega) (by omega)).mono ?_
    rintro e w2 ⟨rfl, b2⟩
    have l3 := three_len ((u : Int) % 1000) (by omega) (by omega)
    generalize Lib.itoa ((u : Int) / 1000) = A at l1 HV
    generalize threeV ((u : Int) % 1000) = C at l3 HV
    have s1 : ¬ 9223372036854775807 < 1 + A.length := by omega
    have s2 : ¬ 9223372036854775807 < 1 + A.length + 1 := by omega
    have s3 : ¬ 9223372036854775807 < 1 + A.length + 1 + C.length := by omega
    have s4 : ¬ 9223372036854775807 < A.length + 1 := by omega
    have s5 : ¬ 9223372036854775807 < A.length + 1 + C.length := by omega
    go_wp2
    go_ret
    exact ⟨by rw [← HV.out]; rfl, belowCall b1 b2⟩
end Go.Proofs.YtfnjndbnogeddaaDoor
