/- Texts with digits, padded: the program's writePadded into a strings.Builder; the program's MagText and TimeText, the model's. -/
import Derived.Test.YtlfbfgdejoggpacDoorD2
import Derived.Test.YtlfbfgdejoggpacDoorD3
import Derived.Test.YtlfbfgdejoggpacDoorBW
import Derived.Test.YtlfbfgdejoggpacDoorT1
namespace Go.Proofs.YtlfbfgdejoggpacDoor
open Go.ChangeShapes Go.WideShapes Go.ChangeAt Go.RowKit

theorem powB {B : Nat} {w w' : World} (h : Pow w) (hg : 3 < B) (hb : Below B w w') : Pow w' := by
  unfold Pow Lib.TabIs World.var? at h ⊢
  simp only [pow_global, Option.bind_some] at h ⊢
  rw [hb.block _ hg]
  exact h
theorem pow_lt {w : World} (h : Pow w) : 3 < w.heap.size := var_lt pow_global h
def padL (n : Int) (k : Nat) : List UInt8 := List.replicate (k - (Lib.itoa n).length) 48 ++ Lib.itoa n
/-! ### Digits -/
def o (n : Nat) : UInt8 := UInt8.ofNat (48 + n)
theorem dec_ge (u : Nat) (h : 10 ≤ u) : Lib.decDigits u = Lib.decDigits (u / 10) ++ [o (u % 10)] := by
  rw [Lib.decDigits, dif_neg (by omega)]; rfl
theorem dec1 {n : Nat} (h : n < 10) : Lib.decDigits n = [o n] := Lib.decDigits_one h
theorem dec2 {n : Nat} (h1 : 10 ≤ n) (h : n < 100) : Lib.decDigits n = [o (n / 10), o (n % 10)] := by
  rw [dec_ge n h1, dec1 (by omega)]; rfl
theorem dec3 {n : Nat} (h1 : 100 ≤ n) (h : n < 1000) : Lib.decDigits n = [o (n / 100), o (n / 10 % 10), o (n % 10)] := by
  rw [dec_ge n (by omega), dec2 (by omega) (by omega), show n / 10 / 10 = n / 100 from by omega]; rfl
theorem dec4 {n : Nat} (h1 : 1000 ≤ n) (h : n < 10000) : Lib.decDigits n = [o (n / 1000), o (n / 100 % 10), o (n / 10 % 10), o (n % 10)] := by
  rw [dec_ge n (by omega), dec3 (by omega) (by omega), show n / 10 / 100 = n / 1000 from by omega, show n / 10 / 10 = n / 100 from by omega]; rfl
theorem o_zero : o 0 = 48 := rfl
theorem pad2 {n : Nat} (h : n < 100) : padL n 2 = [o (n / 10), o (n % 10)] := by
  rw [padL, itoa_pos]
  by_cases h1 : n < 10
  · rw [dec1 h1, show n / 10 = 0 from by omega, show n % 10 = n from by omega]; rfl
  · rw [dec2 (by omega) h]; rfl
theorem pad3 {n : Nat} (h : n < 1000) : padL n 3 = [o (n / 100), o (n / 10 % 10), o (n % 10)] := by
  rw [padL, itoa_pos]
  by_cases h1 : n < 10
  · rw [dec1 h1, show n / 100 = 0 from by omega, show n / 10 % 10 = 0 from by omega, show n % 10 = n from by omega]; rfl
  · by_cases h2 : n < 100
    · rw [dec2 (by omega) h2, show n / 100 = 0 from by omega, show n / 10 % 10 = n / 10 from by omega]; rfl
    · rw [dec3 (by omega) h]; rfl
theorem pad4 {n : Nat} (h : n < 10000) : padL n 4 = [o (n / 1000), o (n / 100 % 10), o (n / 10 % 10), o (n % 10)] := by
  rw [padL, itoa_pos]
  by_cases h1 : n < 10
  · rw [dec1 h1, show n / 1000 = 0 from by omega, show n / 100 % 10 = 0 from by omega, show n / 10 % 10 = 0 from by omega, show n % 10 = n from by omega]; rfl
  · by_cases h2 : n < 100
    · rw [dec2 (by omega) h2, show n / 1000 = 0 from by omega, show n / 100 % 10 = 0 from by omega, show n / 10 % 10 = n / 10 from by omega]; rfl
    · by_cases h3 : n < 1000
      · rw [dec3 (by omega) h3, show n / 1000 = 0 from by omega, show n / 100 % 10 = n / 100 from by omega]; rfl
      · rw [dec4 (by omega) h]; rfl
theorem itoa_nat1 {n : Nat} (h : n < 10) : Lib.itoa (n : Int) = [o n] := by rw [itoa_pos, dec1 h]
theorem three_pad {n : Nat} (h : n < 1000) : threeV (n : Int) = padL n 3 := by
  rw [pad3 h]
  unfold threeV
  rw [show (n : Int) / 100 = ((n / 100 : Nat) : Int) from by omega, show (n : Int) / 10 % 10 = ((n / 10 % 10 : Nat) : Int) from by omega, show (n : Int) % 10 = ((n % 10 : Nat) : Int) from by omega, itoa_nat1 (by omega), itoa_nat1 (by omega), itoa_nat1 (by omega)]
  rfl
/-- two and four digits as the model writes them -/
def twoV (n : Int) : List UInt8 := Lib.itoa (n / 10) ++ Lib.itoa (n % 10)
def fourV (n : Int) : List UInt8 := twoV (n / 100 % 100) ++ twoV (n % 100)
theorem two_is {n : Nat} (h : n < 100) : twoV (n : Int) = [o (n / 10), o (n % 10)] := by
  unfold twoV
  rw [show (n : Int) / 10 = ((n / 10 : Nat) : Int) from by omega, show (n : Int) % 10 = ((n % 10 : Nat) : Int) from by omega, itoa_nat1 (by omega), itoa_nat1 (by omega)]
  rfl
theorem two_pad {n : Nat} (h : n < 100) : twoV (n : Int) = padL n 2 := by rw [two_is h, pad2 h]
theorem four_pad {n : Nat} (h : n < 10000) : fourV (n : Int) = padL n 4 := by
  rw [pad4 h]
  unfold fourV
  rw [show (n : Int) / 100 % 100 = ((n / 100 : Nat) : Int) from by omega, show (n : Int) % 100 = ((n % 100 : Nat) : Int) from by omega, two_is (by omega), two_is (by omega), show n / 100 / 10 = n / 1000 from by omega, show n % 100 / 10 = n / 10 % 10 from by omega, show n % 100 % 10 = n % 10 from by omega]
  rfl
theorem year_pad {n : Nat} (h1 : 1000 ≤ n) (h : n < 10000) : Lib.itoa (n : Int) = padL n 4 := by
  rw [pad4 h, itoa_pos, dec4 h1 h]
theorem padL_len {n : Nat} {k : Nat} (h : (Lib.itoa (n : Int)).length ≤ k) : (padL n k).length = k := by
  simp only [padL, List.length_append, List.length_replicate]; omega
end Go.Proofs.YtlfbfgdejoggpacDoor
