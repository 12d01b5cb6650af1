/- Texts with digits, padded: the program's writePadded into a strings.Builder; the program's MagText and TimeText, the model's. -/
import Derived.Test.YtfnjndbnogeddaaGreatDoorD2
import Derived.Test.YtfnjndbnogeddaaGreatDoorD3
import Derived.Test.YtfnjndbnogeddaaGreatDoorBW
import Derived.Test.YtfnjndbnogeddaaGreatDoorT1
namespace Go.Proofs.YtfnjndbnogeddaaGreatDoor
open Go.ChangeShapes Go.WideShapes Go.ChangeAt Go.RowKit

theorem powB {B : Nat} {w w' : World} (h : Pow w) (hg : 6 < B) (hb : Below B w w') : Pow w' := by
  unfold Pow Lib.TabIs World.var? at h ⊢
  simp only [pow_global, Option.bind_some] at h ⊢
  rw [hb.block _ hg]
  exact h
theorem pow_lt {w : World} (h : Pow w) : 6 < w.heap.size := var_lt pow_global h
def padL (n : Int) (k : Nat) : List UInt8 := List.replicate (k - (Lib.itoa n).length) 48 ++ Lib.itoa n
set_option maxRecDepth 100000 in
theorem writePadded_any (B b : Nat) (l : List UInt8) (n : Int) (k : Nat) (w : World) (h : Bld B b l w) (hp : Pow w) (h1 : -9223372036854775808 ≤ n) (h2 : n ≤ 9223372036854775807) (hk : k ≤ 100) (hl : l.length ≤ 1000000) :
    Calls Tryz.prog 56 #[.pointer (some ⟨b, 0, none⟩), .int .i64 n, .int .i64 k] w fun e w' => e = .returned (.tuple #[]) ∧ Bld B b (l ++ padL n k) w' ∧ Below B w w' := by
  have hlen := itoa_len n h1 h2
  have hBb := h.le
  have hbw := h.lt
  obtain ⟨I, hI⟩ : ∃ I, I = Lib.itoa n := ⟨_, rfl⟩
  have hP : Hid (padL n k = List.replicate (k - I.length) 48 ++ I) := by rw [hI]; exact rfl
  rw [← hI] at hlen
  go_enter Tryz.func56, Tryz.ntmps56
  go_wp2_with fail
  refine (iDecimal_any n w h1 h2 hp).mono ?_
  rintro e w1 ⟨rfl, b1⟩
  have h' := h.below b1
  have bB : Below B w w1 := b1.mono (by omega)
  rw [← hI]
  clear hI
  go_wp2
  go_loopw [7] (fun i wr => ∃ j : Nat, I.length ≤ j ∧ j ≤ max I.length k ∧ i = .int .i64 j ∧ Bld B b (l ++ List.replicate (j - I.length) 48) wr ∧ Below B w wr) (fun i _ => k - (intOf i).toNat)
  case atStart => exact ⟨I.length, Nat.le_refl _, by omega, rfl, by simpa using h', bB⟩
  case round =>
    obtain ⟨j, hj1, hj2, rfl, hb, hB⟩ := hrel
    by_cases hlt : j < k
    · go_wp2_with fail
      refine (bwByte B b (l ++ List.replicate (j - I.length) 48) 48 48 wr rfl hb (by simp; omega)).mono ?_
      rintro e w2 ⟨rfl, hb2, bb2⟩
      go_wp2
      go_roundw
      case rel =>
        refine ⟨j + 1, by omega, by omega, by go_num, ?_, hB.trans bb2⟩
        rw [show j + 1 - I.length = (j - I.length) + 1 from by omega, List.replicate_succ', ← List.append_assoc]
        exact hb2
      case measure => simp [intOf]; omega
    · go_wp2_with fail
      refine (bwString B b (l ++ List.replicate (j - I.length) 48) I wr hb (by simp; omega)).mono ?_
      rintro e w2 ⟨rfl, hb2, bb2⟩
      go_wp2
      go_end0
      refine ⟨rfl, ?_, hB.trans bb2⟩
      rw [hP.out, show k - I.length = j - I.length from by omega, ← List.append_assoc]
      exact hb2
/-! ### Digits -/
def o (n : Nat) : UInt8 := UInt8.ofNat (48 + n)
theorem dec_ge (u : Nat) (h : 10 ≤ u) : Lib.decDigits u = Lib.decDigits (u / 10) ++ [o (u % 10)] := by
  rw [Lib.decDigits, dif_neg (by omega)]; rfl
theorem dec1 {n : Nat} (h : n < 10) : Lib.decDigits n = [o n] := Lib.decDigits_one h
theorem dec2 {n : Nat} (h1 : 10 ≤ n) (h : n < 100) : Lib.decDigits n = [o (n / 10), o (n % 10)] := by
  rw [dec_ge n h1, dec1 (by omega)]; rfl
theorem dec3 {n : Nat} (h1 : 100 ≤ n) (h : n < 1000) : Lib.decDigits n = [o (n / 100), o (n / 10 % 10), o (n % 10)] := by
  rw [dec_ge n (by omega), dec2 (by omega) (by omega), show n / 10 / 10 = n / 100 from by omega]; rfl
theorem dec4 {n : Nat} (h1 : 1000 ≤ n) (h : n < 10000) : Lib.decDigits n = [o (n / 1000), o (n / 100 % 10), o (n / 10 % 10), o (n % 10)] := by
  rw [dec_ge n (by omega), dec3 (by omega) (by omega), show n / 10 / 100 = n / 1000 from by omega, show n / 10 / 10 = n / 100 from by omega]; rfl
theorem o_zero : o 0 = 48 := rfl
theorem pad2 {n : Nat} (h : n < 100) : padL n 2 = [o (n / 10), o (n % 10)] := by
  rw [padL, itoa_pos]
  by_cases h1 : n < 10
  · rw [dec1 h1, show n / 10 = 0 from by omega, show n % 10 = n from by omega]; rfl
  · rw [dec2 (by omega) h]; rfl
theorem pad3 {n : Nat} (h : n < 1000) : padL n 3 = [o (n / 100), o (n / 10 % 10), o (n % 10)] := by
  rw [padL, itoa_pos]
  by_cases h1 : n < 10
  · rw [dec1 h1, show n / 100 = 0 from by omega, show n / 10 % 10 = 0 from by omega, show n % 10 = n from by omega]; rfl
  · by_cases h2 : n < 100
    · rw [dec2 (by omega) h2, show n / 100 = 0 from by omega, show n / 10 % 10 = n / 10 from by omega]; rfl
    · rw [dec3 (by omega) h]; rfl
theorem pad4 {n : Nat} (h : n < 10000) : padL n 4 = [o (n / 1000), o (n / 100 % 10), o (n / 10 % 10), o (n % 10)] := by
  rw [padL, itoa_pos]
  by_cases h1 : n < 10
  · rw [dec1 h1, show n / 1000 = 0 from by omega, show n / 100 % 10 = 0 from by omega, show n / 10 % 10 = 0 from by omega, show n % 10 = n from by omega]; rfl
  · by_cases h2 : n < 100
    · rw [dec2 (by omega) h2, show n / 1000 = 0 from by omega, show n / 100 % 10 = 0 from by omega, show n / 10 % 10 = n / 10 from by omega]; rfl
    · by_cases h3 : n < 1000
      · rw [dec3 (by omega) h3, show n / 1000 = 0 from by omega, show n / 100 % 10 = n / 100 from by omega]; rfl
      · rw [dec4 (by omega) h]; rfl
theorem itoa_nat1 {n : Nat} (h : n < 10) : Lib.itoa (n : Int) = [o n] := by rw [itoa_pos, dec1 h]
theorem three_pad {n : Nat} (h : n < 1000) : threeV (n : Int) = padL n 3 := by
  rw [pad3 h]
  unfold threeV
  rw [show (n : Int) / 100 = ((n / 100 : Nat) : Int) from by omega, show (n : Int) / 10 % 10 = ((n / 10 % 10 : Nat) : Int) from by omega, show (n : Int) % 10 = ((n % 10 : Nat) : Int) from by omega, itoa_nat1 (by omega), itoa_nat1 (by omega), itoa_nat1 (by omega)]
  rfl
/-- two and four digits as the model writes them -/
def twoV (n : Int) : List UInt8 := Lib.itoa (n / 10) ++ Lib.itoa (n % 10)
def fourV (n : Int) : List UInt8 := twoV (n / 100 % 100) ++ twoV (n % 100)
theorem two_is {n : Nat} (h : n < 100) : twoV (n : Int) = [o (n / 10), o (n % 10)] := by
  unfold twoV
  rw [show (n : Int) / 10 = ((n / 10 : Nat) : Int) from by omega, show (n : Int) % 10 = ((n % 10 : Nat) : Int) from by omega, itoa_nat1 (by omega), itoa_nat1 (by omega)]
  rfl
theorem two_pad {n : Nat} (h : n < 100) : twoV (n : Int) = padL n 2 := by rw [two_is h, pad2 h]
theorem four_pad {n : Nat} (h : n < 10000) : fourV (n : Int) = padL n 4 := by
  rw [pad4 h]
  unfold fourV
  rw [show (n : Int) / 100 % 100 = ((n / 100 : Nat) : Int) from by omega, show (n : Int) % 100 = ((n % 100 : Nat) : Int) from by omega, two_is (by omega), two_is (by omega), show n / 100 / 10 = n / 1000 from by omega, show n % 100 / 10 = n / 10 % 10 from by omega, show n % 100 % 10 = n % 10 from by omega]
  rfl
theorem year_pad {n : Nat} (h1 : 1000 ≤ n) (h : n < 10000) : Lib.itoa (n : Int) = padL n 4 := by
  rw [pad4 h, itoa_pos, dec4 h1 h]
theorem padL_len {n : Nat} {k : Nat} (h : (Lib.itoa (n : Int)).length ≤ k) : (padL n k).length = k := by
  simp only [padL, List.length_append, List.length_replicate]; omega
end Go.Proofs.YtfnjndbnogeddaaGreatDoor
