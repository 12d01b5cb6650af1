/- The model's decimal form (l01Dec) over one seat's translation. -/
import Derived.Test.YtfnjndbnogeddaaGreatDoorB3
import Derived.WalkLawsBesides
import Derived.Laws.Rows
import Derived.Laws.BytesString
import Derived.Laws.IdiomStrings
import Derived.Lib.ItoaNum
namespace Go.Proofs.YtfnjndbnogeddaaGreatDoor
open Go.ChangeShapes Go.WideShapes Go.ChangeAt Go.RowKit

/-! ### Digits -/
def digs (u : Nat) : List UInt8 := if u = 0 then [] else Lib.decDigits u
theorem digs_step (u : Nat) (h : u ≠ 0) : digs u = digs (u / 10) ++ [UInt8.ofNat (48 + u % 10)] := by
  rw [digs, if_neg h]
  by_cases h10 : u < 10
  · rw [Lib.decDigits_one h10, digs, if_pos (by omega), show u % 10 = u from by omega]; rfl
  · rw [Lib.decDigits, dif_neg h10, digs, if_neg (by omega)]
def bytesV (l : List UInt8) : List Value := l.map fun b => Value.int .u8 (b.toNat : Int)
theorem dig_val (j : Nat) : ((UInt8.ofNat (48 + j % 10)).toNat : Int) = 48 + (j : Int) % 10 := by
  have h : (UInt8.ofNat (48 + j % 10)).toNat = 48 + j % 10 := by
    rw [UInt8.toNat_ofNat']; omega
  rw [h]; omega
theorem bytesV_cons (j : Nat) (l : List UInt8) : Value.int .u8 (48 + (j : Int) % 10) :: bytesV l = bytesV (UInt8.ofNat (48 + j % 10) :: l) := by
  simp only [bytesV, List.map_cons, dig_val]
theorem len_bound {j u len : Nat} (hj : j ≠ 0) (h : j * 10 ^ len ≤ u) (hu : u ≤ 9223372036854775808) : len ≤ 19 := by
  by_cases hl : len ≤ 19
  · exact hl
  · exfalso
    have h1 : 10 ^ 20 ≤ 10 ^ len := Nat.pow_le_pow_right (by omega) (by omega)
    have h2 : 1 * 10 ^ len ≤ j * 10 ^ len := Nat.mul_le_mul_right _ (by omega)
    omega
theorem own_bytes {w : World} {base e g c : Nat} {l : List UInt8} (h : w.ownsRow base e 1 (.slice (some ⟨g, 0, none⟩) l.length c) l.length (bytesV l)) :
    ∀ j (hj : j < l.length), w.cell? ((⟨g, 0, none⟩ : Addr).add j) = some (.int .u8 (l[j].toNat : Int)) := by
  intro j hj
  rw [Go.WideShapes.add_plain, Nat.zero_add, h.cellAt j (by omega)]
  simp [bytesV, hj]
theorem itoa_pos (u : Nat) : Lib.itoa (u : Int) = Lib.decDigits u := by
  unfold Lib.itoa; rw [if_neg (by omega)]; rfl
theorem itoa_neg' (u : Nat) (h : 1 ≤ u) : Lib.itoa (-(u : Int)) = 45 :: Lib.decDigits u := by
  unfold Lib.itoa; rw [if_pos (by omega)]; congr 1; congr 1; omega
theorem digs_zero {u : Nat} {l : List UInt8} (h : digs u = digs 0 ++ l) : (l = [] ∧ u = 0) ∨ (l.length ≠ 0 ∧ u ≠ 0 ∧ l = Lib.decDigits u) := by
  rw [show digs 0 = [] from rfl, List.nil_append] at h
  by_cases hu : u = 0
  · subst hu; exact .inl ⟨h.symm, rfl⟩
  · have h2 := digs_step u hu
    rw [digs, if_neg hu] at h
    refine .inr ⟨?_, hu, h.symm⟩
    rw [← h]
    rw [digs, if_neg hu] at h2
    rw [h2]; simp
theorem U_info : (Tryz.prog.info? 5).map (fun i => (i.zero, i.size, i.bytes)) = some (some (.int .u8 0), 1, 1) := by kernel_rfl

end Go.Proofs.YtfnjndbnogeddaaGreatDoor
