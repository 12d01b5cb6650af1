/- ReadObserver, the model's. -/
import Derived.Test.YtlfbfgdejoggpacDoorRO2
namespace Go.Proofs.YtlfbfgdejoggpacDoor
open Go.ChangeShapes Go.WideShapes Go.ChangeAt Go.RowKit Go.Deep

theorem dec_32 (u : Nat) : ∀ b ∈ Lib.decDigits u, b ≠ 32 := fun b hb e => by
  have h := dec_all u
  rw [List.all_eq_true] at h
  have := h b hb
  rw [e] at this
  exact absurd this (by decide)
theorem itoa_32 (n : Int) : ∀ b ∈ Lib.itoa n, b ≠ 32 := by
  rcases itoa_cases n with ⟨_, h⟩ | ⟨_, h⟩
  · rw [h]; exact dec_32 _
  · rw [h]
    intro b hb
    rcases List.mem_cons.1 hb with rfl | hb
    · decide
    · exact dec_32 _ b hb
theorem sgP_32 (n : Int) : ∀ b ∈ sgP n, b ≠ 32 := by
  unfold sgP
  split
  · exact itoa_32 n
  · intro b hb
    rcases List.mem_cons.1 hb with rfl | hb
    · decide
    · exact itoa_32 n b hb
theorem sgP_form (n : Int) : (0 ≤ n ∧ sgP n = 43 :: Lib.itoa n) ∨ (n < 0 ∧ sgP n = Lib.itoa n ∧ sgP n = 45 :: Lib.decDigits n.natAbs) := by
  unfold sgP
  split
  · rename_i h
    rcases itoa_cases n with ⟨a, b⟩ | ⟨a, b⟩
    · omega
    · exact .inr ⟨h, rfl, b⟩
  · rename_i h
    exact .inl ⟨by omega, rfl⟩
theorem itoa_ne (n : Int) : 1 ≤ (Lib.itoa n).length := by
  rcases itoa_cases n with ⟨_, h⟩ | ⟨_, h⟩
  · rw [h]; have := dec_ne n.natAbs; cases hd : Lib.decDigits n.natAbs with
    | nil => exact absurd hd this
    | cons => simp
  · rw [h]; simp
theorem sgP_len (n : Int) : 2 ≤ (sgP n).length := by
  rcases sgP_form n with ⟨_, h⟩ | ⟨_, _, h⟩
  · rw [h]; have := itoa_ne n; simp; omega
  · rw [h]
    have := dec_ne n.natAbs
    cases hd : Lib.decDigits n.natAbs with
    | nil => exact absurd hd this
    | cons => simp
theorem ro_split {x : Ob} {l : List UInt8} (h : obB x = true) (hl : obP x = l) : splitA 32 [] l = [x.1.data.toList, sgP x.2] := by
  rw [← hl, obP_eq, splitA_hit [] (name_32 (ob_name h)), splitA_none [] (sgP_32 x.2)]
  rfl
theorem ro_no1 {l : List UInt8} (h : ∀ a b, splitA 32 [] l ≠ [a, b]) : RoPost l roNo := .inr ⟨fun _ hx hl => h _ _ (ro_split hx hl), rfl⟩
theorem ro_no2 {l a b : List UInt8} (hs : splitA 32 [] l = [a, b]) (h : ∀ n, sgP n ≠ b) : RoPost l roNo := .inr ⟨fun x hx hl => by
  have := ro_split hx hl
  rw [hs] at this
  exact h x.2 (List.cons.inj (List.cons.inj this).2).1.symm, rfl⟩
theorem ro_short {l a b : List UInt8} (hs : splitA 32 [] l = [a, b]) (h : b.length < 2) : RoPost l roNo := ro_no2 hs fun n e => by have := sgP_len n; rw [e] at this; omega
/-- the sign is told apart, the digits are T -/
def SgT (plus : Bool) (b T : List UInt8) : Prop := (plus = true ∧ b = 43 :: T) ∨ (plus = false ∧ b = T ∧ ∃ r, T = 45 :: r)
theorem sg_of {plus : Bool} {b T : List UInt8} {n : Int} (h : SgT plus b T) (hn : sgP n = b) : Lib.itoa n = T ∧ (plus = true ↔ 0 ≤ n) := by
  rcases h with ⟨rfl, rfl⟩ | ⟨rfl, rfl, r, hr⟩ <;> rcases sgP_form n with ⟨h0, h1⟩ | ⟨h0, h1, h2⟩
  · rw [h1] at hn; exact ⟨(List.cons.inj hn).2, by simp [h0]⟩
  · rw [h2] at hn; exact absurd (List.cons.inj hn).1 (by decide)
  · rw [h1, hr] at hn; exact absurd (List.cons.inj hn).1 (by decide)
  · exact ⟨h1.symm.trans hn, by simp; omega⟩
theorem sg_to {plus : Bool} {b T : List UInt8} {n : Int} (h : SgT plus b T) (hi : Lib.itoa n = T) (hp : plus = true → 0 ≤ n) : sgP n = b := by
  rcases h with ⟨rfl, rfl⟩ | ⟨rfl, rfl, r, hr⟩
  · rw [sgP, if_neg (by have := hp rfl; omega), hi]
  · rcases itoa_cases n with ⟨a, c⟩ | ⟨a, c⟩
    · rw [c] at hi
      obtain ⟨d, q, hd, hg⟩ := dec_head n.natAbs
      rw [hd, hr] at hi
      exact absurd (List.cons.inj hi).1 (dg_ne hg).1
    · rw [sgP, if_pos a, hi]
theorem ro_bad {l a b T : List UInt8} {plus : Bool} (hs : splitA 32 [] l = [a, b]) (hT : SgT plus b T) (h : ∀ n, -1000000000000000000 < n → n < 1000000000000000000 → Lib.itoa n ≠ T) : RoPost l roNo :=
  .inr ⟨fun x hx hl => by
    have e := ro_split hx hl
    rw [hs] at e
    have hb : sgP x.2 = b := (List.cons.inj (List.cons.inj e).2).1.symm
    obtain ⟨-, h3⟩ := ob_sz hx
    exact h x.2 (by omega) (by omega) (sg_of hT hb).1, rfl⟩
theorem ro_sign {l a b T : List UInt8} {plus : Bool} {n : Int} (hs : splitA 32 [] l = [a, b]) (hT : SgT plus b T) (hi : Lib.itoa n = T) (hp : plus = true) (hn : n < 0) : RoPost l roNo :=
  ro_no2 hs fun m e => by
    obtain ⟨h1, h2⟩ := sg_of hT e
    have := itoa_inj (h1.trans hi.symm)
    have := h2.1 hp
    omega
theorem ro_inv {l b T : List UInt8} {p0 : ByteArray} {plus : Bool} {n : Int} (hs : splitA 32 [] l = [p0.data.toList, b]) (hT : SgT plus b T) (hi : Lib.itoa n = T) (ho : obB (p0, n) = false) : RoPost l roNo :=
  .inr ⟨fun x hx hl => by
    have e := ro_split hx hl
    rw [hs] at e
    have hb : sgP x.2 = b := (List.cons.inj (List.cons.inj e).2).1.symm
    have h1 := itoa_inj ((sg_of hT hb).1.trans hi.symm)
    have h2 : p0 = x.1 := ba_ext (List.cons.inj e).1
    obtain ⟨y, u⟩ := x
    have h3 : n = u := h1.symm
    have h4 : p0 = y := h2
    rw [h3, h4, hx] at ho
    exact absurd ho (by decide), rfl⟩
theorem ro_ok {l b T : List UInt8} {p0 : ByteArray} {plus : Bool} {n : Int} (hs : splitA 32 [] l = [p0.data.toList, b]) (hT : SgT plus b T) (hi : Lib.itoa n = T) (hp : plus = true → 0 ≤ n) (ho : obB (p0, n) = true) : RoPost l (roOk (p0, n)) := by
  refine .inl ⟨_, ho, ?_, rfl⟩
  have := splitA_two hs
  simp only [List.nil_append] at this
  rw [this, obP_eq, sg_to hT hi hp]
theorem plus_tail (s : ByteArray) (h : 0 < s.size) (h0 : (((s[0]'h).toNat : Int) == 43) = true) : s.data.toList = 43 :: (s.extract 1 s.size).data.toList := by
  have hb := byte_at s 0 h
  have hc : s[0]'h = 43 := by
    have : (s[0]'h).toNat = 43 := by have := eq_of_beq h0; omega
    exact UInt8.toNat_inj.1 this
  rw [hc] at hb
  cases hd : s.data.toList with
  | nil => rw [hd] at hb; simp at hb
  | cons c r =>
    rw [hd] at hb
    simp at hb
    subst hb
    congr 1
    have : (s.extract 1 s.size).data.toList = s.data.toList.drop 1 := by
      simp [ByteArray.data_extract]
      rw [List.take_of_length_le]
      simp
    rw [this, hd]; rfl
theorem head_no {s : ByteArray} {h : 0 < s.size} (h1 : (((s[0]'h).toNat : Int) == 43) = false) (h2 : (((s[0]'h).toNat : Int) != 45) = true) : ∀ n, sgP n ≠ s.data.toList := by
  intro n e
  have hb := byte_at s 0 h
  rw [← e] at hb
  rcases sgP_form n with ⟨_, h3⟩ | ⟨_, _, h3⟩
  · rw [h3] at hb
    simp only [List.getElem?_cons_zero, Option.some.injEq] at hb
    rw [← hb] at h1
    exact absurd h1 (by decide)
  · rw [h3] at hb
    simp only [List.getElem?_cons_zero, Option.some.injEq] at hb
    rw [← hb] at h2
    exact absurd h2 (by decide)
end Go.Proofs.YtlfbfgdejoggpacDoor
