/- SplitWords: what strings.FieldsFunc gives at the blank is the parts between the blanks that are not empty. -/
import Derived.Test.YtfebellnmdfpiaaR3
import Derived.Lib.FieldsP
namespace Go.Proofs.Ytfebellnmdfpiaa
open Go.Lib (decodeN decodeL pieceU openPiece closeSpans spansFromP)

def notE (l : List UInt8) : Bool := !l.isEmpty
/-- the parts between blanks that are not empty; cur: what stands before l in the first part -/
def wordsA (cur l : List UInt8) : List (List UInt8) := (splitA 32 cur l).filter notE
def oneW (cur : List UInt8) : List (List UInt8) := if cur = [] then [] else [cur]
theorem wordsA_nil (cur : List UInt8) : wordsA cur [] = oneW cur := by cases cur <;> rfl
theorem wordsA_sp (cur r : List UInt8) : wordsA cur (32 :: r) = oneW cur ++ wordsA [] r := by
  have e : splitA 32 cur (32 :: r) = cur :: splitA 32 [] r := by rw [splitA]; simp
  unfold wordsA
  rw [e]
  cases cur <;> rfl
theorem wordsA_run : ∀ (q cur r : List UInt8), (∀ x ∈ q, x ≠ 32) → wordsA cur (q ++ r) = wordsA (cur ++ q) r
  | [], cur, r, _ => by simp
  | x :: q, cur, r, h => by
    have hx : x ≠ 32 := h x (by simp)
    have e : wordsA cur (x :: (q ++ r)) = wordsA (cur ++ [x]) (q ++ r) := by unfold wordsA; rw [splitA, if_neg hx]
    rw [List.cons_append, e, wordsA_run q (cur ++ [x]) r (fun y hy => h y (by simp [hy]))]
    simp
theorem runeCases (n b0 b1 b2 b3 : Nat) (D : Nat × Nat) (hD : decodeN n b0 b1 b2 b3 = D) : (b0 < 128 ∧ D.1 = b0 ∧ D.2 = 1) ∨ (128 ≤ b0 ∧ 128 ≤ D.1 ∧ (D.2 = 1 ∨ (D.2 = 2 ∧ 1 < n ∧ b1 / 64 = 2) ∨ (D.2 = 3 ∧ 2 < n ∧ b1 / 64 = 2 ∧ b2 / 64 = 2) ∨ (D.2 = 4 ∧ 3 < n ∧ b1 / 64 = 2 ∧ b2 / 64 = 2 ∧ b3 / 64 = 2))) := by
  unfold decodeN at hD
  repeat' split at hD
  all_goals
    subst hD
    first
      | (left; exact ⟨by omega, rfl, rfl⟩)
      | (right; exact ⟨by omega, by simp only; omega, .inl rfl⟩)
      | (right; exact ⟨by omega, by simp only; omega, .inr (.inl ⟨rfl, by omega, by omega⟩)⟩)
      | (right; exact ⟨by omega, by simp only; omega, .inr (.inr (.inl ⟨rfl, by omega, by omega, by omega⟩))⟩)
      | (right; exact ⟨by omega, by simp only; omega, .inr (.inr (.inr ⟨rfl, by omega, by omega, by omega, by omega⟩))⟩)
theorem cont_ne {y : UInt8} (h : y.toNat / 64 = 2) : y ≠ 32 := by intro e; subst e; exact absurd h (by decide)
theorem high_ne {y : UInt8} (h : 128 ≤ y.toNat) : y ≠ 32 := by intro e; subst e; exact absurd h (by decide)
/-- the rune at the front is the blank just where the byte is; else no byte of it is the blank -/
theorem dec_sp (b : UInt8) (t : List UInt8) : (((decodeL (b :: t)).1 == 32) = true → b = 32 ∧ (decodeL (b :: t)).2 = 1) ∧ (((decodeL (b :: t)).1 == 32) = false → ∀ x ∈ (b :: t).take (decodeL (b :: t)).2, x ≠ 32) := by
  have hq := runeCases (b :: t).length b.toNat (t.getD 0 0).toNat (t.getD 1 0).toNat (t.getD 2 0).toNat (decodeL (b :: t)) (Go.Lib.decodeL_N (b :: t)).symm
  generalize decodeL (b :: t) = D at hq ⊢
  rcases hq with ⟨h0, h1, h2⟩ | ⟨h0, h1, h⟩
  · refine ⟨fun h => ⟨UInt8.toNat_inj.1 ?_, h2⟩, fun h x hx => ?_⟩
    · have := eq_of_beq h
      rw [← h1, this]; rfl
    · rw [h2] at hx
      simp at hx
      subst hx
      intro e
      subst e
      rw [h1] at h
      exact absurd h (by decide)
  · refine ⟨fun h => ?_, fun _ x hx => ?_⟩
    · have := eq_of_beq h
      omega
    · rcases h with h | ⟨h, n1, g1⟩ | ⟨h, n1, g1, g2⟩ | ⟨h, n1, g1, g2, g3⟩
      · rw [h] at hx
        simp at hx
        subst hx
        exact high_ne h0
      · rw [h] at hx
        match t, n1 with
        | c :: t, _ =>
          simp at hx
          rcases hx with rfl | rfl
          · exact high_ne h0
          · exact cont_ne (by simpa using g1)
      · rw [h] at hx
        match t, n1 with
        | c :: d :: t, _ =>
          simp at hx
          rcases hx with rfl | rfl | rfl
          · exact high_ne h0
          · exact cont_ne (by simpa using g1)
          · exact cont_ne (by simpa using g2)
      · rw [h] at hx
        match t, n1 with
        | c :: d :: e :: t, _ =>
          simp at hx
          rcases hx with rfl | rfl | rfl | rfl
          · exact high_ne h0
          · exact cont_ne (by simpa using g1)
          · exact cont_ne (by simpa using g2)
          · exact cont_ne (by simpa using g3)
/-- THE PASS OVER THE RUNES, at the blank -/
theorem spans_sp (s : ByteArray) : ∀ (f pos : Nat) (st : Option Nat) (acc : List (Nat × Nat)), s.size ≤ pos + f → pos ≤ s.size → (∀ a, st = some a → a < pos) →
    acc.map (fun p => pieceU s.data.toList p.1 p.2) ++ wordsA (openPiece s.data.toList st pos) (s.data.toList.drop pos) = (closeSpans s (spansFromP (· == 32) s f pos st acc)).map (fun p => pieceU s.data.toList p.1 p.2)
  | 0, pos, st, acc, h, hp, hst => by
    obtain rfl : pos = s.size := by omega
    have hd : s.data.toList.drop s.size = [] := List.drop_eq_nil_of_le (by rw [← Go.Lib.size_eq]; exact Nat.le_refl _)
    rw [hd, wordsA_nil]
    cases st with
    | none => simp [spansFromP, closeSpans, openPiece, oneW]
    | some a =>
      have := Go.Lib.pieceU_ne s.data.toList a s.size (hst a rfl) (by rw [← Go.Lib.size_eq]; exact Nat.le_refl _)
      simp [spansFromP, closeSpans, openPiece, this, oneW]
  | f + 1, pos, st, acc, h, hp, hst => by
    by_cases hlt : pos < s.size
    · have hw := Go.Lib.width_pos s pos
      have hwn : pos + (Utf8.decode s pos).2 ≤ s.size := by
        have := Go.Lib.decodeN_le_n' (s.size - pos) (s.get! pos).toNat (s.get! (pos + 1)).toNat (s.get! (pos + 2)).toNat (s.get! (pos + 3)).toNat (by omega)
        rw [← Go.Lib.decode_at] at this
        omega
      have hD := Go.Lib.decodeL_drop s pos
      obtain ⟨hy, hn⟩ := dec_sp (s[pos]'hlt) (s.data.toList.drop (pos + 1))
      rw [← drop_cons s pos hlt, hD] at hy hn
      simp only [spansFromP, if_pos hlt]
      by_cases hsp : ((Utf8.decode s pos).1 == 32) = true
      · obtain ⟨hb, hw1⟩ := hy hsp
        rw [if_pos hsp, drop_cons s pos hlt, hb, wordsA_sp]
        rw [hw1] at hwn ⊢
        cases st with
        | none =>
          have ih := spans_sp s f (pos + 1) none acc (by omega) hwn (fun a h => by cases h)
          simpa [openPiece, oneW] using ih
        | some a =>
          have hpn := Go.Lib.pieceU_ne s.data.toList a pos (hst a rfl) (by rw [← Go.Lib.size_eq]; omega)
          have ih := spans_sp s f (pos + 1) none (acc ++ [(a, pos)]) (by omega) hwn (fun a h => by cases h)
          simpa [openPiece, hpn, oneW] using ih
      · have hno := hn (by simpa using hsp)
        rw [if_neg hsp]
        have hcut : s.data.toList.drop pos = (s.data.toList.drop pos).take (Utf8.decode s pos).2 ++ s.data.toList.drop (pos + (Utf8.decode s pos).2) := by
          rw [← List.drop_drop]; exact (List.take_append_drop _ _).symm
        rw [hcut, wordsA_run _ _ _ hno]
        cases st with
        | none =>
          have ih := spans_sp s f (pos + (Utf8.decode s pos).2) (some pos) acc (by omega) hwn (fun a h => by cases h; omega)
          have e : ([] : List UInt8) ++ (s.data.toList.drop pos).take (Utf8.decode s pos).2 = pieceU s.data.toList pos (pos + (Utf8.decode s pos).2) := by
            unfold pieceU
            rw [List.nil_append, Nat.add_sub_cancel_left]
          simp only [openPiece] at ih ⊢
          rw [e]
          exact ih
        | some a =>
          have ih := spans_sp s f (pos + (Utf8.decode s pos).2) (some a) acc (by omega) hwn (fun b h => by cases h; have := hst a rfl; omega)
          simp only [openPiece] at ih ⊢
          rw [Go.Lib.pieceU_grow _ _ _ _ (Nat.le_of_lt (hst a rfl))]
          exact ih
    · obtain rfl : pos = s.size := by omega
      have hd : s.data.toList.drop s.size = [] := List.drop_eq_nil_of_le (by rw [← Go.Lib.size_eq]; exact Nat.le_refl _)
      rw [hd, wordsA_nil, Go.Lib.spansFromP_end _ s _ _ _ _ hlt]
      cases st with
      | none => simp [closeSpans, openPiece, oneW]
      | some a =>
        have := Go.Lib.pieceU_ne s.data.toList a s.size (hst a rfl) (by rw [← Go.Lib.size_eq]; exact Nat.le_refl _)
        simp [closeSpans, openPiece, this, oneW]
/-- strings.FieldsFunc at the blank gives the parts between blanks that are not empty -/
theorem goFields_words (s : ByteArray) : (Go.Lib.goFieldsP (· == 32) s).map (fun p => p.data.toList) = wordsA [] s.data.toList := by
  have h := spans_sp s s.size 0 none [] (by omega) (Nat.zero_le _) (fun a h => by cases h)
  simp only [List.map_nil, List.nil_append, openPiece, List.drop_zero] at h
  rw [h]
  unfold Go.Lib.goFieldsP Go.Lib.spansOfP
  rw [List.map_map]
  congr 1
  funext p
  simp [pieceU]
end Go.Proofs.Ytfebellnmdfpiaa
