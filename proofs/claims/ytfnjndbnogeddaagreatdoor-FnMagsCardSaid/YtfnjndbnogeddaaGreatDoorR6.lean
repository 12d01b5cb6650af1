/- ReadTime: the program's (strings.Replace, strconv.ParseInt, then the text written again). -/
import Derived.Test.YtfnjndbnogeddaaGreatDoorR5
import Derived.ShapedOpen
import Derived.ChangeAgain
namespace Go.Proofs.YtfnjndbnogeddaaGreatDoor
open Go.ChangeShapes Go.WideShapes Go.ChangeAt Go.RowKit

theorem shapedBelow {P : Program} {w w' : World} (h : w.ShapedOpen P) (hb : Below w.heap.size w w') : w'.ShapedOpen P :=
  h.keptBut (hb.frame (fun _ => False)) (fun _ h => h.elim)
theorem indexByte_at {c : UInt8} {b : List UInt8} : ∀ {a : List UInt8}, (∀ x ∈ a, x ≠ c) → Lib.indexByte (a ++ c :: b) c = (a.length : Int)
  | [], _ => by simp [Lib.indexByte]
  | x :: r, h => by
    have hx : (x == c) = false := by simpa using h x (by simp)
    have i := indexByte_at (b := b) (a := r) (fun y hy => h y (by simp [hy]))
    rw [List.cons_append, Lib.indexByte, hx, i]
    have : ((r.length : Int) == -1) = false := by simp
    rw [this]
    simp
theorem rep_one {c : UInt8} {a b : List UInt8} (h : ∀ x ∈ a, x ≠ c) : Lib.replace (a ++ c :: b) [c] [] 1 = a ++ b := by
  have hi : Lib.index (a ++ c :: b) [c] = (a.length : Int) := by rw [Lib.index_one]; exact indexByte_at h
  have hn : Lib.replaceNum (a ++ c :: b) [c] 1 = 1 := by
    unfold Lib.replaceNum
    split
    · rename_i hh
      rcases hh with hh | hh
      · omega
      · have := Lib.count_hit (sub := [c]) (by simp) hi
        omega
    · rfl
  unfold Lib.replace
  rw [if_neg (by simp), hn, Lib.replaceK_hit _ _ _ _ _ hi, Lib.replaceK]
  simp
theorem replaceK_len (old : List UInt8) : ∀ (k : Nat) (s : List UInt8), (Lib.replaceK old [] k s).length ≤ s.length
  | 0, s => by simp [Lib.replaceK]
  | k + 1, s => by
    unfold Lib.replaceK
    split
    · exact Nat.le_refl _
    · have := replaceK_len old k (s.drop ((Lib.index s old).toNat + old.length))
      simp only [List.length_append, List.length_take, List.length_nil, List.length_drop] at this ⊢
      omega
theorem replace_len (s old : List UInt8) (n : Int) : (Lib.replace s old [] n).length ≤ s.length := by
  unfold Lib.replace
  split
  · exact Nat.le_refl _
  · exact replaceK_len _ _ _
theorem dval_app (a : List UInt8) : ∀ (k : Nat) (b : List UInt8), b.length = k → dval (a ++ b) = dval a * 10 ^ k + dval b
  | 0, b, h => by
    obtain rfl := List.eq_nil_of_length_eq_zero h
    have h0 : dval [] = 0 := by unfold dval; rw [List.foldl_nil]
    rw [List.append_nil, h0]; omega
  | k + 1, b, h => by
    have hne : b ≠ [] := by intro e; subst e; simp at h
    obtain ⟨r, c, rfl⟩ : ∃ r c, b = r ++ [c] := ⟨b.dropLast, b.getLast hne, (List.dropLast_concat_getLast hne).symm⟩
    simp only [List.length_append, List.length_singleton, Nat.add_right_cancel_iff] at h
    have i := dval_app a k r h
    rw [← List.append_assoc, dval_snoc, dval_snoc, i, Nat.pow_succ, Nat.add_mul, Nat.mul_assoc]; omega
theorem parseM_digits (M : Nat) (hM : M ≤ 18446744073709551615) : ∀ (k : Nat) (l : List UInt8), l.length = k → l.all isDg = true → dval l ≤ M → Lib.parseUintM M 0 l = .ok (dval l)
  | 0, l, h, _, _ => by
    obtain rfl := List.eq_nil_of_length_eq_zero h
    have h0 : dval [] = 0 := by unfold dval; rw [List.foldl_nil]
    rw [h0]; rfl
  | k + 1, l, h, ha, hv => by
    have hne : l ≠ [] := by intro e; subst e; simp at h
    obtain ⟨r, c, rfl⟩ : ∃ r c, l = r ++ [c] := ⟨l.dropLast, l.getLast hne, (List.dropLast_concat_getLast hne).symm⟩
    simp only [List.length_append, List.length_singleton, Nat.add_right_cancel_iff] at h
    simp only [List.all_append, List.all_cons, List.all_nil, Bool.and_true, Bool.and_eq_true] at ha
    rw [dval_snoc] at hv ⊢
    have hc : c.toNat - 48 < 10 := by have := ha.2; simp [isDg] at this; omega
    have i := parseM_digits M hM k r h ha.1 (by omega)
    rw [parseM_app M _ _ _ _ i, ← o_of ha.2, parseM_one hc (by omega) hM, o_nat hc]
    congr 1; omega
theorem parse_digits {l : List UInt8} (hne : l ≠ []) (hd : l.all isDg = true) (h18 : l.length ≤ 18) : Lib.parseIntB 64 l = .ok (dval l : Int) := by
  have hb := dval_lt18 h18 hd
  have hM : (2 : Nat) ^ 64 - 1 = 18446744073709551615 := by decide
  have hC : (2 : Nat) ^ (64 - 1) = 9223372036854775808 := by decide
  have hu : Lib.parseUintB 64 l = .ok (dval l) := by
    unfold Lib.parseUintB
    rw [if_neg hne, hM, parseM_digits _ (Nat.le_refl _) _ l rfl hd (by omega)]
  cases l with
  | nil => exact absurd rfl hne
  | cons c r =>
    have hc : isDg c = true := by simp at hd; exact hd.1
    rw [Lib.parseIntB_plain 64 c r (dg_ne hc).2.2 (dg_ne hc).2.1, hu, hC]
    show (if 9223372036854775808 ≤ dval (c :: r) then (Lib.NumEnd.range : Lib.NumEnd Int) else .ok (dval (c :: r) : Int)) = _
    rw [if_neg (by omega)]
/-- the text of a time without its point spells the time -/
theorem tim_parse {t : Int} (h : timB t = true) : Lib.parseIntB 64 (Lib.replace (timP t) [46] [] 1) = .ok t := by
  obtain ⟨t1, t2⟩ := timB_iff.1 h
  obtain ⟨u, rfl⟩ := Int.eq_ofNat_of_zero_le t1
  rw [timP, show (u : Int) / 10000 = ((u / 10000 : Nat) : Int) from by omega, show (u : Int) % 10000 = ((u % 10000 : Nat) : Int) from by omega, rep_one (all46 (itoa_dg _))]
  have hl := pad4_len (n := u % 10000) (by omega)
  have hl2 : (Lib.itoa ((u / 10000 : Nat) : Int)).length ≤ 4 := by rw [itoa_pos]; exact decDigits_len 3 _ (by omega)
  have hne : Lib.itoa ((u / 10000 : Nat) : Int) ++ padL ((u % 10000 : Nat) : Int) 4 ≠ [] := by
    intro e; have := congrArg List.length e; rw [List.length_append, hl] at this; simp at this
  rw [parse_digits hne (by rw [List.all_append, itoa_dg, padL_dg]; rfl) (by rw [List.length_append, hl]; omega), dval_app _ 4 _ hl, dval_pad4 (by omega), itoa_pos, dec_val]
  congr 1
  have : (10 : Nat) ^ 4 = 10000 := by decide
  rw [this]; omega
def timL (t : Int) : List UInt8 := if timB t then timP t else []
theorem timV_L (t : Int) : timV t = strV (timL t) := by unfold timV timL; split <;> rfl
theorem parse_nil : Lib.parseIntB 64 (Lib.replace [] [46] [] 1) = .«syntax» := by
  have e : Lib.replace [] [46] [] 1 = [] := by decide
  rw [e]; rfl
theorem timPost_no {l : List UInt8} (h : ∀ t, Lib.parseIntB 64 (Lib.replace l [46] [] 1) = .ok t → timL t ≠ l) : TimPost l noV := by
  refine .inr ⟨fun t ht he => ?_, rfl⟩
  have hp := tim_parse ht
  rw [he] at hp
  exact h t hp (by unfold timL; rw [if_pos ht]; exact he)
theorem timPost_yes {l : List UInt8} {t : Int} (hp : Lib.parseIntB 64 (Lib.replace l [46] [] 1) = .ok t) (h : timL t = l) : TimPost l (.tuple #[.int .i64 t, .bool true]) := by
  cases ht : timB t
  · unfold timL at h
    rw [ht] at h
    simp at h
    subst h
    rw [parse_nil] at hp
    cases hp
  · unfold timL at h
    rw [if_pos ht] at h
    exact .inl ⟨t, ht, h, rfl⟩
end Go.Proofs.YtfnjndbnogeddaaGreatDoor
