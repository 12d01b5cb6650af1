/- ReadTime: the model's; texts of times are read back. -/
import Derived.Test.YtfnjndbnogeddaaGreatDoorR2
import Derived.Test.YtfnjndbnogeddaaGreatDoorR3
import Derived.Test.YtfnjndbnogeddaaGreatDoorD5
namespace Go.Proofs.YtfnjndbnogeddaaGreatDoor
open Go.ChangeShapes Go.WideShapes Go.ChangeAt Go.RowKit

theorem dg46 {c : UInt8} (h : isDg c = true) : c ≠ 46 := by
  intro e; subst e; revert h; decide
theorem all46 {l : List UInt8} (h : l.all isDg = true) : ∀ x ∈ l, x ≠ 46 := fun x hx => dg46 (List.all_eq_true.1 h x hx)
theorem o_of {c : UInt8} (h : isDg c = true) : o (c.toNat - 48) = c := by
  simp [isDg] at h
  apply UInt8.toNat_inj.1
  rw [o_nat (by omega)]; omega
theorem itoa_dg (n : Nat) : (Lib.itoa (n : Int)).all isDg = true := by rw [itoa_pos]; exact dec_all n
theorem padL_dg (n k : Nat) : (padL (n : Int) k).all isDg = true := by
  rw [padL, List.all_append, itoa_dg]
  simp only [Bool.and_true, List.all_eq_true]
  intro x hx
  rw [List.eq_of_mem_replicate hx]; decide
theorem dval_pad4 {n : Nat} (h : n < 10000) : dval (padL (n : Int) 4) = n := by
  rw [pad4 h, show [o (n / 1000), o (n / 100 % 10), o (n / 10 % 10), o (n % 10)] = ((([o (n / 1000)] ++ [o (n / 100 % 10)]) ++ [o (n / 10 % 10)]) ++ [o (n % 10)]) from rfl, dval_snoc, dval_snoc, dval_snoc, dval_one, o_nat (by omega), o_nat (by omega), o_nat (by omega), o_nat (by omega)]
  omega
theorem pad4_len {n : Nat} (h : n < 10000) : (padL (n : Int) 4).length = 4 := by rw [pad4 h]; rfl
theorem pad4_of {l : List UInt8} (h : l.length = 4) (hd : l.all isDg = true) : padL (dval l : Int) 4 = l := by
  match l, h with
  | [a, b, c, d], _ =>
    simp only [List.all_cons, List.all_nil, Bool.and_true, Bool.and_eq_true] at hd
    obtain ⟨ha, hb, hc, hdd⟩ := hd
    have hv : dval [a, b, c, d] = (a.toNat - 48) * 1000 + (b.toNat - 48) * 100 + (c.toNat - 48) * 10 + (d.toNat - 48) := by
      rw [show [a, b, c, d] = ((([a] ++ [b]) ++ [c]) ++ [d]) from rfl, dval_snoc, dval_snoc, dval_snoc, dval_one]; omega
    have na : a.toNat - 48 < 10 := by simp [isDg] at ha; omega
    have nb : b.toNat - 48 < 10 := by simp [isDg] at hb; omega
    have nc : c.toNat - 48 < 10 := by simp [isDg] at hc; omega
    have nd : d.toNat - 48 < 10 := by simp [isDg] at hdd; omega
    rw [hv, pad4 (by omega)]
    rw [show ((a.toNat - 48) * 1000 + (b.toNat - 48) * 100 + (c.toNat - 48) * 10 + (d.toNat - 48)) / 1000 = a.toNat - 48 from by omega, show ((a.toNat - 48) * 1000 + (b.toNat - 48) * 100 + (c.toNat - 48) * 10 + (d.toNat - 48)) / 100 % 10 = b.toNat - 48 from by omega, show ((a.toNat - 48) * 1000 + (b.toNat - 48) * 100 + (c.toNat - 48) * 10 + (d.toNat - 48)) / 10 % 10 = c.toNat - 48 from by omega, show ((a.toNat - 48) * 1000 + (b.toNat - 48) * 100 + (c.toNat - 48) * 10 + (d.toNat - 48)) % 10 = d.toNat - 48 from by omega, o_of ha, o_of hb, o_of hc, o_of hdd]
/-- how a text is answered that is read as a time: the time and true, or 0 and false -/
def TimPost (l : List UInt8) (v : Value) : Prop :=
  (∃ t : Int, timB t = true ∧ timP t = l ∧ v = .tuple #[.int .i64 t, .bool true]) ∨ ((∀ t : Int, timB t = true → timP t ≠ l) ∧ v = .tuple #[.int .i64 0, .bool false])
theorem tim_split {t : Int} (h : timB t = true) : splitA 46 [] (timP t) = [Lib.itoa (t / 10000), padL (t % 10000) 4] := by
  obtain ⟨t1, t2⟩ := timB_iff.1 h
  obtain ⟨u, rfl⟩ := Int.eq_ofNat_of_zero_le t1
  rw [timP, show (u : Int) / 10000 = ((u / 10000 : Nat) : Int) from by omega, show (u : Int) % 10000 = ((u % 10000 : Nat) : Int) from by omega]
  rw [splitA_hit [] (all46 (itoa_dg _)), splitA_none [] (all46 (padL_dg _ _))]
  simp
theorem tim_inj {t u : Int} (h : timB t = true) (k : timB u = true) (he : timP t = timP u) : t = u := by
  have e := (tim_split h).symm.trans ((congrArg (splitA 46 []) he).trans (tim_split k))
  simp only [List.cons.injEq, and_true] at e
  obtain ⟨t1, t2⟩ := timB_iff.1 h
  obtain ⟨u1, u2⟩ := timB_iff.1 k
  have e1 := itoa_inj e.1
  obtain ⟨a, rfl⟩ := Int.eq_ofNat_of_zero_le t1
  obtain ⟨b, rfl⟩ := Int.eq_ofNat_of_zero_le u1
  have e2 := congrArg dval e.2
  rw [show (a : Int) % 10000 = ((a % 10000 : Nat) : Int) from by omega, show (b : Int) % 10000 = ((b % 10000 : Nat) : Int) from by omega, dval_pad4 (by omega), dval_pad4 (by omega)] at e2
  omega
theorem TimPost.same {l : List UInt8} {v v' : Value} (h : TimPost l v) (h' : TimPost l v') : v = v' := by
  rcases h with ⟨n, a1, a2, rfl⟩ | ⟨a1, rfl⟩ <;> rcases h' with ⟨m, b1, b2, rfl⟩ | ⟨b1, rfl⟩
  · rw [tim_inj a1 b1 (a2.trans b2.symm)]
  · exact absurd a2 (b1 n a1)
  · exact absurd b2 (a1 m b1)
  · rfl
theorem TimPost.form {l : List UInt8} {v : Value} (h : TimPost l v) : ∃ n b, v = .tuple #[.int .i64 n, .bool b] := by
  rcases h with ⟨n, _, _, rfl⟩ | ⟨_, rfl⟩ <;> exact ⟨_, _, rfl⟩
def noV : Value := .tuple #[.int .i64 0, .bool false]
/-- a text that is no text of a time by its parts -/
theorem tim_no {l : List UInt8} {ps : List (List UInt8)} (hs : ps = splitA 46 [] l) (h : ∀ t : Int, timB t = true → ps = [Lib.itoa (t / 10000), padL (t % 10000) 4] → False) : TimPost l noV := by
  refine .inr ⟨fun t ht he => h t ht ?_, rfl⟩
  rw [hs, ← he, tim_split ht]
theorem tim_yes {l p0 p1 : List UInt8} {d : Int} (hs : [p0, p1] = splitA 46 [] l) (hd : Lib.itoa d = p0) (h1 : p1.length = 4) (h2 : p1.all isDg = true) (ht : timB (d * 10000 + (dval p1 : Int)) = true) : TimPost l (.tuple #[.int .i64 (d * 10000 + (dval p1 : Int)), .bool true]) := by
  refine .inl ⟨_, ht, ?_, rfl⟩
  have hl := splitA_two hs.symm
  rw [List.nil_append] at hl
  have hb := dval_lt 4 p1 h1 h2
  have e3 : (10 : Nat) ^ 4 = 10000 := by decide
  have e1 : (d * 10000 + (dval p1 : Int)) / 10000 = d := by omega
  have e2 : (d * 10000 + (dval p1 : Int)) % 10000 = (dval p1 : Int) := by omega
  rw [timP, e1, e2, hd, pad4_of h1 h2, hl]
theorem tim_parts {t : Int} (ht : timB t = true) : 0 ≤ t / 10000 ∧ t / 10000 ≤ 1000 ∧ (padL (t % 10000) 4).length = 4 ∧ (padL (t % 10000) 4).all isDg = true ∧ t / 10000 * 10000 + (dval (padL (t % 10000) 4) : Int) = t := by
  obtain ⟨t1, t2⟩ := timB_iff.1 ht
  obtain ⟨u, rfl⟩ := Int.eq_ofNat_of_zero_le t1
  rw [show (u : Int) % 10000 = ((u % 10000 : Nat) : Int) from by omega, dval_pad4 (by omega), pad4_len (by omega)]
  exact ⟨by omega, by omega, rfl, padL_dg _ _, by omega⟩
end Go.Proofs.YtfnjndbnogeddaaGreatDoor
