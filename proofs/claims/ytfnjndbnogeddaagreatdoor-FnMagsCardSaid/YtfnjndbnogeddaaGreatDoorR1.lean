/- Numbers and their decimal forms in plain lists of bytes: values of digits, parsing what was written, one text for one number. -/
import Derived.Test.YtfnjndbnogeddaaGreatDoorD4
import Derived.Lib.ParseIntBTie
namespace Go.Proofs.YtfnjndbnogeddaaGreatDoor

def isDg (c : UInt8) : Bool := decide (48 ≤ c.toNat) && decide (c.toNat ≤ 57)
/-- what digits spell -/
def dstep (a : Nat) (c : UInt8) : Nat := a * 10 + (c.toNat - 48)
def dval (l : List UInt8) : Nat := l.foldl dstep 0
theorem dval_snoc (l : List UInt8) (c : UInt8) : dval (l ++ [c]) = dval l * 10 + (c.toNat - 48) := by
  unfold dval; rw [List.foldl_append, List.foldl_cons, List.foldl_nil, dstep]
theorem dval_one (c : UInt8) : dval [c] = c.toNat - 48 := by
  have h := dval_snoc [] c
  have h0 : dval [] = 0 := by unfold dval; rw [List.foldl_nil]
  rw [List.nil_append, h0] at h
  omega
theorem o_nat {k : Nat} (h : k < 10) : (o k).toNat = 48 + k := by
  unfold o; rw [UInt8.toNat_ofNat']; omega
theorem o_dg {k : Nat} (h : k < 10) : isDg (o k) = true := by simp [isDg, o_nat h]; omega
theorem dec_dig : ∀ (k u : Nat), u < 10 ^ (k + 1) → (Lib.decDigits u).all isDg = true ∧ dval (Lib.decDigits u) = u
  | 0, u, h => by
    have h10 : u < 10 := by simpa using h
    rw [dec1 h10]
    refine ⟨by simp [o_dg h10], ?_⟩
    rw [dval_one, o_nat h10]; omega
  | k + 1, u, h => by
    by_cases h10 : u < 10
    · exact dec_dig 0 u (by simpa using h10)
    · have hp : u / 10 < 10 ^ (k + 1) := by rw [Nat.pow_succ] at h; omega
      obtain ⟨i1, i2⟩ := dec_dig k (u / 10) hp
      rw [dec_ge u (by omega)]
      refine ⟨by rw [List.all_append, i1]; simp [o_dg (show u % 10 < 10 by omega)], ?_⟩
      rw [dval_snoc, i2, o_nat (by omega)]; omega
theorem lt_pow_self (u : Nat) : u < 10 ^ (u + 1) := by
  induction u with
  | zero => decide
  | succ u ih => rw [Nat.pow_succ]; omega
theorem dec_all (u : Nat) : (Lib.decDigits u).all isDg = true := (dec_dig u u (lt_pow_self u)).1
theorem dec_val (u : Nat) : dval (Lib.decDigits u) = u := (dec_dig u u (lt_pow_self u)).2
theorem dec_ne (u : Nat) : Lib.decDigits u ≠ [] := by
  by_cases h : u < 10
  · rw [dec1 h]; simp
  · rw [dec_ge u (by omega)]; simp
theorem dec_inj {u v : Nat} (h : Lib.decDigits u = Lib.decDigits v) : u = v := by rw [← dec_val u, h, dec_val]
theorem dec_head (u : Nat) : ∃ c r, Lib.decDigits u = c :: r ∧ isDg c = true := by
  cases hd : Lib.decDigits u with
  | nil => exact absurd hd (dec_ne u)
  | cons c r => exact ⟨c, r, rfl, by have := dec_all u; rw [hd] at this; simp at this; exact this.1⟩
theorem itoa_cases (n : Int) : (0 ≤ n ∧ Lib.itoa n = Lib.decDigits n.natAbs) ∨ (n < 0 ∧ Lib.itoa n = 45 :: Lib.decDigits n.natAbs) := by
  by_cases h : n < 0
  · obtain ⟨u, rfl⟩ : ∃ u : Nat, n = -(u : Int) := ⟨n.natAbs, by omega⟩
    exact .inr ⟨h, by rw [itoa_neg' u (by omega), Int.natAbs_neg, Int.natAbs_natCast]⟩
  · obtain ⟨u, rfl⟩ : ∃ u : Nat, n = (u : Int) := ⟨n.natAbs, by omega⟩
    exact .inl ⟨by omega, by rw [itoa_pos, Int.natAbs_natCast]⟩
theorem dg_ne {c : UInt8} (h : isDg c = true) : c ≠ 45 ∧ c.toNat ≠ 45 ∧ c.toNat ≠ 43 := by
  simp [isDg] at h
  refine ⟨fun e => ?_, by omega, by omega⟩
  subst e
  have : (45 : UInt8).toNat = 45 := rfl
  omega
theorem itoa_inj {n m : Int} (h : Lib.itoa n = Lib.itoa m) : n = m := by
  rcases itoa_cases n with ⟨a1, a2⟩ | ⟨a1, a2⟩ <;> rcases itoa_cases m with ⟨b1, b2⟩ | ⟨b1, b2⟩
  · have := dec_inj (a2.symm.trans (h.trans b2)); omega
  · obtain ⟨c, r, hc, hd⟩ := dec_head n.natAbs
    rw [a2, b2, hc] at h
    injection h with h1 _
    exact absurd h1 (dg_ne hd).1
  · obtain ⟨c, r, hc, hd⟩ := dec_head m.natAbs
    rw [a2, b2, hc] at h
    injection h with h1 _
    exact absurd h1.symm (dg_ne hd).1
  · have e := a2.symm.trans (h.trans b2)
    injection e with _ e2
    have := dec_inj e2; omega
theorem parseM_app (M : Nat) : ∀ (l r : List UInt8) (acc v : Nat), Lib.parseUintM M acc l = .ok v → Lib.parseUintM M acc (l ++ r) = Lib.parseUintM M v r
  | [], r, acc, v, h => by
    simp only [Lib.parseUintM] at h
    injection h with h
    subst h; rfl
  | c :: l, r, acc, v, h => by
    simp only [List.cons_append, Lib.parseUintM] at h ⊢
    split at h
    · rename_i hd
      rw [if_pos hd]
      split at h
      · cases h
      · rename_i h2
        rw [if_neg h2]
        split at h
        · cases h
        · rename_i h3
          rw [if_neg h3]
          exact parseM_app M l r _ v h
    · cases h
theorem parseM_one {M acc k : Nat} (hk : k < 10) (h : acc * 10 + k ≤ M) (hM : M ≤ 18446744073709551615) : Lib.parseUintM M acc [o k] = .ok (acc * 10 + k) := by
  have e := o_nat hk
  simp only [Lib.parseUintM, e]
  rw [if_pos (by omega), if_neg (by omega), if_neg (by omega)]
  congr 1; omega
theorem parseM_dec (M : Nat) (hM : M ≤ 18446744073709551615) : ∀ (k u : Nat), u < 10 ^ (k + 1) → u ≤ M → Lib.parseUintM M 0 (Lib.decDigits u) = .ok u
  | 0, u, h, hu => by
    have h10 : u < 10 := by simpa using h
    rw [dec1 h10, parseM_one h10 (by omega) hM]; simp
  | k + 1, u, h, hu => by
    by_cases h10 : u < 10
    · exact parseM_dec M hM 0 u (by simpa using h10) hu
    · have hp : u / 10 < 10 ^ (k + 1) := by rw [Nat.pow_succ] at h; omega
      have i := parseM_dec M hM k (u / 10) hp (by omega)
      rw [dec_ge u (by omega), parseM_app M _ _ _ _ i, parseM_one (by omega) (by omega) hM]
      congr 1; omega
/-- what strconv.FormatInt writes strconv.ParseInt reads -/
theorem parse_itoa (n : Int) (h1 : -9223372036854775808 ≤ n) (h2 : n ≤ 9223372036854775807) : Lib.parseIntB 64 (Lib.itoa n) = .ok n := by
  have hM : (2 : Nat) ^ 64 - 1 = 18446744073709551615 := by decide
  have hC : (2 : Nat) ^ (64 - 1) = 9223372036854775808 := by decide
  have hp := parseM_dec 18446744073709551615 (Nat.le_refl _) n.natAbs n.natAbs (lt_pow_self _) (by omega)
  have hu : Lib.parseUintB 64 (Lib.decDigits n.natAbs) = .ok n.natAbs := by
    unfold Lib.parseUintB
    rw [if_neg (dec_ne _), hM, hp]
  rcases itoa_cases n with ⟨a1, a2⟩ | ⟨a1, a2⟩
  · obtain ⟨c, r, hc, hd⟩ := dec_head n.natAbs
    rw [a2]
    rw [hc] at hu ⊢
    rw [Lib.parseIntB_plain 64 c r (dg_ne hd).2.2 (dg_ne hd).2.1, hu, hC]
    show (if 9223372036854775808 ≤ n.natAbs then (Lib.NumEnd.range : Lib.NumEnd Int) else .ok (n.natAbs : Int)) = .ok n
    rw [if_neg (by omega)]
    congr 1; omega
  · rw [a2, Lib.parseIntB_minus, hu, hC]
    show (if 9223372036854775808 < n.natAbs then (Lib.NumEnd.range : Lib.NumEnd Int) else .ok (-(n.natAbs : Int))) = .ok n
    rw [if_neg (by omega)]
    congr 1; omega
theorem parse_bounds {l : List UInt8} {v : Int} (h : Lib.parseIntB 64 l = .ok v) : -9223372036854775808 ≤ v ∧ v ≤ 9223372036854775807 := by
  have hb := Lib.parseIntB_bounds h
  have hC : (2 : Nat) ^ (64 - 1) = 9223372036854775808 := by decide
  rw [hC] at hb
  omega
/-- how a text that is read as a number of at most 18 digits is answered: the number and true, or 0 and false -/
def NumPost (l : List UInt8) (v : Value) : Prop :=
  (∃ n : Int, -1000000000000000000 < n ∧ n < 1000000000000000000 ∧ Lib.itoa n = l ∧ v = .tuple #[.int .i64 n, .bool true]) ∨
  ((∀ n : Int, -1000000000000000000 < n → n < 1000000000000000000 → Lib.itoa n ≠ l) ∧ v = .tuple #[.int .i64 0, .bool false])
theorem NumPost.same {l : List UInt8} {v v' : Value} (h : NumPost l v) (h' : NumPost l v') : v = v' := by
  rcases h with ⟨n, a1, a2, a3, rfl⟩ | ⟨a1, rfl⟩ <;> rcases h' with ⟨m, b1, b2, b3, rfl⟩ | ⟨b1, rfl⟩
  · rw [itoa_inj (a3.trans b3.symm)]
  · exact absurd a3 (b1 n a1 a2)
  · exact absurd b3 (a1 m b1 b2)
  · rfl
theorem NumPost.form {l : List UInt8} {v : Value} (h : NumPost l v) : ∃ n b, v = .tuple #[.int .i64 n, .bool b] := by
  rcases h with ⟨n, _, _, _, rfl⟩ | ⟨_, rfl⟩ <;> exact ⟨_, _, rfl⟩
theorem numPost_parse {l : List UInt8} (h : ∀ v, Lib.parseIntB 64 l = .ok v → ¬ (-1000000000000000000 < v ∧ v < 1000000000000000000 ∧ Lib.itoa v = l)) : NumPost l (.tuple #[.int .i64 0, .bool false]) := by
  refine .inr ⟨fun n h1 h2 h3 => ?_, rfl⟩
  have := parse_itoa n (by omega) (by omega)
  rw [h3] at this
  exact h n this ⟨h1, h2, h3⟩
theorem dec_len18 {u : Nat} (h : u < 1000000000000000000) : 1 ≤ (Lib.decDigits u).length ∧ (Lib.decDigits u).length ≤ 18 := by
  refine ⟨?_, decDigits_len 17 u (by simpa using h)⟩
  have := dec_ne u
  cases hd : Lib.decDigits u with
  | nil => exact absurd hd this
  | cons c r => simp
theorem dval_lt : ∀ (k : Nat) (l : List UInt8), l.length = k → l.all isDg = true → dval l < 10 ^ k
  | 0, l, h, _ => by
    obtain rfl := List.eq_nil_of_length_eq_zero h
    have h0 : dval [] = 0 := by unfold dval; rw [List.foldl_nil]
    rw [h0]; decide
  | k + 1, l, h, ha => by
    have hne : l ≠ [] := by intro e; subst e; simp at h
    obtain ⟨r, c, rfl⟩ : ∃ r c, l = r ++ [c] := ⟨l.dropLast, l.getLast hne, (List.dropLast_concat_getLast hne).symm⟩
    simp only [List.length_append, List.length_singleton, Nat.add_right_cancel_iff] at h
    rw [List.all_append, Bool.and_eq_true] at ha
    have i := dval_lt k r h ha.1
    have hc : c.toNat - 48 ≤ 9 := by have := ha.2; simp [isDg] at this; omega
    rw [dval_snoc, Nat.pow_succ]; omega
theorem dval_lt18 {l : List UInt8} (h : l.length ≤ 18) (ha : l.all isDg = true) : dval l < 1000000000000000000 := by
  have h1 := dval_lt l.length l rfl ha
  have h2 : 10 ^ l.length ≤ 10 ^ 18 := Nat.pow_le_pow_right (by omega) h
  have h3 : (10 : Nat) ^ 18 = 1000000000000000000 := by decide
  omega
/-- a text of digits behind a sign or none, and the number that it spells -/
def sgn (m : Bool) (r : List UInt8) : List UInt8 := if m then 45 :: r else r
def numV (m : Bool) (r : List UInt8) : Int := if m then -(dval r : Int) else (dval r : Int)
theorem sgn_cases {m : Bool} {r : List UInt8} {n : Int} (hm : m = false → r.head? ≠ some 45) (h : Lib.itoa n = sgn m r) : r = Lib.decDigits n.natAbs ∧ (m = true ↔ n < 0) := by
  rcases itoa_cases n with ⟨a1, a2⟩ | ⟨a1, a2⟩
  · cases m
    · simp only [sgn, Bool.false_eq_true, if_false] at h
      exact ⟨h.symm.trans a2, by simp; omega⟩
    · obtain ⟨c, t, hc, hd⟩ := dec_head n.natAbs
      simp only [sgn, if_true, a2, hc] at h
      injection h with h1 _
      exact absurd h1 (dg_ne hd).1
  · cases m
    · simp only [sgn, Bool.false_eq_true, if_false] at h
      exfalso
      have := hm rfl
      rw [← h, a2] at this
      exact this rfl
    · simp only [sgn, if_true, a2] at h
      injection h with _ h2
      exact ⟨h2.symm, by simp; omega⟩
theorem num_no {m : Bool} {r : List UInt8} (hm : m = false → r.head? ≠ some 45) (h : ¬ (1 ≤ r.length ∧ r.length ≤ 18 ∧ r.all isDg = true)) : NumPost (sgn m r) (.tuple #[.int .i64 0, .bool false]) := by
  refine .inr ⟨fun n h1 h2 he => ?_, rfl⟩
  obtain ⟨hr, _⟩ := sgn_cases hm he
  have hl := dec_len18 (u := n.natAbs) (by omega)
  rw [← hr] at hl
  exact h ⟨hl.1, hl.2, by rw [hr]; exact dec_all _⟩
theorem head_dg {r : List UInt8} (h : r.all isDg = true) : r.head? ≠ some 45 := by
  cases r with
  | nil => simp
  | cons c t =>
    simp only [List.all_cons, Bool.and_eq_true] at h
    simp only [List.head?_cons, ne_eq, Option.some.injEq]
    exact (dg_ne h.1).1
theorem num_eq {m : Bool} {r : List UInt8} {n : Int} (hd : r.all isDg = true) (h : Lib.itoa n = sgn m r) : n = numV m r := by
  obtain ⟨hr, hs⟩ := sgn_cases (fun _ => head_dg hd) h
  have hv := dec_val n.natAbs
  rw [← hr] at hv
  unfold numV
  cases m
  · simp at hs ⊢; omega
  · simp at hs ⊢; omega
theorem num_end {m : Bool} {r : List UInt8} (h18 : r.length ≤ 18) (hd : r.all isDg = true) :
    (Lib.itoa (numV m r) = sgn m r → NumPost (sgn m r) (.tuple #[.int .i64 (numV m r), .bool true])) ∧ (Lib.itoa (numV m r) ≠ sgn m r → NumPost (sgn m r) (.tuple #[.int .i64 0, .bool false])) := by
  have hb := dval_lt18 h18 hd
  refine ⟨fun h => .inl ⟨_, ?_, ?_, h, rfl⟩, fun h => .inr ⟨fun n _ _ he => ?_, rfl⟩⟩
  · unfold numV; split <;> omega
  · unfold numV; split <;> omega
  · rw [num_eq hd he] at he; exact h he
theorem numV_bd {m : Bool} {r : List UInt8} (h18 : r.length ≤ 18) (hd : r.all isDg = true) : -1000000000000000000 < numV m r ∧ numV m r < 1000000000000000000 := by
  have hb := dval_lt18 h18 hd
  unfold numV; split <;> omega
end Go.Proofs.YtfnjndbnogeddaaGreatDoor
