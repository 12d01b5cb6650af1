/- ReadMag: the model's walk; texts of magnitudes are read back. -/
import Derived.Test.YtfnjndbnogeddaaGreatDoorR6
namespace Go.Proofs.YtfnjndbnogeddaaGreatDoor
open Go.ChangeShapes Go.WideShapes Go.ChangeAt Go.RowKit

theorem dval_pad3 {n : Nat} (h : n < 1000) : dval (padL (n : Int) 3) = n := by
  rw [pad3 h, show [o (n / 100), o (n / 10 % 10), o (n % 10)] = (([o (n / 100)] ++ [o (n / 10 % 10)]) ++ [o (n % 10)]) from rfl, dval_snoc, dval_snoc, dval_one, o_nat (by omega), o_nat (by omega), o_nat (by omega)]
  omega
theorem pad3_len {n : Nat} (h : n < 1000) : (padL (n : Int) 3).length = 3 := by rw [pad3 h]; rfl
/-- how a text is answered that is read as a magnitude: the magnitude and true, or 0 and false -/
def MagPost (l : List UInt8) (v : Value) : Prop :=
  (∃ t : Int, magB t = true ∧ magP t = l ∧ v = .tuple #[.int .i64 t, .bool true]) ∨ ((∀ t : Int, magB t = true → magP t ≠ l) ∧ v = noV)
theorem magP_sgn (m : Int) : magP m = sgn (decide (m < 0)) (Lib.itoa ((m.natAbs / 1000 : Nat) : Int)) ++ 46 :: padL ((m.natAbs % 1000 : Nat) : Int) 3 := by
  unfold magP sgn
  by_cases h : m < 0
  · rw [if_pos h, if_pos (by simpa using h)]; simp
  · rw [if_neg h, if_neg (by simpa using h)]; simp
theorem sgn46 (b : Bool) (n : Nat) : ∀ x ∈ sgn b (Lib.itoa (n : Int)), x ≠ 46 := by
  intro x hx
  unfold sgn at hx
  split at hx
  · simp only [List.mem_cons] at hx
    rcases hx with rfl | hx
    · decide
    · exact all46 (itoa_dg n) x hx
  · exact all46 (itoa_dg n) x hx
theorem mag_split (m : Int) : splitA 46 [] (magP m) = [sgn (decide (m < 0)) (Lib.itoa ((m.natAbs / 1000 : Nat) : Int)), padL ((m.natAbs % 1000 : Nat) : Int) 3] := by
  rw [magP_sgn, splitA_hit [] (sgn46 _ _), splitA_none [] (all46 (padL_dg _ _))]
  simp
/-- what the parts of a magnitude's text are: the sign, the number before the point and the digits behind it -/
theorem mag_parts {m : Int} {b : Bool} {r p1 : List UInt8} (h0 : b = false → r.head? ≠ some 45) (h : [sgn b r, p1] = splitA 46 [] (magP m)) :
    b = decide (m < 0) ∧ r = Lib.itoa ((m.natAbs / 1000 : Nat) : Int) ∧ p1.length = 3 ∧ p1.all isDg = true ∧ dval p1 = m.natAbs % 1000 := by
  rw [mag_split] at h
  simp only [List.cons.injEq, and_true] at h
  obtain ⟨h1, h2⟩ := h
  subst h2
  refine ⟨?_, ?_, pad3_len (Nat.mod_lt _ (by omega)), padL_dg _ _, dval_pad3 (Nat.mod_lt _ (by omega))⟩
  · cases b <;> cases hd : decide (m < 0)
    · rfl
    · rw [hd] at h1; simp only [sgn, Bool.false_eq_true, if_false, if_true] at h1
      exfalso; exact h0 rfl (by rw [h1]; rfl)
    · rw [hd] at h1; simp only [sgn, Bool.false_eq_true, if_false, if_true] at h1
      exfalso; exact head_dg (itoa_dg (m.natAbs / 1000)) (by rw [← h1]; rfl)
    · rfl
  · cases b <;> cases hd : decide (m < 0)
    · rw [hd] at h1; simpa [sgn] using h1
    · rw [hd] at h1; simp only [sgn, Bool.false_eq_true, if_false, if_true] at h1
      exfalso; exact h0 rfl (by rw [h1]; rfl)
    · rw [hd] at h1; simp only [sgn, Bool.false_eq_true, if_false, if_true] at h1
      exfalso; exact head_dg (itoa_dg (m.natAbs / 1000)) (by rw [← h1]; rfl)
    · rw [hd] at h1; simpa [sgn] using h1
theorem MagPost.form {l : List UInt8} {v : Value} (h : MagPost l v) : ∃ n b, v = .tuple #[.int .i64 n, .bool b] := by
  rcases h with ⟨n, _, _, rfl⟩ | ⟨_, rfl⟩ <;> exact ⟨_, _, rfl⟩
theorem mag_inj {t u : Int} (he : magP t = magP u) : t = u := by
  have h0 : decide (t < 0) = false → (Lib.itoa ((t.natAbs / 1000 : Nat) : Int)).head? ≠ some 45 := fun _ => head_dg (itoa_dg _)
  obtain ⟨a1, a2, _, _, a3⟩ := mag_parts (m := u) h0 (by rw [← he, mag_split])
  obtain ⟨b1, b2, _, _, b3⟩ := mag_parts (m := t) h0 (by rw [mag_split])
  have h1 := itoa_inj a2
  rw [b3] at a3
  simp only [decide_eq_decide] at a1
  omega
theorem MagPost.same {l : List UInt8} {v v' : Value} (h : MagPost l v) (h' : MagPost l v') : v = v' := by
  rcases h with ⟨n, a1, a2, rfl⟩ | ⟨a1, rfl⟩ <;> rcases h' with ⟨m, b1, b2, rfl⟩ | ⟨b1, rfl⟩
  · rw [mag_inj (a2.trans b2.symm)]
  · exact absurd a2 (b1 n a1)
  · exact absurd b2 (a1 m b1)
  · rfl
theorem mag_no {l : List UInt8} {ps : List (List UInt8)} (hs : ps = splitA 46 [] l) (h : ∀ m : Int, magB m = true → ps = splitA 46 [] (magP m) → magP m = l → False) : MagPost l noV :=
  .inr ⟨fun m hm he => h m hm (by rw [hs, he]) he, rfl⟩
/-- a text with the parts 'sign and r' and p1 that is no magnitude's: by what must hold of a magnitude's -/
theorem mag_no2 {l p0 : List UInt8} {b : Bool} {r p1 : List UInt8} (h0 : b = false → r.head? ≠ some 45) (hp : p0 = sgn b r) (hs : [p0, p1] = splitA 46 [] l)
    (h : ∀ m : Int, magB m = true → magP m = l → b = decide (m < 0) → r = Lib.itoa ((m.natAbs / 1000 : Nat) : Int) → p1.length = 3 → p1.all isDg = true → dval p1 = m.natAbs % 1000 → False) : MagPost l noV := by
  refine mag_no hs (fun m hm hps he => ?_)
  rw [hp] at hps
  obtain ⟨q1, q2, q3, q4, q5⟩ := mag_parts h0 hps
  exact h m hm he q1 q2 q3 q4 q5
end Go.Proofs.YtfnjndbnogeddaaGreatDoor
