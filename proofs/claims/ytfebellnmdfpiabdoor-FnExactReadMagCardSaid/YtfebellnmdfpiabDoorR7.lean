/- ReadMag: the model's walk; texts of magnitudes are read back. -/
import Derived.Test.YtfebellnmdfpiabDoorR6
namespace Go.Proofs.YtfebellnmdfpiabDoor
open Go.ChangeShapes Go.WideShapes Go.ChangeAt Go.RowKit

theorem dval_pad3 {n : Nat} (h : n < 1000) : dval (padL (n : Int) 3) = n := by
  rw [pad3 h, show [o (n / 100), o (n / 10 % 10), o (n % 10)] = (([o (n / 100)] ++ [o (n / 10 % 10)]) ++ [o (n % 10)]) from rfl, dval_snoc, dval_snoc, dval_one, o_nat (by omega), o_nat (by omega), o_nat (by omega)]
  omega
theorem pad3_len {n : Nat} (h : n < 1000) : (padL (n : Int) 3).length = 3 := by rw [pad3 h]; rfl
/-- how a text is answered that is read as a magnitude: the magnitude and true, or 0 and false -/
def MagPost (l : List UInt8) (v : Value) : Prop :=
  (∃ t : Int, magB t = true ∧ magP t = l ∧ v = .tuple #[.int .i64 t, .bool true]) ∨ ((∀ t : Int, magB t = true → magP t ≠ l) ∧ v = noV)
theorem magP_sgn (m : Int) : magP m = sgn (decide (m < 0)) (Lib.itoa ((m.natAbs / 1000 : Nat) : Int)) ++ 46 :: padL ((m.natAbs % 1000 : Nat) : Int) 3 := by
  unfold magP sgn
  by_cases h : m < 0
  · rw [if_pos h, if_pos (by simpa using h)]; simp
  · rw [if_neg h, if_neg (by simpa using h)]; simp
theorem sgn46 (b : Bool) (n : Nat) : ∀ x ∈ sgn b (Lib.itoa (n : Int)), x ≠ 46 := by
  intro x hx
  unfold sgn at hx
  split at hx
  · simp only [List.mem_cons] at hx
    rcases hx with rfl | hx
    · decide
    · exact all46 (itoa_dg n) x hx
  · exact all46 (itoa_dg n) x hx
theorem mag_split (m : Int) : splitA 46 [] (magP m) = [sgn (decide (m < 0)) (Lib.itoa ((m.natAbs / 1000 : Nat) : Int)), padL ((m.natAbs % 1000 : Nat) : Int) 3] := by
  rw [magP_sgn, splitA_hit [] (sgn46 _ _), splitA_none [] (all46 (padL_dg _ _))]
  simp
/-- what the parts of a magnitude's text are: the sign, the number before the point and the digits behind it -/
theorem mag_parts {m : Int} {b : Bool} {r p1 : List UInt8} (h0 : b = false → r.head? ≠ some 45) (h : [sgn b r, p1] = splitA 46 [] (magP m)) :
    b = decide (m < 0) ∧ r = Lib.itoa ((m.natAbs / 1000 : Nat) : Int) ∧ p1.length = 3 ∧ p1.all isDg = true ∧ dval p1 = m.natAbs % 1000 := by
  rw [mag_split] at h
  simp only [List.cons.injEq, and_true] at h
  obtain ⟨h1, h2⟩ := h
  subst h2
  refine ⟨?_, ?_, pad3_len (Nat.mod_lt _ (by omega)), padL_dg _ _, dval_pad3 (Nat.mod_lt _ (by omega))⟩
  · cases b <;> cases hd : decide (m < 0)
    · rfl
    · rw [hd] at h1; simp only [sgn, Bool.false_eq_true, if_false, if_true] at h1
      exfalso; exact h0 rfl (by rw [h1]; rfl)
    · rw [hd] at h1; simp only [sgn, Bool.false_eq_true, if_false, if_true] at h1
      exfalso; exact head_dg (itoa_dg (m.natAbs / 1000)) (by rw [← h1]; rfl)
    · rfl
  · cases b <;> cases hd : decide (m < 0)
    · rw [hd] at h1; simpa [sgn] using h1
    · rw [hd] at h1; simp only [sgn, Bool.false_eq_true, if_false, if_true] at h1
      exfalso; exact h0 rfl (by rw [h1]; rfl)
    · rw [hd] at h1; simp only [sgn, Bool.false_eq_true, if_false, if_true] at h1
      exfalso; exact head_dg (itoa_dg (m.natAbs / 1000)) (by rw [← h1]; rfl)
    · rw [hd] at h1; simpa [sgn] using h1
theorem MagPost.form {l : List UInt8} {v : Value} (h : MagPost l v) : ∃ n b, v = .tuple #[.int .i64 n, .bool b] := by
  rcases h with ⟨n, _, _, rfl⟩ | ⟨_, rfl⟩ <;> exact ⟨_, _, rfl⟩
theorem mag_inj {t u : Int} (he : magP t = magP u) : t = u := by
  have h0 : decide (t < 0) = false → (Lib.itoa ((t.natAbs / 1000 : Nat) : Int)).head? ≠ some 45 := fun _ => head_dg (itoa_dg _)
  obtain ⟨a1, a2, _, _, a3⟩ := mag_parts (m := u) h0 (by rw [← he, mag_split])
  obtain ⟨b1, b2, _, _, b3⟩ := mag_parts (m := t) h0 (by rw [mag_split])
  have h1 := itoa_inj a2
  rw [b3] at a3
  simp only [decide_eq_decide] at a1
  omega
theorem MagPost.same {l : List UInt8} {v v' : Value} (h : MagPost l v) (h' : MagPost l v') : v = v' := by
  rcases h with ⟨n, a1, a2, rfl⟩ | ⟨a1, rfl⟩ <;> rcases h' with ⟨m, b1, b2, rfl⟩ | ⟨b1, rfl⟩
  · rw [mag_inj (a2.trans b2.symm)]
  · exact absurd a2 (b1 n a1)
  · exact absurd b2 (a1 m b1)
  · rfl
theorem mag_no {l : List UInt8} {ps : List (List UInt8)} (hs : ps = splitA 46 [] l) (h : ∀ m : Int, magB m = true → ps = splitA 46 [] (magP m) → magP m = l → False) : MagPost l noV :=
  .inr ⟨fun m hm he => h m hm (by rw [hs, he]) he, rfl⟩
/-- a text with the parts 'sign and r' and p1 that is no magnitude's: by what must hold of a magnitude's -/
theorem mag_no2 {l p0 : List UInt8} {b : Bool} {r p1 : List UInt8} (h0 : b = false → r.head? ≠ some 45) (hp : p0 = sgn b r) (hs : [p0, p1] = splitA 46 [] l)
    (h : ∀ m : Int, magB m = true → magP m = l → b = decide (m < 0) → r = Lib.itoa ((m.natAbs / 1000 : Nat) : Int) → p1.length = 3 → p1.all isDg = true → dval p1 = m.natAbs % 1000 → False) : MagPost l noV := by
  refine mag_no hs (fun m hm hps he => ?_)
  rw [hp] at hps
  obtain ⟨q1, q2, q3, q4, q5⟩ := mag_parts h0 hps
  exact h m hm he q1 q2 q3 q4 q5
set_option maxHeartbeats 8000000 in
set_option maxRecDepth 100000 in
theorem sReadMag_any (s : ByteArray) (w : World) (hs : s.size ≤ 1048576) :
    Calls Tryd.prog 22 #[.string s] w fun e w' => ∃ v, e = .returned v ∧ MagPost s.data.toList v ∧ Below w.heap.size w w' := by
  go_enter Tryd.func22, Tryd.ntmps22
  go_wp2_with fail
  refine (l01Split_any s 46 w hs).mono ?_
  rintro e w1 ⟨g, cap, ps, rfl, hps, hown, b1⟩
  by_cases hl2 : ps.length = 2
  · match ps, hl2 with
    | [p0, p1], _ =>
      have k0 : w1.cell? ⟨g, 0, none⟩ = some (.string p0) := by have := hown.cellAt 0 (by simp); simpa [strs] using this
      have k1 : w1.cell? ⟨g, 1, none⟩ = some (.string p1) := by have := hown.cellAt 1 (by simp); simpa [strs] using this
      have hg := hown.lt g rfl
      simp only [List.map_cons, List.map_nil] at hps
      have HPS := Lib.hid hps
      clear hps hown
      simp only [List.length_cons, List.length_nil]
      by_cases h4 : p1.size = 3
      · have h4' : ((p1.size : Int) != 3) = false := by simp [h4]
        by_cases hz : 1 ≤ p0.size
        · have hp0 : 0 < p0.size := hz
          cases hc0 : (((p0[0]'hp0).toNat : Int) == 45)
          · have H0 := Lib.hid (plain_head p0 hp0 hc0)
            have hW : p0.data.toList = sgn false p0.data.toList := rfl
            go_wp2_with fail
            refine (l01Number_any p0 w1).mono ?_
            rintro e w2 ⟨v, rfl, hp, b2⟩
            obtain ⟨n, b, rfl⟩ := hp.form
            have k1' : w2.cell? ⟨g, 1, none⟩ = some (.string p1) := by rw [b2.cell (p := ⟨g, 1, none⟩) hg.2]; exact k1
            cases b with
            | false =>
              have HN : MagPost s.data.toList noV := mag_no2 (b := false) (fun _ => H0.out) hW HPS.out (fun m hm he q1 q2 q3 q4 q5 => by
                rcases hp with ⟨x, _, _, _, hv⟩ | ⟨hno, _⟩
                · simp at hv
                · have := magB_iff.1 hm
                  exact hno _ (by omega) (by omega) q2.symm)
              clear hp
              go_wp2
              exact bodyPost_ret (v := noV) (by simp [results, Tryd.results22, go_sem, noV]) rfl ⟨_, rfl, HN, by (repeat (first | assumption | exact Below.refl _ _ | refine belowDN ?_ _ | refine Below.drew ?_ | refine Below.setCell ?_ (by first | omega | (simp <;> omega)) _ | refine Below.alloc ?_ (by first | omega | (simp <;> omega)) _ | refine belowCall ?_ (by assumption)))⟩
            | true =>
              obtain ⟨n1, n2, n3⟩ : -1000000000000000000 < n ∧ n < 1000000000000000000 ∧ Lib.itoa n = p0.data.toList := by
                rcases hp with ⟨m, m1, m2, m3, hv⟩ | ⟨_, hv⟩
                · simp at hv; subst hv; exact ⟨m1, m2, m3⟩
                · simp at hv
              clear hp
              cases hr : inB n 0 20
              · have HN : MagPost s.data.toList noV := mag_no2 (b := false) (fun _ => H0.out) hW HPS.out (fun m hm he q1 q2 q3 q4 q5 => by
                  have hn := itoa_inj (n3.trans q2)
                  have := magB_iff.1 hm
                  have : inB n 0 20 = true := inB_iff.2 (by omega)
                  rw [hr] at this; cases this)
                clear n3
                go_wp2_with (go_at_call 43; refine (l00In_any _ _ _ _).mono ?_; rintro e w' ⟨rfl, rfl⟩)
                exact bodyPost_ret (v := noV) (by simp [results, Tryd.results22, go_sem, noV]) rfl ⟨_, rfl, HN, by (repeat (first | assumption | exact Below.refl _ _ | refine belowDN ?_ _ | refine Below.drew ?_ | refine Below.setCell ?_ (by first | omega | (simp <;> omega)) _ | refine Below.alloc ?_ (by first | omega | (simp <;> omega)) _ | refine belowCall ?_ (by assumption)))⟩
              · obtain ⟨r1, r2⟩ := inB_iff.1 hr
                have N3 := Lib.hid n3
                clear n3
                go_wp2_with (go_at_call 43; refine (l00In_any _ _ _ _).mono ?_; rintro e w' ⟨rfl, rfl⟩)
                go_loop [7, 9] (fun a i => ∃ k : Nat, k ≤ 3 ∧ i = .int .i64 k ∧ a = .int .i64 (n * (10 ^ k : Nat) + (dval (p1.data.toList.take k) : Int)) ∧ (p1.data.toList.take k).all isDg = true) (fun _ i => 3 - (intOf i).toNat)
                case atStart => exact ⟨0, by omega, rfl, by simp [dval], by simp⟩
                case round =>
                  obtain ⟨k, hk, rfl, rfl, hall⟩ := hrel
                  by_cases hlt : k < 3
                  · have hkp : k < p1.size := by omega
                    have hb3 : dval (p1.data.toList.take k) < 1000 := by
                      have h1 := dval_lt _ _ rfl hall
                      have h2 : 10 ^ (p1.data.toList.take k).length ≤ 10 ^ 3 := Nat.pow_le_pow_right (by omega) (by rw [List.length_take, sizeL]; omega)
                      have h3 : (10 : Nat) ^ 3 = 1000 := by decide
                      omega
                    have hpw : (10 : Nat) ^ k ≤ 100 := by
                      have : (10 : Nat) ^ k ≤ 10 ^ 2 := Nat.pow_le_pow_right (by omega) (by omega)
                      have h3 : (10 : Nat) ^ 2 = 100 := by decide
                      omega
                    obtain ⟨P, hP⟩ : ∃ P : Int, P = n * (10 ^ k : Nat) := ⟨_, rfl⟩
                    have hPb : 0 ≤ P ∧ P ≤ 2000 := by
                      rw [hP]
                      refine ⟨Int.mul_nonneg r1 (Int.natCast_nonneg _), ?_⟩
                      have h1 : n * ((10 ^ k : Nat) : Int) ≤ 20 * ((10 ^ k : Nat) : Int) := Int.mul_le_mul_of_nonneg_right r2 (Int.natCast_nonneg _)
                      have h2 : ((10 ^ k : Nat) : Int) ≤ 100 := by exact_mod_cast hpw
                      omega
                    obtain ⟨P1, P2⟩ := hPb
                    cases hd : digitB ((p1[k]'hkp).toNat : Int)
                    · have HN : MagPost s.data.toList noV := mag_no2 (b := false) (fun _ => H0.out) hW HPS.out (fun m hm he q1 q2 q3 q4 q5 => by
                        have := List.all_eq_true.1 q4 (p1[k]'hkp) (List.mem_of_getElem? (byte_at p1 k hkp))
                        rw [← dgB, hd] at this
                        cases this)
                      rw [← hP]
                      clear hall hP
                      go_wp2_with (go_at_call 48; refine (l01Digit_any _ _).mono ?_; rintro e w' ⟨rfl, rfl⟩)
                      exact bodyPost_ret (v := noV) (by simp [results, Tryd.results22, go_sem, noV]) rfl ⟨_, rfl, HN, by (repeat (first | assumption | exact Below.refl _ _ | refine belowDN ?_ _ | refine Below.drew ?_ | refine Below.setCell ?_ (by first | omega | (simp <;> omega)) _ | refine Below.alloc ?_ (by first | omega | (simp <;> omega)) _ | refine belowCall ?_ (by assumption)))⟩
                    · obtain ⟨c1, c2⟩ := inB_iff.1 hd
                      have HV := Lib.hid (show 10 * (P + (dval (p1.data.toList.take k) : Int)) + (((p1[k]'hkp).toNat : Int) - 48) = n * (10 ^ (k + 1) : Nat) + (dval (p1.data.toList.take (k + 1)) : Int) by
                        rw [take_snoc p1 k hkp, dval_snoc, Nat.pow_succ, hP, Int.natCast_mul, ← Int.mul_assoc]; omega)
                      have hall' : (p1.data.toList.take (k + 1)).all isDg = true := by
                        rw [take_snoc p1 k hkp, List.all_append, hall]; simp [← dgB, hd]
                      rw [← hP]
                      clear hall hP
                      go_wp2_with (go_at_call 48; refine (l01Digit_any _ _).mono ?_; rintro e w' ⟨rfl, rfl⟩)
                      go_round
                      case rel => exact ⟨k + 1, by omega, by go_num, by rw [← HV.out], hall'⟩
                      case measure => simp [intOf]; omega
                  · obtain rfl : k = 3 := by omega
                    rw [show p1.data.toList.take 3 = p1.data.toList from List.take_of_length_le (by rw [sizeL]; omega)] at hall ⊢
                    have hpl := sizeL p1
                    rw [h4] at hpl
                    have hdb := dval_lt 3 p1.data.toList hpl hall
                    have e3 : (10 : Nat) ^ 3 = 1000 := by decide
                    rw [e3] at hdb ⊢
                    obtain ⟨N, hN⟩ : ∃ N : Int, N = n * ((1000 : Nat) : Int) + (dval p1.data.toList : Int) := ⟨_, rfl⟩
                    have hEQ := Lib.hid (fun (m : Int) (q1 : false = decide (m < 0)) (q2 : p0.data.toList = Lib.itoa ((m.natAbs / 1000 : Nat) : Int)) (q5 : dval p1.data.toList = m.natAbs % 1000) => show m = N by
                      have hn := itoa_inj (N3.out.trans q2)
                      simp at q1
                      omega)
                    have hN1 : 0 ≤ N := by omega
                    have hN2 : N ≤ 20999 := by omega
                    rw [← hN]
                    clear hall hpl N3 hN hdb
                    cases hm : magB N
                    · have HN : MagPost s.data.toList noV := mag_no2 (b := false) (fun _ => H0.out) hW HPS.out (fun m hm' he q1 q2 q3 q4 q5 => by
                        have := hEQ.out m q1 q2 q5
                        rw [← this, hm'] at hm; cases hm)
                      clear hEQ
                      go_wp2_with (go_at_call 45; refine (l02Mag_any _ _).mono ?_; rintro e w' ⟨rfl, rfl⟩)
                      exact bodyPost_ret (v := noV) (by simp [results, Tryd.results22, go_sem, noV]) rfl ⟨_, rfl, HN, by (repeat (first | assumption | exact Below.refl _ _ | refine belowDN ?_ _ | refine Below.drew ?_ | refine Below.setCell ?_ (by first | omega | (simp <;> omega)) _ | refine Below.alloc ?_ (by first | omega | (simp <;> omega)) _ | refine belowCall ?_ (by assumption)))⟩
                    · have HNo := Lib.hid (show magL N ≠ s.data.toList → MagPost s.data.toList noV from fun hq => mag_no2 (b := false) (fun _ => H0.out) hW HPS.out (fun m hm' he q1 q2 q3 q4 q5 => by
                        have := hEQ.out m q1 q2 q5
                        rw [this, magP_is] at he
                        exact hq he))
                      clear hEQ
                      go_wp2_with (go_at_call 45; refine (l02Mag_any _ _).mono ?_; rintro e w' ⟨rfl, rfl⟩)
                      refine (l02Text_any N w2 (by have := magB_iff.1 hm; omega) (by have := magB_iff.1 hm; omega)).mono ?_
                      rintro e w3 ⟨rfl, b3⟩
                      by_cases hq : magL N = s.data.toList
                      · have HN : MagPost s.data.toList (.tuple #[.int .i64 N, .bool true]) := .inl ⟨_, hm, by rw [magP_is]; exact hq, rfl⟩
                        have hst : (⟨(magL N).toArray⟩ : ByteArray) = s := (str_eq _ _).2 hq
                        rw [hst]
                        clear hq hst HNo
                        go_wp2
                        exact bodyPost_ret (v := .tuple #[.int .i64 N, .bool true]) (by simp [results, Tryd.results22, go_sem]) rfl ⟨_, rfl, HN, by (repeat (first | assumption | exact Below.refl _ _ | refine belowDN ?_ _ | refine Below.drew ?_ | refine Below.setCell ?_ (by first | omega | (simp <;> omega)) _ | refine Below.alloc ?_ (by first | omega | (simp <;> omega)) _ | refine belowCall ?_ (by assumption)))⟩
                      · have HN := HNo.out hq
                        have hst := str_ne (fun h => hq ((str_eq _ _).1 h))
                        clear hq HNo
                        generalize (⟨(magL N).toArray⟩ : ByteArray) = u at hst ⊢
                        go_wp2
                        exact bodyPost_ret (v := noV) (by simp [results, Tryd.results22, go_sem, noV]) rfl ⟨_, rfl, HN, by (repeat (first | assumption | exact Below.refl _ _ | refine belowDN ?_ _ | refine Below.drew ?_ | refine Below.setCell ?_ (by first | omega | (simp <;> omega)) _ | refine Below.alloc ?_ (by first | omega | (simp <;> omega)) _ | refine belowCall ?_ (by assumption)))⟩
          · have hW : p0.data.toList = sgn true (p0.extract 1 p0.size).data.toList := min_tail p0 hp0 hc0
            go_wp2_with fail
            generalize p0.extract 1 p0.size = W at hW ⊢
            refine (l01Number_any W w1).mono ?_
            rintro e w2 ⟨v, rfl, hp, b2⟩
            obtain ⟨n, b, rfl⟩ := hp.form
            have k1' : w2.cell? ⟨g, 1, none⟩ = some (.string p1) := by rw [b2.cell (p := ⟨g, 1, none⟩) hg.2]; exact k1
            cases b with
            | false =>
              have HN : MagPost s.data.toList noV := mag_no2 (b := true) (fun h => by cases h) hW HPS.out (fun m hm he q1 q2 q3 q4 q5 => by
                rcases hp with ⟨x, _, _, _, hv⟩ | ⟨hno, _⟩
                · simp at hv
                · have := magB_iff.1 hm
                  exact hno _ (by omega) (by omega) q2.symm)
              clear hp
              go_wp2
              exact bodyPost_ret (v := noV) (by simp [results, Tryd.results22, go_sem, noV]) rfl ⟨_, rfl, HN, by (repeat (first | assumption | exact Below.refl _ _ | refine belowDN ?_ _ | refine Below.drew ?_ | refine Below.setCell ?_ (by first | omega | (simp <;> omega)) _ | refine Below.alloc ?_ (by first | omega | (simp <;> omega)) _ | refine belowCall ?_ (by assumption)))⟩
            | true =>
              obtain ⟨n1, n2, n3⟩ : -1000000000000000000 < n ∧ n < 1000000000000000000 ∧ Lib.itoa n = W.data.toList := by
                rcases hp with ⟨m, m1, m2, m3, hv⟩ | ⟨_, hv⟩
                · simp at hv; subst hv; exact ⟨m1, m2, m3⟩
                · simp at hv
              clear hp
              cases hr : inB n 0 20
              · have HN : MagPost s.data.toList noV := mag_no2 (b := true) (fun h => by cases h) hW HPS.out (fun m hm he q1 q2 q3 q4 q5 => by
                  have hn := itoa_inj (n3.trans q2)
                  have := magB_iff.1 hm
                  have : inB n 0 20 = true := inB_iff.2 (by omega)
                  rw [hr] at this; cases this)
                clear n3
                go_wp2_with (go_at_call 43; refine (l00In_any _ _ _ _).mono ?_; rintro e w' ⟨rfl, rfl⟩)
                exact bodyPost_ret (v := noV) (by simp [results, Tryd.results22, go_sem, noV]) rfl ⟨_, rfl, HN, by (repeat (first | assumption | exact Below.refl _ _ | refine belowDN ?_ _ | refine Below.drew ?_ | refine Below.setCell ?_ (by first | omega | (simp <;> omega)) _ | refine Below.alloc ?_ (by first | omega | (simp <;> omega)) _ | refine belowCall ?_ (by assumption)))⟩
              · obtain ⟨r1, r2⟩ := inB_iff.1 hr
                have N3 := Lib.hid n3
                clear n3
                go_wp2_with (go_at_call 43; refine (l00In_any _ _ _ _).mono ?_; rintro e w' ⟨rfl, rfl⟩)
                go_loop [7, 9] (fun a i => ∃ k : Nat, k ≤ 3 ∧ i = .int .i64 k ∧ a = .int .i64 (n * (10 ^ k : Nat) + (dval (p1.data.toList.take k) : Int)) ∧ (p1.data.toList.take k).all isDg = true) (fun _ i => 3 - (intOf i).toNat)
                case atStart => exact ⟨0, by omega, rfl, by simp [dval], by simp⟩
                case round =>
                  obtain ⟨k, hk, rfl, rfl, hall⟩ := hrel
                  by_cases hlt : k < 3
                  · have hkp : k < p1.size := by omega
                    have hb3 : dval (p1.data.toList.take k) < 1000 := by
                      have h1 := dval_lt _ _ rfl hall
                      have h2 : 10 ^ (p1.data.toList.take k).length ≤ 10 ^ 3 := Nat.pow_le_pow_right (by omega) (by rw [List.length_take, sizeL]; omega)
                      have h3 : (10 : Nat) ^ 3 = 1000 := by decide
                      omega
                    have hpw : (10 : Nat) ^ k ≤ 100 := by
                      have : (10 : Nat) ^ k ≤ 10 ^ 2 := Nat.pow_le_pow_right (by omega) (by omega)
                      have h3 : (10 : Nat) ^ 2 = 100 := by decide
                      omega
                    obtain ⟨P, hP⟩ : ∃ P : Int, P = n * (10 ^ k : Nat) := ⟨_, rfl⟩
                    have hPb : 0 ≤ P ∧ P ≤ 2000 := by
                      rw [hP]
                      refine ⟨Int.mul_nonneg r1 (Int.natCast_nonneg _), ?_⟩
                      have h1 : n * ((10 ^ k : Nat) : Int) ≤ 20 * ((10 ^ k : Nat) : Int) := Int.mul_le_mul_of_nonneg_right r2 (Int.natCast_nonneg _)
                      have h2 : ((10 ^ k : Nat) : Int) ≤ 100 := by exact_mod_cast hpw
                      omega
                    obtain ⟨P1, P2⟩ := hPb
                    cases hd : digitB ((p1[k]'hkp).toNat : Int)
                    · have HN : MagPost s.data.toList noV := mag_no2 (b := true) (fun h => by cases h) hW HPS.out (fun m hm he q1 q2 q3 q4 q5 => by
                        have := List.all_eq_true.1 q4 (p1[k]'hkp) (List.mem_of_getElem? (byte_at p1 k hkp))
                        rw [← dgB, hd] at this
                        cases this)
                      rw [← hP]
                      clear hall hP
                      go_wp2_with (go_at_call 48; refine (l01Digit_any _ _).mono ?_; rintro e w' ⟨rfl, rfl⟩)
                      exact bodyPost_ret (v := noV) (by simp [results, Tryd.results22, go_sem, noV]) rfl ⟨_, rfl, HN, by (repeat (first | assumption | exact Below.refl _ _ | refine belowDN ?_ _ | refine Below.drew ?_ | refine Below.setCell ?_ (by first | omega | (simp <;> omega)) _ | refine Below.alloc ?_ (by first | omega | (simp <;> omega)) _ | refine belowCall ?_ (by assumption)))⟩
                    · obtain ⟨c1, c2⟩ := inB_iff.1 hd
                      have HV := Lib.hid (show 10 * (P + (dval (p1.data.toList.take k) : Int)) + (((p1[k]'hkp).toNat : Int) - 48) = n * (10 ^ (k + 1) : Nat) + (dval (p1.data.toList.take (k + 1)) : Int) by
                        rw [take_snoc p1 k hkp, dval_snoc, Nat.pow_succ, hP, Int.natCast_mul, ← Int.mul_assoc]; omega)
                      have hall' : (p1.data.toList.take (k + 1)).all isDg = true := by
                        rw [take_snoc p1 k hkp, List.all_append, hall]; simp [← dgB, hd]
                      rw [← hP]
                      clear hall hP
                      go_wp2_with (go_at_call 48; refine (l01Digit_any _ _).mono ?_; rintro e w' ⟨rfl, rfl⟩)
                      go_round
                      case rel => exact ⟨k + 1, by omega, by go_num, by rw [← HV.out], hall'⟩
                      case measure => simp [intOf]; omega
                  · obtain rfl : k = 3 := by omega
                    rw [show p1.data.toList.take 3 = p1.data.toList from List.take_of_length_le (by rw [sizeL]; omega)] at hall ⊢
                    have hpl := sizeL p1
                    rw [h4] at hpl
                    have hdb := dval_lt 3 p1.data.toList hpl hall
                    have e3 : (10 : Nat) ^ 3 = 1000 := by decide
                    rw [e3] at hdb ⊢
                    obtain ⟨N, hN⟩ : ∃ N : Int, N = n * ((1000 : Nat) : Int) + (dval p1.data.toList : Int) := ⟨_, rfl⟩
                    have hEQ := Lib.hid (fun (m : Int) (q1 : true = decide (m < 0)) (q2 : W.data.toList = Lib.itoa ((m.natAbs / 1000 : Nat) : Int)) (q5 : dval p1.data.toList = m.natAbs % 1000) => show m = (-N) by
                      have hn := itoa_inj (N3.out.trans q2)
                      simp at q1
                      omega)
                    have hN1 : 0 ≤ N := by omega
                    have hN2 : N ≤ 20999 := by omega
                    rw [← hN]
                    clear hall hpl N3 hN hdb
                    cases hm : magB (-N)
                    · have HN : MagPost s.data.toList noV := mag_no2 (b := true) (fun h => by cases h) hW HPS.out (fun m hm' he q1 q2 q3 q4 q5 => by
                        have := hEQ.out m q1 q2 q5
                        rw [← this, hm'] at hm; cases hm)
                      clear hEQ
                      go_wp2_with (go_at_call 45; refine (l02Mag_any _ _).mono ?_; rintro e w' ⟨rfl, rfl⟩)
                      exact bodyPost_ret (v := noV) (by simp [results, Tryd.results22, go_sem, noV]) rfl ⟨_, rfl, HN, by (repeat (first | assumption | exact Below.refl _ _ | refine belowDN ?_ _ | refine Below.drew ?_ | refine Below.setCell ?_ (by first | omega | (simp <;> omega)) _ | refine Below.alloc ?_ (by first | omega | (simp <;> omega)) _ | refine belowCall ?_ (by assumption)))⟩
                    · have HNo := Lib.hid (show magL (-N) ≠ s.data.toList → MagPost s.data.toList noV from fun hq => mag_no2 (b := true) (fun h => by cases h) hW HPS.out (fun m hm' he q1 q2 q3 q4 q5 => by
                        have := hEQ.out m q1 q2 q5
                        rw [this, magP_is] at he
                        exact hq he))
                      clear hEQ
                      go_wp2_with (go_at_call 45; refine (l02Mag_any _ _).mono ?_; rintro e w' ⟨rfl, rfl⟩)
                      refine (l02Text_any (-N) w2 (by have := magB_iff.1 hm; omega) (by have := magB_iff.1 hm; omega)).mono ?_
                      rintro e w3 ⟨rfl, b3⟩
                      by_cases hq : magL (-N) = s.data.toList
                      · have HN : MagPost s.data.toList (.tuple #[.int .i64 (-N), .bool true]) := .inl ⟨_, hm, by rw [magP_is]; exact hq, rfl⟩
                        have hst : (⟨(magL (-N)).toArray⟩ : ByteArray) = s := (str_eq _ _).2 hq
                        rw [hst]
                        clear hq hst HNo
                        go_wp2
                        exact bodyPost_ret (v := .tuple #[.int .i64 (-N), .bool true]) (by simp [results, Tryd.results22, go_sem]) rfl ⟨_, rfl, HN, by (repeat (first | assumption | exact Below.refl _ _ | refine belowDN ?_ _ | refine Below.drew ?_ | refine Below.setCell ?_ (by first | omega | (simp <;> omega)) _ | refine Below.alloc ?_ (by first | omega | (simp <;> omega)) _ | refine belowCall ?_ (by assumption)))⟩
                      · have HN := HNo.out hq
                        have hst := str_ne (fun h => hq ((str_eq _ _).1 h))
                        clear hq HNo
                        generalize (⟨(magL (-N)).toArray⟩ : ByteArray) = u at hst ⊢
                        go_wp2
                        exact bodyPost_ret (v := noV) (by simp [results, Tryd.results22, go_sem, noV]) rfl ⟨_, rfl, HN, by (repeat (first | assumption | exact Below.refl _ _ | refine belowDN ?_ _ | refine Below.drew ?_ | refine Below.setCell ?_ (by first | omega | (simp <;> omega)) _ | refine Below.alloc ?_ (by first | omega | (simp <;> omega)) _ | refine belowCall ?_ (by assumption)))⟩
        · have hzz : ¬ (0 : Int) < (p0.size : Int) := by omega
          have H0 := Lib.hid (show p0.data.toList.head? ≠ some 45 from by
            have : p0.data.toList = [] := by apply List.eq_nil_of_length_eq_zero; rw [sizeL]; omega
            rw [this]; simp)
          have hW : p0.data.toList = sgn false p0.data.toList := rfl
          go_wp2_with fail
          refine (l01Number_any p0 w1).mono ?_
          rintro e w2 ⟨v, rfl, hp, b2⟩
          obtain ⟨n, b, rfl⟩ := hp.form
          have k1' : w2.cell? ⟨g, 1, none⟩ = some (.string p1) := by rw [b2.cell (p := ⟨g, 1, none⟩) hg.2]; exact k1
          cases b with
          | false =>
            have HN : MagPost s.data.toList noV := mag_no2 (b := false) (fun _ => H0.out) hW HPS.out (fun m hm he q1 q2 q3 q4 q5 => by
              rcases hp with ⟨x, _, _, _, hv⟩ | ⟨hno, _⟩
              · simp at hv
              · have := magB_iff.1 hm
                exact hno _ (by omega) (by omega) q2.symm)
            clear hp
            go_wp2
            exact bodyPost_ret (v := noV) (by simp [results, Tryd.results22, go_sem, noV]) rfl ⟨_, rfl, HN, by (repeat (first | assumption | exact Below.refl _ _ | refine belowDN ?_ _ | refine Below.drew ?_ | refine Below.setCell ?_ (by first | omega | (simp <;> omega)) _ | refine Below.alloc ?_ (by first | omega | (simp <;> omega)) _ | refine belowCall ?_ (by assumption)))⟩
          | true =>
            obtain ⟨n1, n2, n3⟩ : -1000000000000000000 < n ∧ n < 1000000000000000000 ∧ Lib.itoa n = p0.data.toList := by
              rcases hp with ⟨m, m1, m2, m3, hv⟩ | ⟨_, hv⟩
              · simp at hv; subst hv; exact ⟨m1, m2, m3⟩
              · simp at hv
            clear hp
            cases hr : inB n 0 20
            · have HN : MagPost s.data.toList noV := mag_no2 (b := false) (fun _ => H0.out) hW HPS.out (fun m hm he q1 q2 q3 q4 q5 => by
                have hn := itoa_inj (n3.trans q2)
                have := magB_iff.1 hm
                have : inB n 0 20 = true := inB_iff.2 (by omega)
                rw [hr] at this; cases this)
              clear n3
              go_wp2_with (go_at_call 43; refine (l00In_any _ _ _ _).mono ?_; rintro e w' ⟨rfl, rfl⟩)
              exact bodyPost_ret (v := noV) (by simp [results, Tryd.results22, go_sem, noV]) rfl ⟨_, rfl, HN, by (repeat (first | assumption | exact Below.refl _ _ | refine belowDN ?_ _ | refine Below.drew ?_ | refine Below.setCell ?_ (by first | omega | (simp <;> omega)) _ | refine Below.alloc ?_ (by first | omega | (simp <;> omega)) _ | refine belowCall ?_ (by assumption)))⟩
            · obtain ⟨r1, r2⟩ := inB_iff.1 hr
              have N3 := Lib.hid n3
              clear n3
              go_wp2_with (go_at_call 43; refine (l00In_any _ _ _ _).mono ?_; rintro e w' ⟨rfl, rfl⟩)
              go_loop [7, 9] (fun a i => ∃ k : Nat, k ≤ 3 ∧ i = .int .i64 k ∧ a = .int .i64 (n * (10 ^ k : Nat) + (dval (p1.data.toList.take k) : Int)) ∧ (p1.data.toList.take k).all isDg = true) (fun _ i => 3 - (intOf i).toNat)
              case atStart => exact ⟨0, by omega, rfl, by simp [dval], by simp⟩
              case round =>
                obtain ⟨k, hk, rfl, rfl, hall⟩ := hrel
                by_cases hlt : k < 3
                · have hkp : k < p1.size := by omega
                  have hb3 : dval (p1.data.toList.take k) < 1000 := by
                    have h1 := dval_lt _ _ rfl hall
                    have h2 : 10 ^ (p1.data.toList.take k).length ≤ 10 ^ 3 := Nat.pow_le_pow_right (by omega) (by rw [List.length_take, sizeL]; omega)
                    have h3 : (10 : Nat) ^ 3 = 1000 := by decide
                    omega
                  have hpw : (10 : Nat) ^ k ≤ 100 := by
                    have : (10 : Nat) ^ k ≤ 10 ^ 2 := Nat.pow_le_pow_right (by omega) (by omega)
                    have h3 : (10 : Nat) ^ 2 = 100 := by decide
                    omega
                  obtain ⟨P, hP⟩ : ∃ P : Int, P = n * (10 ^ k : Nat) := ⟨_, rfl⟩
                  have hPb : 0 ≤ P ∧ P ≤ 2000 := by
                    rw [hP]
                    refine ⟨Int.mul_nonneg r1 (Int.natCast_nonneg _), ?_⟩
                    have h1 : n * ((10 ^ k : Nat) : Int) ≤ 20 * ((10 ^ k : Nat) : Int) := Int.mul_le_mul_of_nonneg_right r2 (Int.natCast_nonneg _)
                    have h2 : ((10 ^ k : Nat) : Int) ≤ 100 := by exact_mod_cast hpw
                    omega
                  obtain ⟨P1, P2⟩ := hPb
                  cases hd : digitB ((p1[k]'hkp).toNat : Int)
                  · have HN : MagPost s.data.toList noV := mag_no2 (b := false) (fun _ => H0.out) hW HPS.out (fun m hm he q1 q2 q3 q4 q5 => by
                      have := List.all_eq_true.1 q4 (p1[k]'hkp) (List.mem_of_getElem? (byte_at p1 k hkp))
                      rw [← dgB, hd] at this
                      cases this)
                    rw [← hP]
                    clear hall hP
                    go_wp2_with (go_at_call 48; refine (l01Digit_any _ _).mono ?_; rintro e w' ⟨rfl, rfl⟩)
                    exact bodyPost_ret (v := noV) (by simp [results, Tryd.results22, go_sem, noV]) rfl ⟨_, rfl, HN, by (repeat (first | assumption | exact Below.refl _ _ | refine belowDN ?_ _ | refine Below.drew ?_ | refine Below.setCell ?_ (by first | omega | (simp <;> omega)) _ | refine Below.alloc ?_ (by first | omega | (simp <;> omega)) _ | refine belowCall ?_ (by assumption)))⟩
                  · obtain ⟨c1, c2⟩ := inB_iff.1 hd
                    have HV := Lib.hid (show 10 * (P + (dval (p1.data.toList.take k) : Int)) + (((p1[k]'hkp).toNat : Int) - 48) = n * (10 ^ (k + 1) : Nat) + (dval (p1.data.toList.take (k + 1)) : Int) by
                      rw [take_snoc p1 k hkp, dval_snoc, Nat.pow_succ, hP, Int.natCast_mul, ← Int.mul_assoc]; omega)
                    have hall' : (p1.data.toList.take (k + 1)).all isDg = true := by
                      rw [take_snoc p1 k hkp, List.all_append, hall]; simp [← dgB, hd]
                    rw [← hP]
                    clear hall hP
                    go_wp2_with (go_at_call 48; refine (l01Digit_any _ _).mono ?_; rintro e w' ⟨rfl, rfl⟩)
                    go_round
                    case rel => exact ⟨k + 1, by omega, by go_num, by rw [← HV.out], hall'⟩
                    case measure => simp [intOf]; omega
                · obtain rfl : k = 3 := by omega
                  rw [show p1.data.toList.take 3 = p1.data.toList from List.take_of_length_le (by rw [sizeL]; omega)] at hall ⊢
                  have hpl := sizeL p1
                  rw [h4] at hpl
                  have hdb := dval_lt 3 p1.data.toList hpl hall
                  have e3 : (10 : Nat) ^ 3 = 1000 := by decide
                  rw [e3] at hdb ⊢
                  obtain ⟨N, hN⟩ : ∃ N : Int, N = n * ((1000 : Nat) : Int) + (dval p1.data.toList : Int) := ⟨_, rfl⟩
                  have hEQ := Lib.hid (fun (m : Int) (q1 : false = decide (m < 0)) (q2 : p0.data.toList = Lib.itoa ((m.natAbs / 1000 : Nat) : Int)) (q5 : dval p1.data.toList = m.natAbs % 1000) => show m = N by
                    have hn := itoa_inj (N3.out.trans q2)
                    simp at q1
                    omega)
                  have hN1 : 0 ≤ N := by omega
                  have hN2 : N ≤ 20999 := by omega
                  rw [← hN]
                  clear hall hpl N3 hN hdb
                  cases hm : magB N
                  · have HN : MagPost s.data.toList noV := mag_no2 (b := false) (fun _ => H0.out) hW HPS.out (fun m hm' he q1 q2 q3 q4 q5 => by
                      have := hEQ.out m q1 q2 q5
                      rw [← this, hm'] at hm; cases hm)
                    clear hEQ
                    go_wp2_with (go_at_call 45; refine (l02Mag_any _ _).mono ?_; rintro e w' ⟨rfl, rfl⟩)
                    exact bodyPost_ret (v := noV) (by simp [results, Tryd.results22, go_sem, noV]) rfl ⟨_, rfl, HN, by (repeat (first | assumption | exact Below.refl _ _ | refine belowDN ?_ _ | refine Below.drew ?_ | refine Below.setCell ?_ (by first | omega | (simp <;> omega)) _ | refine Below.alloc ?_ (by first | omega | (simp <;> omega)) _ | refine belowCall ?_ (by assumption)))⟩
                  · have HNo := Lib.hid (show magL N ≠ s.data.toList → MagPost s.data.toList noV from fun hq => mag_no2 (b := false) (fun _ => H0.out) hW HPS.out (fun m hm' he q1 q2 q3 q4 q5 => by
                      have := hEQ.out m q1 q2 q5
                      rw [this, magP_is] at he
                      exact hq he))
                    clear hEQ
                    go_wp2_with (go_at_call 45; refine (l02Mag_any _ _).mono ?_; rintro e w' ⟨rfl, rfl⟩)
                    refine (l02Text_any N w2 (by have := magB_iff.1 hm; omega) (by have := magB_iff.1 hm; omega)).mono ?_
                    rintro e w3 ⟨rfl, b3⟩
                    by_cases hq : magL N = s.data.toList
                    · have HN : MagPost s.data.toList (.tuple #[.int .i64 N, .bool true]) := .inl ⟨_, hm, by rw [magP_is]; exact hq, rfl⟩
                      have hst : (⟨(magL N).toArray⟩ : ByteArray) = s := (str_eq _ _).2 hq
                      rw [hst]
                      clear hq hst HNo
                      go_wp2
                      exact bodyPost_ret (v := .tuple #[.int .i64 N, .bool true]) (by simp [results, Tryd.results22, go_sem]) rfl ⟨_, rfl, HN, by (repeat (first | assumption | exact Below.refl _ _ | refine belowDN ?_ _ | refine Below.drew ?_ | refine Below.setCell ?_ (by first | omega | (simp <;> omega)) _ | refine Below.alloc ?_ (by first | omega | (simp <;> omega)) _ | refine belowCall ?_ (by assumption)))⟩
                    · have HN := HNo.out hq
                      have hst := str_ne (fun h => hq ((str_eq _ _).1 h))
                      clear hq HNo
                      generalize (⟨(magL N).toArray⟩ : ByteArray) = u at hst ⊢
                      go_wp2
                      exact bodyPost_ret (v := noV) (by simp [results, Tryd.results22, go_sem, noV]) rfl ⟨_, rfl, HN, by (repeat (first | assumption | exact Below.refl _ _ | refine belowDN ?_ _ | refine Below.drew ?_ | refine Below.setCell ?_ (by first | omega | (simp <;> omega)) _ | refine Below.alloc ?_ (by first | omega | (simp <;> omega)) _ | refine belowCall ?_ (by assumption)))⟩
      · have h4' : ((p1.size : Int) != 3) = true := by simp; omega
        have HN : MagPost s.data.toList noV := mag_no HPS.out (fun m hm hps he => by
          rw [mag_split] at hps
          simp only [List.cons.injEq, and_true] at hps
          have := pad3_len (n := m.natAbs % 1000) (Nat.mod_lt _ (by omega))
          rw [← hps.2, sizeL] at this
          exact h4 this)
        go_wp2
        exact bodyPost_ret (v := noV) (by simp [results, Tryd.results22, go_sem, noV]) rfl ⟨_, rfl, HN, by (repeat (first | assumption | exact Below.refl _ _ | refine belowDN ?_ _ | refine Below.drew ?_ | refine Below.setCell ?_ (by first | omega | (simp <;> omega)) _ | refine Below.alloc ?_ (by first | omega | (simp <;> omega)) _ | refine belowCall ?_ (by assumption)))⟩
  · have hl2' : ((ps.length : Int) != 2) = true := by simp; omega
    have HN : MagPost s.data.toList noV := mag_no hps (fun m hm he _ => hl2 (by rw [mag_split] at he; have := congrArg List.length he; simpa using this))
    clear hps hown
    go_wp2
    exact bodyPost_ret (v := noV) (by simp [results, Tryd.results22, go_sem, noV]) rfl ⟨_, rfl, HN, by (repeat (first | assumption | exact Below.refl _ _ | refine belowDN ?_ _ | refine Below.drew ?_ | refine Below.setCell ?_ (by first | omega | (simp <;> omega)) _ | refine Below.alloc ?_ (by first | omega | (simp <;> omega)) _ | refine belowCall ?_ (by assumption)))⟩
end Go.Proofs.YtfebellnmdfpiabDoor
