/- ReadDate: the model's walk; texts of dates are read back. -/
import Derived.Test.YtfebellnmdfpiabDoorR5
import Derived.Test.YtfebellnmdfpiabDoorD6
import Derived.Test.YtfebellnmdfpiabDoorT7
namespace Go.Proofs.YtfebellnmdfpiabDoor
open Go.ChangeShapes Go.WideShapes Go.ChangeAt Go.RowKit

theorem pad2_of {l : List UInt8} (h : l.length = 2) (hd : l.all isDg = true) : padL (dval l : Int) 2 = l := by
  match l, h with
  | [a, b], _ =>
    simp only [List.all_cons, List.all_nil, Bool.and_true, Bool.and_eq_true] at hd
    obtain ⟨ha, hb⟩ := hd
    have hv : dval [a, b] = (a.toNat - 48) * 10 + (b.toNat - 48) := by
      rw [show [a, b] = ([a] ++ [b]) from rfl, dval_snoc, dval_one]
    have na : a.toNat - 48 < 10 := by simp [isDg] at ha; omega
    have nb : b.toNat - 48 < 10 := by simp [isDg] at hb; omega
    rw [hv, pad2 (by omega)]
    rw [show ((a.toNat - 48) * 10 + (b.toNat - 48)) / 10 = a.toNat - 48 from by omega, show ((a.toNat - 48) * 10 + (b.toNat - 48)) % 10 = b.toNat - 48 from by omega, o_of ha, o_of hb]
theorem dval_pad2 {n : Nat} (h : n < 100) : dval (padL (n : Int) 2) = n := by
  rw [pad2 h, show [o (n / 10), o (n % 10)] = ([o (n / 10)] ++ [o (n % 10)]) from rfl, dval_snoc, dval_one, o_nat (by omega), o_nat (by omega)]
  omega
theorem dgV_form (l : List UInt8) : ∃ n : Int, dgV l = .tuple #[.int .i64 n, .bool (l.all isDg)] ∧ (l.all isDg = true → n = (dval l : Int)) := by
  unfold dgV noV
  cases h : l.all isDg
  · exact ⟨0, by simp, fun h => by cases h⟩
  · exact ⟨dval l, by simp, fun _ => rfl⟩
def datOk (y m d : Int) : Value := .tuple #[.agg #[.int .i64 y, .int .i64 m, .int .i64 d], .bool true]
def datNo : Value := .tuple #[.agg #[.int .i64 0, .int .i64 0, .int .i64 0], .bool false]
/-- how a text is answered that is read as a date: the date and true, or the zero Date and false -/
def DatPost (l : List UInt8) (v : Value) : Prop :=
  (∃ y m d : Int, vdB y m d = true ∧ dateP y m d = l ∧ v = datOk y m d) ∨ ((∀ y m d : Int, vdB y m d = true → dateP y m d ≠ l) ∧ v = datNo)
theorem DatPost.form {l : List UInt8} {v : Value} (h : DatPost l v) : ∃ a b c e, v = .tuple #[.agg #[.int .i64 a, .int .i64 b, .int .i64 c], .bool e] := by
  rcases h with ⟨y, m, d, _, _, rfl⟩ | ⟨_, rfl⟩ <;> exact ⟨_, _, _, _, rfl⟩
/-- the parts of a date's text -/
theorem dat_parts {y m d : Int} (h : vdB y m d = true) {l : List UInt8} (he : dateP y m d = l) :
    l.length = 10 ∧ l[4]? = some 45 ∧ l[7]? = some 45 ∧ l.take 4 = padL y 4 ∧ (l.drop 5).take 2 = padL m 2 ∧ l.drop 8 = padL d 2 ∧
    (padL y 4).all isDg = true ∧ (padL m 2).all isDg = true ∧ (padL d 2).all isDg = true ∧ (dval (padL y 4) : Int) = y ∧ (dval (padL m 2) : Int) = m ∧ (dval (padL d 2) : Int) = d := by
  obtain ⟨h1, h2, h3, h4, h5, h6⟩ := vd_bounds h
  obtain ⟨y, rfl⟩ := Int.eq_ofNat_of_zero_le (show 0 ≤ y by omega)
  obtain ⟨m, rfl⟩ := Int.eq_ofNat_of_zero_le (show 0 ≤ m by omega)
  obtain ⟨d, rfl⟩ := Int.eq_ofNat_of_zero_le (show 0 ≤ d by omega)
  have e1 := pad4 (n := y) (by omega)
  have e2 := pad2 (n := m) (by omega)
  have e3 := pad2 (n := d) (by omega)
  rw [dval_pad4 (by omega), dval_pad2 (by omega), dval_pad2 (by omega)]
  refine ⟨?_, ?_, ?_, ?_, ?_, ?_, padL_dg _ _, padL_dg _ _, padL_dg _ _, rfl, rfl, rfl⟩
  all_goals
    subst he
    unfold dateP
    rw [e1, e2, e3]
    rfl
theorem DatPost.same {l : List UInt8} {v v' : Value} (h : DatPost l v) (h' : DatPost l v') : v = v' := by
  rcases h with ⟨y, m, d, a1, a2, rfl⟩ | ⟨a1, rfl⟩ <;> rcases h' with ⟨y', m', d', b1, b2, rfl⟩ | ⟨b1, rfl⟩
  · obtain ⟨_, _, _, p1, p2, p3, _, _, _, q1, q2, q3⟩ := dat_parts a1 a2
    obtain ⟨_, _, _, r1, r2, r3, _, _, _, s1, s2, s3⟩ := dat_parts b1 b2
    rw [← p1, r1, s1] at q1
    rw [← p2, r2, s2] at q2
    rw [← p3, r3, s3] at q3
    rw [q1, q2, q3]
  · exact absurd a2 (b1 _ _ _ a1)
  · exact absurd b2 (a1 _ _ _ b1)
  · rfl
/-- a text of ten bytes by its parts -/
theorem ten {l : List UInt8} (h : l.length = 10) (h4 : l[4]? = some 45) (h7 : l[7]? = some 45) : l = l.take 4 ++ 45 :: ((l.drop 5).take 2 ++ 45 :: l.drop 8) ∧ (l.take 4).length = 4 ∧ ((l.drop 5).take 2).length = 2 ∧ (l.drop 8).length = 2 := by
  match l, h with
  | [a0, a1, a2, a3, a4, a5, a6, a7, a8, a9], _ =>
    simp at h4 h7
    subst h4; subst h7
    exact ⟨rfl, rfl, rfl, rfl⟩
set_option maxHeartbeats 4000000 in
theorem sReadDate_any (s : ByteArray) (w : World) :
    Calls Tryd.prog 13 #[.string s] w fun e w' => ∃ v, e = .returned v ∧ DatPost s.data.toList v ∧ Below w.heap.size w w' := by
  by_cases h10 : s.size = 10
  · have hl := sizeL s
    rw [h10] at hl
    have i4 : 4 < s.size := by omega
    have i7 : 7 < s.size := by omega
    have hne : ((s.size : Int) != 10) = false := by simp [h10]
    cases c4 : (((s[4]'i4).toNat : Int) != 45)
    · cases c7 : (((s[7]'i7).toNat : Int) != 45)
      · go_enter Tryd.func13, Tryd.ntmps13
        go_wp2_with fail
        have x4 : (s.extract 0 4).data.toList = s.data.toList.take 4 := by rw [ext_list]; rfl
        have x5 : (s.extract 5 7).data.toList = (s.data.toList.drop 5).take 2 := by rw [ext_list]
        have x8 : (s.extract 8 10).data.toList = s.data.toList.drop 8 := by rw [ext_list, List.take_of_length_le]; rw [List.length_drop, hl]; exact Nat.le_refl _
        have y4 : s.data.toList[4]? = some 45 := by
          rw [byte_at s 4 i4]; congr 1; apply UInt8.toNat_inj.1
          have := (bne_eq_false_iff_eq).1 c4; have e : (45 : UInt8).toNat = 45 := rfl; omega
        have y7 : s.data.toList[7]? = some 45 := by
          rw [byte_at s 7 i7]; congr 1; apply UInt8.toNat_inj.1
          have := (bne_eq_false_iff_eq).1 c7; have e : (45 : UInt8).toNat = 45 := rfl; omega
        obtain ⟨t1, t2, t3, t4⟩ := ten hl y4 y7
        have z4 : (s.extract 0 4).size = 4 := by rw [← sizeL, x4, t2]
        have z5 : (s.extract 5 7).size = 2 := by rw [← sizeL, x5, t3]
        have z8 : (s.extract 8 10).size = 2 := by rw [← sizeL, x8, t4]
        obtain ⟨n1, f1, g1⟩ := dgV_form (s.extract 0 4).data.toList
        obtain ⟨n2, f2, g2⟩ := dgV_form (s.extract 5 7).data.toList
        obtain ⟨n3, f3, g3⟩ := dgV_form (s.extract 8 10).data.toList
        have HN0 := Lib.hid (show (∀ y m d, vdB y m d = true → dateP y m d = s.data.toList → ((s.extract 0 4).data.toList.all isDg = true ∧ (s.extract 5 7).data.toList.all isDg = true ∧ (s.extract 8 10).data.toList.all isDg = true) ∧ n1 = y ∧ n2 = m ∧ n3 = d) from fun y m d hv he => by
          obtain ⟨_, _, _, p1, p2, p3, q1, q2, q3, r1, r2, r3⟩ := dat_parts hv he
          rw [← x4] at p1; rw [← x5] at p2; rw [← x8] at p3
          rw [← p1] at q1 r1; rw [← p2] at q2 r2; rw [← p3] at q3 r3
          exact ⟨⟨q1, q2, q3⟩, by rw [g1 q1, r1], by rw [g2 q2, r2], by rw [g3 q3, r3]⟩)
        have HY0 := Lib.hid (show (s.extract 0 4).data.toList.all isDg = true → (s.extract 5 7).data.toList.all isDg = true → (s.extract 8 10).data.toList.all isDg = true → dateP n1 n2 n3 = s.data.toList from fun q1 q2 q3 => by
          rw [g1 q1, g2 q2, g3 q3, dateP, pad4_of (by rw [x4, t2]) q1, pad2_of (by rw [x5, t3]) q2, pad2_of (by rw [x8, t4]) q3, x4, x5, x8]
          exact t1.symm)
        have F1 := Lib.hid f1
        have F2 := Lib.hid f2
        have F3 := Lib.hid f3
        clear f1 f2 f3 g1 g2 g3 x4 x5 x8 y4 y7 t1 t2 t3 t4 hl
        generalize (s.extract 0 4).data.toList.all isDg = B1 at F1 HN0 HY0
        generalize (s.extract 5 7).data.toList.all isDg = B2 at F2 HN0 HY0
        generalize (s.extract 8 10).data.toList.all isDg = B3 at F3 HN0 HY0
        refine (l03Digits_any _ _ (by omega)).mono ?_
        rintro e w1 ⟨rfl, rfl⟩
        rw [F1.out]
        go_wp2_with fail
        refine (l03Digits_any _ _ (by omega)).mono ?_
        rintro e w1 ⟨rfl, rfl⟩
        rw [F2.out]
        go_wp2_with fail
        refine (l03Digits_any _ _ (by omega)).mono ?_
        rintro e w1 ⟨rfl, rfl⟩
        rw [F3.out]
        clear F1 F2 F3
        cases B1 with
        | false =>
          have HN : DatPost s.data.toList datNo := .inr ⟨(fun y m d hv he => by have := (HN0.out y m d hv he).1.1; cases this), rfl⟩
          clear HN0 HY0
          cases B2 <;> cases B3
          all_goals
            go_wp2
            exact bodyPost_ret (v := datNo) (by simp [results, Tryd.results13, go_sem, datNo]) rfl ⟨_, rfl, HN, by (repeat (first | assumption | exact Below.refl _ _ | refine belowDN ?_ _ | refine Below.drew ?_ | refine Below.setCell ?_ (by first | omega | (simp <;> omega)) _ | refine Below.alloc ?_ (by first | omega | (simp <;> omega)) _ | refine belowCall ?_ (by assumption)))⟩
        | true =>
          cases B2 with
          | false =>
            have HN : DatPost s.data.toList datNo := .inr ⟨(fun y m d hv he => by have := (HN0.out y m d hv he).1.2.1; cases this), rfl⟩
            clear HN0 HY0
            cases B3
            all_goals
              go_wp2
              exact bodyPost_ret (v := datNo) (by simp [results, Tryd.results13, go_sem, datNo]) rfl ⟨_, rfl, HN, by (repeat (first | assumption | exact Below.refl _ _ | refine belowDN ?_ _ | refine Below.drew ?_ | refine Below.setCell ?_ (by first | omega | (simp <;> omega)) _ | refine Below.alloc ?_ (by first | omega | (simp <;> omega)) _ | refine belowCall ?_ (by assumption)))⟩
          | true =>
            cases B3 with
            | false =>
              have HN : DatPost s.data.toList datNo := .inr ⟨(fun y m d hv he => by have := (HN0.out y m d hv he).1.2.2; cases this), rfl⟩
              clear HN0 HY0
              go_wp2
              exact bodyPost_ret (v := datNo) (by simp [results, Tryd.results13, go_sem, datNo]) rfl ⟨_, rfl, HN, by (repeat (first | assumption | exact Below.refl _ _ | refine belowDN ?_ _ | refine Below.drew ?_ | refine Below.setCell ?_ (by first | omega | (simp <;> omega)) _ | refine Below.alloc ?_ (by first | omega | (simp <;> omega)) _ | refine belowCall ?_ (by assumption)))⟩
            | true =>
              cases hv : vdB n1 n2 n3
              · have HN : DatPost s.data.toList datNo := .inr ⟨(fun y m d hv' he => by
                  obtain ⟨_, e1, e2, e3⟩ := HN0.out y m d hv' he
                  rw [e1, e2, e3, hv'] at hv; cases hv), rfl⟩
                clear HN0 HY0
                go_wp2_with (go_at_call 26; refine (sValidDate_any _ _ _ _).mono ?_; rintro e w' ⟨rfl, hbel⟩; obtain ⟨hc, hf⟩ := bcell hbel; have hz := hbel.size; (try simp at hz); (try simp only [Nat.add_one_le_iff] at hz); (try (have hzw : w.heap.size < w'.heap.size := by omega)))
                have q0 : w'.cell? ⟨w.heap.size, 0, none⟩ = some (.int .i64 0) := (by rw [hc _ _ (by first | (simp; done) | (simp; omega))]; go_keep)
                have q1 : w'.cell? ⟨w.heap.size, 1, none⟩ = some (.int .i64 0) := (by rw [hc _ _ (by first | (simp; done) | (simp; omega))]; go_keep)
                have q2 : w'.cell? ⟨w.heap.size, 2, none⟩ = some (.int .i64 0) := (by rw [hc _ _ (by first | (simp; done) | (simp; omega))]; go_keep)
                have z0 : (((w'.setCell ⟨w.heap.size, 0, none⟩ (.int .i64 0)).setCell ⟨w.heap.size, 1, none⟩ (.int .i64 0)).setCell ⟨w.heap.size, 2, none⟩ (.int .i64 0)).cell? ⟨w.heap.size, 0, none⟩ = some (.int .i64 0) := sc_other (by decide) (sc_other (by decide) (sc_same q0))
                have z1 : (((w'.setCell ⟨w.heap.size, 0, none⟩ (.int .i64 0)).setCell ⟨w.heap.size, 1, none⟩ (.int .i64 0)).setCell ⟨w.heap.size, 2, none⟩ (.int .i64 0)).cell? ⟨w.heap.size, 1, none⟩ = some (.int .i64 0) := sc_other (by decide) (sc_same (sc_other (by decide) q1))
                have z2 : (((w'.setCell ⟨w.heap.size, 0, none⟩ (.int .i64 0)).setCell ⟨w.heap.size, 1, none⟩ (.int .i64 0)).setCell ⟨w.heap.size, 2, none⟩ (.int .i64 0)).cell? ⟨w.heap.size, 2, none⟩ = some (.int .i64 0) := sc_same (sc_other (by decide) (sc_other (by decide) q2))
                have hbV : Below w.heap.size w (((w'.setCell ⟨w.heap.size, 0, none⟩ (.int .i64 0)).setCell ⟨w.heap.size, 1, none⟩ (.int .i64 0)).setCell ⟨w.heap.size, 2, none⟩ (.int .i64 0)) := by (repeat (first | assumption | exact Below.refl _ _ | refine belowDN ?_ _ | refine Below.drew ?_ | refine Below.setCell ?_ (by first | omega | (simp <;> omega)) _ | refine Below.alloc ?_ (by first | omega | (simp <;> omega)) _ | refine belowCall ?_ (by assumption)))
                generalize (((w'.setCell ⟨w.heap.size, 0, none⟩ (.int .i64 0)).setCell ⟨w.heap.size, 1, none⟩ (.int .i64 0)).setCell ⟨w.heap.size, 2, none⟩ (.int .i64 0)) = V at z0 z1 z2 hbV ⊢
                exact bodyPost_ret (v := datNo) (by simp [results, Tryd.results13, go_sem, datNo, z0, z1, z2]) rfl ⟨_, rfl, HN, hbV⟩
              · have HN : DatPost s.data.toList (datOk n1 n2 n3) := .inl ⟨_, _, _, hv, HY0.out rfl rfl rfl, rfl⟩
                clear HN0 HY0
                go_wp2_with (go_at_call 26; refine (sValidDate_any _ _ _ _).mono ?_; rintro e w' ⟨rfl, hbel⟩; obtain ⟨hc, hf⟩ := bcell hbel; have hz := hbel.size; (try simp at hz); (try simp only [Nat.add_one_le_iff] at hz); (try (have hzw : w.heap.size < w'.heap.size := by omega)))
                have q0 : w'.cell? ⟨w.heap.size, 0, none⟩ = some (.int .i64 0) := (by rw [hc _ _ (by first | (simp; done) | (simp; omega))]; go_keep)
                have q1 : w'.cell? ⟨w.heap.size, 1, none⟩ = some (.int .i64 0) := (by rw [hc _ _ (by first | (simp; done) | (simp; omega))]; go_keep)
                have q2 : w'.cell? ⟨w.heap.size, 2, none⟩ = some (.int .i64 0) := (by rw [hc _ _ (by first | (simp; done) | (simp; omega))]; go_keep)
                have z0 : (((w'.setCell ⟨w.heap.size, 0, none⟩ (.int .i64 n1)).setCell ⟨w.heap.size, 1, none⟩ (.int .i64 n2)).setCell ⟨w.heap.size, 2, none⟩ (.int .i64 n3)).cell? ⟨w.heap.size, 0, none⟩ = some (.int .i64 n1) := sc_other (by decide) (sc_other (by decide) (sc_same q0))
                have z1 : (((w'.setCell ⟨w.heap.size, 0, none⟩ (.int .i64 n1)).setCell ⟨w.heap.size, 1, none⟩ (.int .i64 n2)).setCell ⟨w.heap.size, 2, none⟩ (.int .i64 n3)).cell? ⟨w.heap.size, 1, none⟩ = some (.int .i64 n2) := sc_other (by decide) (sc_same (sc_other (by decide) q1))
                have z2 : (((w'.setCell ⟨w.heap.size, 0, none⟩ (.int .i64 n1)).setCell ⟨w.heap.size, 1, none⟩ (.int .i64 n2)).setCell ⟨w.heap.size, 2, none⟩ (.int .i64 n3)).cell? ⟨w.heap.size, 2, none⟩ = some (.int .i64 n3) := sc_same (sc_other (by decide) (sc_other (by decide) q2))
                have hbV : Below w.heap.size w (((w'.setCell ⟨w.heap.size, 0, none⟩ (.int .i64 n1)).setCell ⟨w.heap.size, 1, none⟩ (.int .i64 n2)).setCell ⟨w.heap.size, 2, none⟩ (.int .i64 n3)) := by (repeat (first | assumption | exact Below.refl _ _ | refine belowDN ?_ _ | refine Below.drew ?_ | refine Below.setCell ?_ (by first | omega | (simp <;> omega)) _ | refine Below.alloc ?_ (by first | omega | (simp <;> omega)) _ | refine belowCall ?_ (by assumption)))
                generalize (((w'.setCell ⟨w.heap.size, 0, none⟩ (.int .i64 n1)).setCell ⟨w.heap.size, 1, none⟩ (.int .i64 n2)).setCell ⟨w.heap.size, 2, none⟩ (.int .i64 n3)) = V at z0 z1 z2 hbV ⊢
                exact bodyPost_ret (v := datOk n1 n2 n3) (by simp [results, Tryd.results13, go_sem, datOk, z0, z1, z2]) rfl ⟨_, rfl, HN, hbV⟩
      · have HN : DatPost s.data.toList datNo := .inr ⟨fun y m d hv he => by
          have := (dat_parts hv he).2.2.1
          rw [byte_at s 7 i7] at this
          injection this with this
          rw [this] at c7; exact absurd c7 (by decide), rfl⟩
        go_enter Tryd.func13, Tryd.ntmps13
        go_wp2
        exact bodyPost_ret (v := datNo) (by simp [results, Tryd.results13, go_sem, datNo]) rfl ⟨_, rfl, HN, by (repeat (first | assumption | exact Below.refl _ _ | refine belowDN ?_ _ | refine Below.drew ?_ | refine Below.setCell ?_ (by first | omega | (simp <;> omega)) _ | refine Below.alloc ?_ (by first | omega | (simp <;> omega)) _ | refine belowCall ?_ (by assumption)))⟩
    · have HN : DatPost s.data.toList datNo := .inr ⟨fun y m d hv he => by
        have := (dat_parts hv he).2.1
        rw [byte_at s 4 i4] at this
        injection this with this
        rw [this] at c4; exact absurd c4 (by decide), rfl⟩
      go_enter Tryd.func13, Tryd.ntmps13
      go_wp2
      exact bodyPost_ret (v := datNo) (by simp [results, Tryd.results13, go_sem, datNo]) rfl ⟨_, rfl, HN, by (repeat (first | assumption | exact Below.refl _ _ | refine belowDN ?_ _ | refine Below.drew ?_ | refine Below.setCell ?_ (by first | omega | (simp <;> omega)) _ | refine Below.alloc ?_ (by first | omega | (simp <;> omega)) _ | refine belowCall ?_ (by assumption)))⟩
  · have hne : ((s.size : Int) != 10) = true := by simp; omega
    have HN : DatPost s.data.toList datNo := .inr ⟨fun y m d hv he => h10 (by rw [← sizeL]; exact (dat_parts hv he).1), rfl⟩
    go_enter Tryd.func13, Tryd.ntmps13
    go_wp2
    exact bodyPost_ret (v := datNo) (by simp [results, Tryd.results13, go_sem, datNo]) rfl ⟨_, rfl, HN, by (repeat (first | assumption | exact Below.refl _ _ | refine belowDN ?_ _ | refine Below.drew ?_ | refine Below.setCell ?_ (by first | omega | (simp <;> omega)) _ | refine Below.alloc ?_ (by first | omega | (simp <;> omega)) _ | refine belowCall ?_ (by assumption)))⟩
end Go.Proofs.YtfebellnmdfpiabDoor
