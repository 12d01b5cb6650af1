/- ReadMag: the program's (strings.Replace, strconv.ParseInt, then the text written again). -/
import Derived.Test.YtfnjndbnogeddaaGreatDoorR7
namespace Go.Proofs.YtfnjndbnogeddaaGreatDoor
open Go.ChangeShapes Go.WideShapes Go.ChangeAt Go.RowKit

theorem parse_minus {l : List UInt8} (hne : l ≠ []) (hd : l.all isDg = true) (h18 : l.length ≤ 18) : Lib.parseIntB 64 (45 :: l) = .ok (-(dval l : Int)) := by
  have hb := dval_lt18 h18 hd
  have hM : (2 : Nat) ^ 64 - 1 = 18446744073709551615 := by decide
  have hC : (2 : Nat) ^ (64 - 1) = 9223372036854775808 := by decide
  have hu : Lib.parseUintB 64 l = .ok (dval l) := by
    unfold Lib.parseUintB
    rw [if_neg hne, hM, parseM_digits _ (Nat.le_refl _) _ l rfl hd (by omega)]
  rw [Lib.parseIntB_minus, hu, hC]
  show (if 9223372036854775808 < dval l then (Lib.NumEnd.range : Lib.NumEnd Int) else .ok (-(dval l : Int))) = _
  rw [if_neg (by omega)]
theorem mag_parse {m : Int} (h : magB m = true) : Lib.parseIntB 64 (Lib.replace (magP m) [46] [] 1) = .ok m := by
  obtain ⟨m1, m2⟩ := magB_iff.1 h
  rw [magP_sgn, rep_one (sgn46 _ _)]
  have hl := pad3_len (n := m.natAbs % 1000) (Nat.mod_lt _ (by omega))
  have hl2 : (Lib.itoa ((m.natAbs / 1000 : Nat) : Int)).length ≤ 2 := by rw [itoa_pos]; exact decDigits_len 1 _ (by omega)
  have hne : Lib.itoa ((m.natAbs / 1000 : Nat) : Int) ++ padL ((m.natAbs % 1000 : Nat) : Int) 3 ≠ [] := by
    intro e; have := congrArg List.length e; rw [List.length_append, hl] at this; simp at this
  have hall : (Lib.itoa ((m.natAbs / 1000 : Nat) : Int) ++ padL ((m.natAbs % 1000 : Nat) : Int) 3).all isDg = true := by rw [List.all_append, itoa_dg, padL_dg]; rfl
  have hlen : (Lib.itoa ((m.natAbs / 1000 : Nat) : Int) ++ padL ((m.natAbs % 1000 : Nat) : Int) 3).length ≤ 18 := by rw [List.length_append, hl]; omega
  have hv : dval (Lib.itoa ((m.natAbs / 1000 : Nat) : Int) ++ padL ((m.natAbs % 1000 : Nat) : Int) 3) = m.natAbs := by
    have e3 : (10 : Nat) ^ 3 = 1000 := by decide
    rw [dval_app _ 3 _ hl, dval_pad3 (Nat.mod_lt _ (by omega)), itoa_pos, dec_val, e3]; omega
  cases hs : decide (m < 0)
  · simp only [sgn, Bool.false_eq_true, if_false]
    rw [parse_digits hne hall hlen, hv]
    congr 1
    have : ¬ m < 0 := by simpa using hs
    omega
  · simp only [sgn, if_true, List.cons_append]
    rw [parse_minus hne hall hlen, hv]
    congr 1
    have : m < 0 := by simpa using hs
    omega
def magLL (m : Int) : List UInt8 := if magB m then magP m else []
theorem magV_L (m : Int) : magV m = strV (magLL m) := by unfold magV magLL; split <;> rfl
theorem magPost_no {l : List UInt8} (h : ∀ t, Lib.parseIntB 64 (Lib.replace l [46] [] 1) = .ok t → magLL t ≠ l) : MagPost l noV := by
  refine .inr ⟨fun t ht he => ?_, rfl⟩
  have hp := mag_parse ht
  rw [he] at hp
  exact h t hp (by unfold magLL; rw [if_pos ht]; exact he)
theorem magPost_yes {l : List UInt8} {t : Int} (hp : Lib.parseIntB 64 (Lib.replace l [46] [] 1) = .ok t) (h : magLL t = l) : MagPost l (.tuple #[.int .i64 t, .bool true]) := by
  cases ht : magB t
  · unfold magLL at h
    rw [ht] at h
    simp at h
    subst h
    rw [parse_nil] at hp
    cases hp
  · unfold magLL at h
    rw [if_pos ht] at h
    exact .inl ⟨t, ht, h, rfl⟩
theorem iReadMag_any (s : ByteArray) (w : World) (hs : s.size ≤ 1048576) (hE : Errs w) (hP : Pow w) (hSh : w.ShapedOpen Tryz.prog) :
    Calls Tryz.prog 22 #[.string s] w fun e w' => ∃ v, e = .returned v ∧ MagPost s.data.toList v ∧ Below w.heap.size w w' := by
  have hrl := replace_len s.data.toList [46] 1
  rw [sizeL] at hrl
  go_enter Tryz.func22, Tryz.ntmps22
  go_wp2_with fail
  refine (Tryz.strings_Replace_shaped s ⟨#[46]⟩ ⟨#[]⟩ 1 w hSh (by omega) (by decide) (by show s.size + Lib.countB s ⟨#[46]⟩ * 0 ≤ 140737488355328; omega)).mono ?_
  rintro e w1 ⟨rfl, b1⟩
  go_wp2_with fail
  refine (parseInt_any _ w1 (by show (Lib.replace s.data.toList [46] [] 1).toArray.size ≤ 281474976710656; rw [List.size_toArray]; omega) (hE.mono b1)).mono ?_
  rintro e w2 ⟨hcase, b2⟩
  have hcase' : (∃ v, Lib.parseIntB 64 (Lib.replace s.data.toList [46] [] 1) = .ok v ∧ e = .returned (.tuple #[.int .i64 v, .nilIface])) ∨ ((∀ v, Lib.parseIntB 64 (Lib.replace s.data.toList [46] [] 1) ≠ .ok v) ∧ ∃ n N, e = .returned (.tuple #[.int .i64 n, .iface 139 (.pointer (some ⟨N, 0, none⟩))])) := hcase
  clear hcase
  rcases hcase' with ⟨v, hv, rfl⟩ | ⟨hno, n, N, rfl⟩
  · have HY := Lib.hid (fun h => magPost_yes hv h)
    have HNo := Lib.hid (show magLL v ≠ s.data.toList → MagPost s.data.toList noV from fun h => magPost_no (fun t ht => by rw [hv] at ht; injection ht with ht; subst ht; exact h))
    clear hv
    go_wp2_with fail
    refine (iMagText_any v w2 ((hP.mono b1).mono b2)).mono ?_
    rintro e w3 ⟨rfl, b3⟩
    rw [magV_L, strV]
    by_cases hq : magLL v = s.data.toList
    · have HN := HY.out hq
      have hst : (⟨(magLL v).toArray⟩ : ByteArray) = s := (str_eq _ _).2 hq
      rw [hst]
      clear hq hst HY HNo
      go_wp2
      exact bodyPost_ret (v := .tuple #[.int .i64 v, .bool true]) (by simp [results, Tryz.results22, go_sem]) rfl ⟨_, rfl, HN, by (repeat (first | assumption | exact Below.refl _ _ | refine belowDN ?_ _ | refine Below.drew ?_ | refine Below.setCell ?_ (by first | omega | (simp <;> omega)) _ | refine Below.alloc ?_ (by first | omega | (simp <;> omega)) _ | refine belowCall ?_ (by assumption)))⟩
    · have HN := HNo.out hq
      have hst := str_ne (fun h => hq ((str_eq _ _).1 h))
      clear hq HY HNo
      generalize (⟨(magLL v).toArray⟩ : ByteArray) = u at hst ⊢
      go_wp2
      exact bodyPost_ret (v := noV) (by simp [results, Tryz.results22, go_sem, noV]) rfl ⟨_, rfl, HN, by (repeat (first | assumption | exact Below.refl _ _ | refine belowDN ?_ _ | refine Below.drew ?_ | refine Below.setCell ?_ (by first | omega | (simp <;> omega)) _ | refine Below.alloc ?_ (by first | omega | (simp <;> omega)) _ | refine belowCall ?_ (by assumption)))⟩
  · have HN := magPost_no (l := s.data.toList) (fun t ht => absurd ht (hno t))
    clear hno
    go_wp2
    exact bodyPost_ret (v := noV) (by simp [results, Tryz.results22, go_sem, noV]) rfl ⟨_, rfl, HN, by (repeat (first | assumption | exact Below.refl _ _ | refine belowDN ?_ _ | refine Below.drew ?_ | refine Below.setCell ?_ (by first | omega | (simp <;> omega)) _ | refine Below.alloc ?_ (by first | omega | (simp <;> omega)) _ | refine belowCall ?_ (by assumption)))⟩
end Go.Proofs.YtfnjndbnogeddaaGreatDoor
