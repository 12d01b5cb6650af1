/- ReadDecimal: the model's. -/
import Derived.Test.YtlfbfgdejoggpacDoorR1
import Derived.Test.YtlfbfgdejoggpacDoorB7
import Derived.Lib.AtoiErrMem
namespace Go.Proofs.YtlfbfgdejoggpacDoor
open Go.ChangeShapes Go.WideShapes Go.ChangeAt Go.RowKit

theorem dgB (c : UInt8) : digitB (c.toNat : Int) = isDg c := by
  simp only [digitB, inB, isDg]
  congr 1 <;> exact decide_eq_decide.2 (by omega)
theorem byte_at (t : ByteArray) (k : Nat) (h : k < t.size) : t.data.toList[k]? = some (t[k]'h) := by
  have h' : k < t.data.toList.length := by simpa using h
  rw [List.getElem?_eq_getElem h']
  rfl
theorem take_snoc (t : ByteArray) (k : Nat) (h : k < t.size) : t.data.toList.take (k + 1) = t.data.toList.take k ++ [t[k]'h] := by
  have h' : k < t.data.toList.length := by simpa using h
  rw [List.take_succ_eq_append_getElem h']
  rfl
theorem str_eq (l : List UInt8) (s : ByteArray) : ((⟨l.toArray⟩ : ByteArray) = s) ↔ l = s.data.toList := by
  constructor
  · intro h; subst h; simp
  · intro h; subst h; cases s; simp
theorem str_ne {u t : ByteArray} (h : ¬ u = t) : (!u.toList == t.toList) = true := by
  have : ¬ u.toList = t.toList := fun e => h (by
    rw [ByteArray.toList_eq, ByteArray.toList_eq] at e
    cases u; cases t; simp at e; rw [e])
  simp [this]
theorem sizeL (t : ByteArray) : t.data.toList.length = t.size := by simp
theorem take_size (t : ByteArray) : t.data.toList.take t.size = t.data.toList := List.take_of_length_le (by simp)
theorem min_tail (s : ByteArray) (h : 0 < s.size) (h0 : (((s[0]'h).toNat : Int) == 45) = true) : s.data.toList = 45 :: (s.extract 1 s.size).data.toList := by
  have hb := byte_at s 0 h
  have hc : s[0]'h = 45 := by
    have : (s[0]'h).toNat = 45 := by have := eq_of_beq h0; omega
    exact UInt8.toNat_inj.1 this
  rw [hc] at hb
  cases hd : s.data.toList with
  | nil => rw [hd] at hb; simp at hb
  | cons c r =>
    rw [hd] at hb
    simp at hb
    subst hb
    congr 1
    have : (s.extract 1 s.size).data.toList = s.data.toList.drop 1 := by
      simp [ByteArray.data_extract]
      rw [List.take_of_length_le]
      simp
    rw [this, hd]; rfl
theorem plain_head (s : ByteArray) (h : 0 < s.size) (h0 : (((s[0]'h).toNat : Int) == 45) = false) : s.data.toList.head? ≠ some 45 := by
  have hb := byte_at s 0 h
  rw [List.head?_eq_getElem?, hb]
  intro e
  injection e with e
  rw [e] at h0
  exact absurd h0 (by decide)
theorem ext_size (s : ByteArray) : (s.extract 1 s.size).size = s.size - 1 := by simp [ByteArray.size_extract]
theorem l01Number_plain (t : ByteArray) (w : World) (hz : 1 ≤ t.size) (h18 : t.size ≤ 18) (h0 : (((t[0]'hz).toNat : Int) == 45) = false) :
    Calls Tryd.prog 8 #[.string t] w fun e w' => ∃ v, e = .returned v ∧ NumPost t.data.toList v ∧ Below w.heap.size w w' := by
  obtain ⟨he1, he2⟩ := empty_facts hz
  have hp : 0 < t.size := hz
  have hm := plain_head t hp h0
  go_enter Tryd.func8, Tryd.ntmps8
  go_wp2
  go_loop [5, 6] (fun n i => ∃ k : Nat, k ≤ t.size ∧ i = .int .i64 k ∧ n = .int .i64 (dval (t.data.toList.take k)) ∧ (t.data.toList.take k).all isDg = true) (fun _ i => t.size - (intOf i).toNat)
  case atStart => exact ⟨0, by omega, rfl, by simp [dval], by simp⟩
  case round =>
    obtain ⟨k, hk, rfl, rfl, hall⟩ := hrel
    have hl18 : (t.data.toList.take k).length ≤ 18 := by rw [List.length_take, sizeL]; omega
    have hbd := dval_lt18 hl18 hall
    by_cases hlt : k < t.size
    · cases hd : digitB ((t[k]'hlt).toNat : Int)
      · have HN : NumPost t.data.toList (.tuple #[.int .i64 0, .bool false]) := by
          refine num_no (m := false) (r := t.data.toList) (fun _ => hm) (fun hh => ?_)
          have := List.all_eq_true.1 hh.2.2 (t[k]'hlt) (List.mem_of_getElem? (byte_at t k hlt))
          rw [← dgB, hd] at this
          cases this
        clear hall
        go_wp2_with (go_at_call 13; refine (l01Digit_any _ _).mono ?_; rintro e w' ⟨rfl, rfl⟩)
        exact bodyPost_ret (v := .tuple #[.int .i64 0, .bool false]) (by simp [results, Tryd.results8, go_sem]) rfl ⟨_, rfl, HN, by (repeat (first | assumption | exact Below.refl _ _ | refine belowDN ?_ _ | refine Below.drew ?_ | refine Below.setCell ?_ (by first | omega | (simp <;> omega)) _ | refine Below.alloc ?_ (by first | omega | (simp <;> omega)) _ | refine belowCall ?_ (by assumption)))⟩
      · obtain ⟨c1, c2⟩ := inB_iff.1 hd
        have HV := Lib.hid (show 10 * (dval (t.data.toList.take k) : Int) + (((t[k]'hlt).toNat : Int) - 48) = (dval (t.data.toList.take (k + 1)) : Int) by
          rw [take_snoc t k hlt, dval_snoc]; omega)
        have hb17 : dval (t.data.toList.take k) < 100000000000000000 := by
          have h1 := dval_lt _ _ rfl hall
          have h2 : 10 ^ (t.data.toList.take k).length ≤ 10 ^ 17 := Nat.pow_le_pow_right (by omega) (by rw [List.length_take, sizeL]; omega)
          have h3 : (10 : Nat) ^ 17 = 100000000000000000 := by decide
          omega
        have hall' : (t.data.toList.take (k + 1)).all isDg = true := by
          rw [take_snoc t k hlt, List.all_append, hall]; simp [← dgB, hd]
        clear hall
        go_wp2_with (go_at_call 13; refine (l01Digit_any _ _).mono ?_; rintro e w' ⟨rfl, rfl⟩)
        go_round
        case rel => exact ⟨k + 1, by omega, by go_num, by rw [← HV.out], hall'⟩
        case measure => simp [intOf]; omega
    · obtain rfl : k = t.size := by omega
      rw [take_size] at hall hbd ⊢
      obtain ⟨HY, HN⟩ := num_end (m := false) (r := t.data.toList) (by rw [sizeL]; exact h18) hall
      have hvb := numV_bd (m := false) (r := t.data.toList) (by rw [sizeL]; exact h18) hall
      have hnv : numV false t.data.toList = (dval t.data.toList : Int) := rfl
      rw [hnv] at HY HN hvb
      clear hall hl18
      go_wp2_with fail
      refine (l01Dec_any (dval t.data.toList : Int) w (by omega) (by omega)).mono ?_
      rintro e w1 ⟨rfl, b1⟩
      by_cases hq : Lib.itoa (dval t.data.toList : Int) = t.data.toList
      · have HP := HY hq
        have hs : (⟨(Lib.itoa (dval t.data.toList : Int)).toArray⟩ : ByteArray) = t := (str_eq _ _).2 hq
        clear HY HN hq
        rw [hs]
        generalize dval t.data.toList = V at HP hvb ⊢
        go_wp2
        exact bodyPost_ret (v := .tuple #[.int .i64 V, .bool true]) (by simp [results, Tryd.results8, go_sem]) rfl ⟨_, rfl, HP, b1⟩
      · have HP := HN hq
        have hs : ¬ (⟨(Lib.itoa (dval t.data.toList : Int)).toArray⟩ : ByteArray) = t := fun h => hq ((str_eq _ _).1 h)
        clear HY HN hq
        have hs := str_ne hs
        generalize (⟨(Lib.itoa (dval t.data.toList : Int)).toArray⟩ : ByteArray) = u at hs ⊢
        go_wp2
        exact bodyPost_ret (v := .tuple #[.int .i64 0, .bool false]) (by simp [results, Tryd.results8, go_sem]) rfl ⟨_, rfl, HP, b1⟩
theorem l01Number_minus (s : ByteArray) (w : World) (hz : 1 ≤ s.size) (h1 : 1 ≤ s.size - 1) (h18' : s.size - 1 ≤ 18) (h0 : (((s[0]'hz).toNat : Int) == 45) = true) :
    Calls Tryd.prog 8 #[.string s] w fun e w' => ∃ v, e = .returned v ∧ NumPost s.data.toList v ∧ Below w.heap.size w w' := by
  obtain ⟨he1, he2⟩ := empty_facts hz
  have hp : 0 < s.size := hz
  have hst := min_tail s hp h0
  have hsz := ext_size s
  go_enter Tryd.func8, Tryd.ntmps8
  go_wp2
  generalize s.extract 1 s.size = t at hst hsz ⊢
  have hz1 : 1 ≤ t.size := by omega
  have h18 : t.size ≤ 18 := by omega
  have hlt1 : (t.size : Int) < (s.size : Int) := by omega
  have hSG := Lib.hid (show s.data.toList = sgn true t.data.toList from hst)
  clear hst
  go_loop [5, 6] (fun n i => ∃ k : Nat, k ≤ t.size ∧ i = .int .i64 k ∧ n = .int .i64 (dval (t.data.toList.take k)) ∧ (t.data.toList.take k).all isDg = true) (fun _ i => t.size - (intOf i).toNat)
  case atStart => exact ⟨0, by omega, rfl, by simp [dval], by simp⟩
  case round =>
    obtain ⟨k, hk, rfl, rfl, hall⟩ := hrel
    have hl18 : (t.data.toList.take k).length ≤ 18 := by rw [List.length_take, sizeL]; omega
    have hbd := dval_lt18 hl18 hall
    by_cases hlt : k < t.size
    · cases hd : digitB ((t[k]'hlt).toNat : Int)
      · have HN : NumPost s.data.toList (.tuple #[.int .i64 0, .bool false]) := by
          rw [hSG.out]
          refine num_no (m := true) (r := t.data.toList) (fun h => by cases h) (fun hh => ?_)
          have := List.all_eq_true.1 hh.2.2 (t[k]'hlt) (List.mem_of_getElem? (byte_at t k hlt))
          rw [← dgB, hd] at this
          cases this
        clear hall
        go_wp2_with (go_at_call 13; refine (l01Digit_any _ _).mono ?_; rintro e w' ⟨rfl, rfl⟩)
        exact bodyPost_ret (v := .tuple #[.int .i64 0, .bool false]) (by simp [results, Tryd.results8, go_sem]) rfl ⟨_, rfl, HN, by (repeat (first | assumption | exact Below.refl _ _ | refine belowDN ?_ _ | refine Below.drew ?_ | refine Below.setCell ?_ (by first | omega | (simp <;> omega)) _ | refine Below.alloc ?_ (by first | omega | (simp <;> omega)) _ | refine belowCall ?_ (by assumption)))⟩
      · obtain ⟨c1, c2⟩ := inB_iff.1 hd
        have HV := Lib.hid (show 10 * (dval (t.data.toList.take k) : Int) + (((t[k]'hlt).toNat : Int) - 48) = (dval (t.data.toList.take (k + 1)) : Int) by
          rw [take_snoc t k hlt, dval_snoc]; omega)
        have hb17 : dval (t.data.toList.take k) < 100000000000000000 := by
          have h1 := dval_lt _ _ rfl hall
          have h2 : 10 ^ (t.data.toList.take k).length ≤ 10 ^ 17 := Nat.pow_le_pow_right (by omega) (by rw [List.length_take, sizeL]; omega)
          have h3 : (10 : Nat) ^ 17 = 100000000000000000 := by decide
          omega
        have hall' : (t.data.toList.take (k + 1)).all isDg = true := by
          rw [take_snoc t k hlt, List.all_append, hall]; simp [← dgB, hd]
        clear hall
        go_wp2_with (go_at_call 13; refine (l01Digit_any _ _).mono ?_; rintro e w' ⟨rfl, rfl⟩)
        go_round
        case rel => exact ⟨k + 1, by omega, by go_num, by rw [← HV.out], hall'⟩
        case measure => simp [intOf]; omega
    · obtain rfl : k = t.size := by omega
      rw [take_size] at hall hbd ⊢
      obtain ⟨HY, HN⟩ := num_end (m := true) (r := t.data.toList) (by rw [sizeL]; exact h18) hall
      have hvb := numV_bd (m := true) (r := t.data.toList) (by rw [sizeL]; exact h18) hall
      have hnv : numV true t.data.toList = -(dval t.data.toList : Int) := rfl
      rw [hnv] at HY HN hvb
      clear hall hl18
      go_wp2_with fail
      refine (l01Dec_any (-(dval t.data.toList : Int)) w (by omega) (by omega)).mono ?_
      rintro e w1 ⟨rfl, b1⟩
      rw [← hSG.out] at HY HN
      by_cases hq : Lib.itoa (-(dval t.data.toList : Int)) = s.data.toList
      · have HP := HY hq
        have hs : (⟨(Lib.itoa (-(dval t.data.toList : Int))).toArray⟩ : ByteArray) = s := (str_eq _ _).2 hq
        clear HY HN hq
        rw [hs]
        generalize dval t.data.toList = V at HP hvb ⊢
        go_wp2
        exact bodyPost_ret (v := .tuple #[.int .i64 (-(V : Int)), .bool true]) (by simp [results, Tryd.results8, go_sem]) rfl ⟨_, rfl, HP, b1⟩
      · have HP := HN hq
        have hs : ¬ (⟨(Lib.itoa (-(dval t.data.toList : Int))).toArray⟩ : ByteArray) = s := fun h => hq ((str_eq _ _).1 h)
        clear HY HN hq
        have hs := str_ne hs
        generalize (⟨(Lib.itoa (-(dval t.data.toList : Int))).toArray⟩ : ByteArray) = u at hs ⊢
        go_wp2
        exact bodyPost_ret (v := .tuple #[.int .i64 0, .bool false]) (by simp [results, Tryd.results8, go_sem]) rfl ⟨_, rfl, HP, b1⟩
theorem l01Number_any (s : ByteArray) (w : World) :
    Calls Tryd.prog 8 #[.string s] w fun e w' => ∃ v, e = .returned v ∧ NumPost s.data.toList v ∧ Below w.heap.size w w' := by
  by_cases hz : 1 ≤ s.size
  · obtain ⟨he1, he2⟩ := empty_facts hz
    have hp : 0 < s.size := hz
    cases h0 : (((s[0]'hp).toNat : Int) == 45)
    · by_cases h18 : s.size ≤ 18
      · exact l01Number_plain s w hz h18 h0
      · have HN : NumPost s.data.toList (.tuple #[.int .i64 0, .bool false]) :=
          num_no (m := false) (r := s.data.toList) (fun _ => plain_head s hp h0) (fun h => by have := h.2.1; rw [sizeL] at this; omega)
        go_enter Tryd.func8, Tryd.ntmps8
        go_wp2
        exact bodyPost_ret (v := .tuple #[.int .i64 0, .bool false]) (by simp [results, Tryd.results8, go_sem]) rfl ⟨_, rfl, HN, by (repeat (first | assumption | exact Below.refl _ _ | refine belowDN ?_ _ | refine Below.drew ?_ | refine Below.setCell ?_ (by first | omega | (simp <;> omega)) _ | refine Below.alloc ?_ (by first | omega | (simp <;> omega)) _ | refine belowCall ?_ (by assumption)))⟩
    · by_cases h18 : 1 ≤ s.size - 1 ∧ s.size - 1 ≤ 18
      · exact l01Number_minus s w hz h18.1 h18.2 h0
      · have HN : NumPost s.data.toList (.tuple #[.int .i64 0, .bool false]) := by
          rw [min_tail s hp h0]
          exact num_no (m := true) (r := (s.extract 1 s.size).data.toList) (fun h => by cases h) (fun h => by rw [sizeL, ext_size] at h; omega)
        by_cases h1 : 1 ≤ s.size - 1
        · have h2 : ¬ s.size - 1 ≤ 18 := fun h => h18 ⟨h1, h⟩
          clear h18
          go_enter Tryd.func8, Tryd.ntmps8
          go_wp2
          exact bodyPost_ret (v := .tuple #[.int .i64 0, .bool false]) (by simp [results, Tryd.results8, go_sem]) rfl ⟨_, rfl, HN, by (repeat (first | assumption | exact Below.refl _ _ | refine belowDN ?_ _ | refine Below.drew ?_ | refine Below.setCell ?_ (by first | omega | (simp <;> omega)) _ | refine Below.alloc ?_ (by first | omega | (simp <;> omega)) _ | refine belowCall ?_ (by assumption)))⟩
        · clear h18
          go_enter Tryd.func8, Tryd.ntmps8
          go_wp2
          exact bodyPost_ret (v := .tuple #[.int .i64 0, .bool false]) (by simp [results, Tryd.results8, go_sem]) rfl ⟨_, rfl, HN, by (repeat (first | assumption | exact Below.refl _ _ | refine belowDN ?_ _ | refine Below.drew ?_ | refine Below.setCell ?_ (by first | omega | (simp <;> omega)) _ | refine Below.alloc ?_ (by first | omega | (simp <;> omega)) _ | refine belowCall ?_ (by assumption)))⟩
  · have he0 : s.toList = [] := by rw [ByteArray.toList_eq]; apply List.eq_nil_of_length_eq_zero; rw [sizeL]; omega
    have HN : NumPost s.data.toList (.tuple #[.int .i64 0, .bool false]) := by
      have : s.data.toList = [] := by rw [← ByteArray.toList_eq]; exact he0
      exact num_no (m := false) (r := s.data.toList) (fun _ => by rw [this]; simp) (fun h => by have := h.1; rw [sizeL] at this; omega)
    go_enter Tryd.func8, Tryd.ntmps8
    go_wp2
    exact bodyPost_ret (v := .tuple #[.int .i64 0, .bool false]) (by simp [results, Tryd.results8, go_sem]) rfl ⟨_, rfl, HN, by (repeat (first | assumption | exact Below.refl _ _ | refine belowDN ?_ _ | refine Below.drew ?_ | refine Below.setCell ?_ (by first | omega | (simp <;> omega)) _ | refine Below.alloc ?_ (by first | omega | (simp <;> omega)) _ | refine belowCall ?_ (by assumption)))⟩
/-! ### The program's -/
def Errs (w : World) : Prop := (∃ tp p, w.var? Tryd.prog "strconv.ErrSyntax" = some #[.iface tp p]) ∧ (∃ tp p, w.var? Tryd.prog "strconv.ErrRange" = some #[.iface tp p])
theorem syn_global : Tryd.prog.globalNamed "strconv.ErrSyntax" = some 1 := by kernel_rfl
theorem rng_global : Tryd.prog.globalNamed "strconv.ErrRange" = some 2 := by kernel_rfl
theorem Errs.mono {w w' : World} (h : Errs w) (hb : Below w.heap.size w w') : Errs w' := by
  obtain ⟨⟨t1, p1, h1⟩, t2, p2, h2⟩ := h
  exact ⟨⟨t1, p1, var_below syn_global h1 hb⟩, t2, p2, var_below rng_global h2 hb⟩
/-- strconv.ParseInt(s, 10, 64): the number and no error, or a number and an error -/
theorem parseInt_any (s : ByteArray) (w : World) (hs : s.size ≤ 281474976710656) (hE : Errs w) :
    Calls Tryd.prog 11 #[.string s, .int .i64 10, .int .i64 64] w fun e w' =>
      ((∃ v, Lib.parseIntB 64 s.data.toList = .ok v ∧ e = .returned (.tuple #[.int .i64 v, .nilIface])) ∨ ((∀ v, Lib.parseIntB 64 s.data.toList ≠ .ok v) ∧ ∃ n N, e = .returned (.tuple #[.int .i64 n, .iface 53 (.pointer (some ⟨N, 0, none⟩))]))) ∧ Below w.heap.size w w' := by
  obtain ⟨⟨t1, p1, h1⟩, t2, p2, h2⟩ := hE
  cases hp : Lib.parseIntB 64 s.data.toList with
  | ok v =>
    refine (Tryd.strconv_ParseInt_10_at64_ok s (by omega) v hp w).mono ?_
    rintro e w' ⟨rfl, hw⟩
    refine ⟨.inl ⟨v, rfl, rfl⟩, ?_⟩
    rcases hw with rfl | ⟨t, rfl⟩
    · exact Below.refl _ _
    · exact Lib.bytesWorld_below w _ t
  | «syntax» =>
    refine (Tryd.strconv_ParseInt_10_at64_syntax_var s hs hp t1 p1 w h1).mono ?_
    rintro e w' ⟨N, rfl, _, _, hb⟩
    exact ⟨.inr ⟨(fun v h => by cases h), _, N, rfl⟩, hb⟩
  | range =>
    refine (Tryd.strconv_ParseInt_10_at64_range_var s hs hp t2 p2 w h2).mono ?_
    rintro e w' ⟨N, rfl, _, _, hb⟩
    exact ⟨.inr ⟨(fun v h => by cases h), _, N, rfl⟩, hb⟩
end Go.Proofs.YtlfbfgdejoggpacDoor
