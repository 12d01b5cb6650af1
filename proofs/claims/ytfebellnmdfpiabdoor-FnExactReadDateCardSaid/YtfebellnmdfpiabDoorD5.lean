/- MagText and TimeText: the program's and the model's. -/
import Derived.Test.YtfebellnmdfpiabDoorD4
namespace Go.Proofs.YtfebellnmdfpiabDoor
open Go.ChangeShapes Go.WideShapes Go.ChangeAt Go.RowKit

theorem bld_new (w : World) : Bld w.heap.size w.heap.size [] (w.alloc (.cells #[.pointer none, .slice none 0 0] 40)) := Lib.fresh_isBuilder _ _ w
theorem itoa_small {n : Nat} (h : n < 100000) : (Lib.itoa (n : Int)).length ≤ 20 := itoa_len _ (by omega) (by omega)
def strV (l : List UInt8) : Value := .string ⟨l.toArray⟩
/-- the text of a magnitude, padded: as the program writes it -/
def magP (m : Int) : List UInt8 := if m < 0 then [45] ++ Lib.itoa (m.natAbs / 1000 : Nat) ++ [46] ++ padL (m.natAbs % 1000 : Nat) 3 else Lib.itoa (m.natAbs / 1000 : Nat) ++ [46] ++ padL (m.natAbs % 1000 : Nat) 3
theorem magP_is (m : Int) : magP m = magL m := by
  unfold magP magL
  rw [three_pad (Nat.mod_lt _ (by omega))]
  split <;> simp
def magV (m : Int) : Value := if magB m then strV (magP m) else strV []
theorem sMagText_any (m : Int) (w : World) :
    Calls Tryd.prog 20 #[.int .i64 m] w fun e w' => e = .returned (magV m) ∧ Below w.heap.size w w' := by
  cases h : magB m
  · have HD : Hid (magV m = strV []) := by rw [magV, h]; exact rfl
    go_enter Tryd.func20, Tryd.ntmps20
    go_wp2_with (go_at_call 45; refine (l02Mag_any _ _).mono ?_; rintro e w' ⟨rfl, rfl⟩)
    go_ret
    exact ⟨by rw [HD.out]; rfl, by (repeat (first | assumption | exact Below.refl _ _ | refine belowDN ?_ _ | refine Below.drew ?_ | refine Below.setCell ?_ (by first | omega | (simp <;> omega)) _ | refine Below.alloc ?_ (by first | omega | (simp <;> omega)) _ | refine belowCall ?_ (by assumption)))⟩
  · have HD : Hid (magV m = strV (magL m)) := by rw [magV, h, if_pos rfl, magP_is]; exact rfl
    obtain ⟨m1, m2⟩ := magB_iff.1 h
    go_enter Tryd.func20, Tryd.ntmps20
    go_wp2_with (go_at_call 45; refine (l02Mag_any _ _).mono ?_; rintro e w' ⟨rfl, rfl⟩)
    refine (l02Text_any m w (by omega) (by omega)).mono ?_
    rintro e w1 ⟨rfl, b1⟩
    go_wp2_with fail
    go_ret
    exact ⟨by rw [HD.out]; rfl, b1⟩
set_option maxRecDepth 100000 in
theorem iMagText_any (m : Int) (w : World) (hp : Pow w) :
    Calls Tryd.prog 21 #[.int .i64 m] w fun e w' => e = .returned (magV m) ∧ Below w.heap.size w w' := by
  cases h : magB m
  · have HD : Hid (magV m = strV []) := by rw [magV, h]; exact rfl
    go_enter Tryd.func21, Tryd.ntmps21
    go_wp2_with (go_at_call 47; refine (iValidMag_any _ _).mono ?_; rintro e w' ⟨rfl, rfl⟩)
    go_ret
    exact ⟨by rw [HD.out]; rfl, by (repeat (first | assumption | exact Below.refl _ _ | refine belowDN ?_ _ | refine Below.drew ?_ | refine Below.setCell ?_ (by first | omega | (simp <;> omega)) _ | refine Below.alloc ?_ (by first | omega | (simp <;> omega)) _ | refine belowCall ?_ (by assumption)))⟩
  obtain ⟨m1, m2⟩ := magB_iff.1 h
  have hg := pow_lt hp
  have hw0 : Below w.heap.size w (w.alloc (.cells #[.pointer none, .slice none 0 0] 40)) := by (repeat (first | assumption | exact Below.refl _ _ | refine belowDN ?_ _ | refine Below.drew ?_ | refine Below.setCell ?_ (by first | omega | (simp <;> omega)) _ | refine Below.alloc ?_ (by first | omega | (simp <;> omega)) _ | refine belowCall ?_ (by assumption)))
  have hb0 := bld_new w
  by_cases hneg : m < 0
  · obtain ⟨u, rfl⟩ : ∃ u : Nat, m = -(u : Int) := ⟨m.natAbs, by omega⟩
    have HD := Lib.hid (show magV (-(u : Int)) = strV (45 :: (Lib.itoa ((u : Int) / 1000) ++ 46 :: padL ((u : Int) % 1000) 3)) by
      rw [magV, h, if_pos rfl, magP, if_pos hneg, Int.natAbs_neg, Int.natAbs_natCast]; simp)
    have hu : u ≤ 2000 := by omega
    have l1 := itoa_len ((u : Int) / 1000) (by omega) (by omega)
    go_enter Tryd.func21, Tryd.ntmps21
    go_wp2_with (go_at_call 47; refine (iValidMag_any _ _).mono ?_; rintro e w' ⟨rfl, rfl⟩)
    generalize w.alloc (.cells #[.pointer none, .slice none 0 0] 40) = w0 at hw0 hb0 ⊢
    refine (bwByte w.heap.size w.heap.size [] 45 45 w0 rfl hb0 (by simp)).mono ?_
    rintro e w1 ⟨rfl, hb1, b1⟩
    go_wp2_with fail
    refine (iDecimal_any ((u : Int) / 1000) w1 (by omega) (by omega) (powB hp hg (hw0.trans b1))).mono ?_
    rintro e w2 ⟨rfl, b2⟩
    have hb2 := hb1.below b2
    have c2 := hw0.trans (b1.trans (b2.mono (by have := hb1.lt; omega)))
    go_wp2_with fail
    refine (bwString w.heap.size w.heap.size ([] ++ [45]) (Lib.itoa ((u : Int) / 1000)) w2 hb2 (by simp; omega)).mono ?_
    rintro e w3 ⟨rfl, hb3, b3⟩
    go_wp2_with fail
    refine (bwByte w.heap.size w.heap.size _ 46 46 w3 rfl hb3 (by simp; omega)).mono ?_
    rintro e w4 ⟨rfl, hb4, b4⟩
    go_wp2_with fail
    refine (writePadded_any w.heap.size w.heap.size _ ((u : Int) % 1000) 3 w4 hb4 (powB hp hg (c2.trans (b3.trans b4))) (by omega) (by omega) (by omega) (by simp; omega)).mono ?_
    rintro e w5 ⟨rfl, hb5, b5⟩
    go_wp2_with fail
    refine (bwDone w.heap.size w.heap.size _ w5 hb5).mono ?_
    rintro e w6 ⟨rfl, b6⟩
    go_wp2_with fail
    go_ret
    exact ⟨by rw [HD.out]; rfl, c2.trans (b3.trans (b4.trans (b5.trans b6)))⟩
  · obtain ⟨u, rfl⟩ : ∃ u : Nat, m = (u : Int) := ⟨m.natAbs, by omega⟩
    have HD := Lib.hid (show magV (u : Int) = strV (Lib.itoa ((u : Int) / 1000) ++ 46 :: padL ((u : Int) % 1000) 3) by
      rw [magV, h, if_pos rfl, magP, if_neg hneg, Int.natAbs_natCast]; simp)
    have hu : u ≤ 20000 := by omega
    have l1 := itoa_len ((u : Int) / 1000) (by omega) (by omega)
    go_enter Tryd.func21, Tryd.ntmps21
    go_wp2_with (go_at_call 47; refine (iValidMag_any _ _).mono ?_; rintro e w' ⟨rfl, rfl⟩)
    generalize w.alloc (.cells #[.pointer none, .slice none 0 0] 40) = w0 at hw0 hb0 ⊢
    refine (iDecimal_any ((u : Int) / 1000) w0 (by omega) (by omega) (powB hp hg hw0)).mono ?_
    rintro e w2 ⟨rfl, b2⟩
    have hb2 := hb0.below b2
    have c2 := hw0.trans (b2.mono (by have := hb0.lt; omega))
    go_wp2_with fail
    refine (bwString w.heap.size w.heap.size [] (Lib.itoa ((u : Int) / 1000)) w2 hb2 (by simp; omega)).mono ?_
    rintro e w3 ⟨rfl, hb3, b3⟩
    go_wp2_with fail
    refine (bwByte w.heap.size w.heap.size _ 46 46 w3 rfl hb3 (by simp; omega)).mono ?_
    rintro e w4 ⟨rfl, hb4, b4⟩
    go_wp2_with fail
    refine (writePadded_any w.heap.size w.heap.size _ ((u : Int) % 1000) 3 w4 hb4 (powB hp hg (c2.trans (b3.trans b4))) (by omega) (by omega) (by omega) (by simp; omega)).mono ?_
    rintro e w5 ⟨rfl, hb5, b5⟩
    go_wp2_with fail
    refine (bwDone w.heap.size w.heap.size _ w5 hb5).mono ?_
    rintro e w6 ⟨rfl, b6⟩
    go_wp2_with fail
    go_ret
    exact ⟨by rw [HD.out]; rfl, c2.trans (b3.trans (b4.trans (b5.trans b6)))⟩
/-- the text of a time -/
def timP (t : Int) : List UInt8 := Lib.itoa (t / 10000) ++ 46 :: padL (t % 10000) 4
def timV (t : Int) : Value := if timB t then strV (timP t) else strV []
theorem l03Two_any (n : Int) (w : World) (h1 : 0 ≤ n) (h2 : n ≤ 99) :
    Calls Tryd.prog 51 #[.int .i64 n] w fun e w' => e = .returned (.string ⟨(twoV n).toArray⟩) ∧ Below w.heap.size w w' := by
  have l1 := itoa_len (n / 10) (by omega) (by omega)
  have l2 := itoa_len (n % 10) (by omega) (by omega)
  have hv : Hid ((⟨(Lib.itoa (n / 10)).toArray⟩ : ByteArray) ++ (⟨(Lib.itoa (n % 10)).toArray⟩ : ByteArray) = ⟨(twoV n).toArray⟩) := cat_bytes _ _
  go_enter Tryd.func51, Tryd.ntmps51
  go_wp2_with fail
  refine (l01Dec_any _ _ (by omega) (by omega)).mono ?_
  rintro e w1 ⟨rfl, b1⟩
  go_wp2_with fail
  refine (l01Dec_any _ _ (by omega) (by omega)).mono ?_
  rintro e w2 ⟨rfl, b2⟩
  generalize Lib.itoa (n / 10) = A at l1 hv ⊢
  generalize Lib.itoa (n % 10) = B at l2 hv ⊢
  have s1 : ¬ 9223372036854775807 < A.length + B.length := by omega
  go_wp2
  go_ret
  exact ⟨by rw [← hv.out]; rfl, belowCall b1 b2⟩
theorem two_len (n : Int) (h1 : 0 ≤ n) (h2 : n ≤ 99) : (twoV n).length = 2 := by
  obtain ⟨u, rfl⟩ := Int.eq_ofNat_of_zero_le h1
  rw [two_is (by omega)]; rfl
theorem l03Four_any (n : Int) (w : World) (h1 : 0 ≤ n) (h2 : n ≤ 9999) :
    Calls Tryd.prog 37 #[.int .i64 n] w fun e w' => e = .returned (.string ⟨(fourV n).toArray⟩) ∧ Below w.heap.size w w' := by
  have l1 := two_len (n / 100 % 100) (by omega) (by omega)
  have l2 := two_len (n % 100) (by omega) (by omega)
  have hv : Hid ((⟨(twoV (n / 100 % 100)).toArray⟩ : ByteArray) ++ (⟨(twoV (n % 100)).toArray⟩ : ByteArray) = ⟨(fourV n).toArray⟩) := cat_bytes _ _
  go_enter Tryd.func37, Tryd.ntmps37
  go_wp2_with fail
  refine (l03Two_any _ _ (by omega) (by omega)).mono ?_
  rintro e w1 ⟨rfl, b1⟩
  go_wp2_with fail
  refine (l03Two_any _ _ (by omega) (by omega)).mono ?_
  rintro e w2 ⟨rfl, b2⟩
  generalize twoV (n / 100 % 100) = A at l1 hv ⊢
  generalize twoV (n % 100) = B at l2 hv ⊢
  have s1 : ¬ 9223372036854775807 < A.length + B.length := by omega
  go_wp2
  go_ret
  exact ⟨by rw [← hv.out]; rfl, belowCall b1 b2⟩
theorem sTimeText_any (t : Int) (w : World) :
    Calls Tryd.prog 16 #[.int .i64 t] w fun e w' => e = .returned (timV t) ∧ Below w.heap.size w w' := by
  cases h : timB t
  · have HD : Hid (timV t = strV []) := by rw [timV, h]; exact rfl
    go_enter Tryd.func16, Tryd.ntmps16
    go_wp2_with (go_at_call 35; refine (l03Time_any _ _).mono ?_; rintro e w' ⟨rfl, rfl⟩)
    go_ret
    exact ⟨by rw [HD.out]; rfl, by (repeat (first | assumption | exact Below.refl _ _ | refine belowDN ?_ _ | refine Below.drew ?_ | refine Below.setCell ?_ (by first | omega | (simp <;> omega)) _ | refine Below.alloc ?_ (by first | omega | (simp <;> omega)) _ | refine belowCall ?_ (by assumption)))⟩
  · obtain ⟨t1, t2⟩ := timB_iff.1 h
    obtain ⟨u, rfl⟩ := Int.eq_ofNat_of_zero_le t1
    have l1 := itoa_len ((u : Int) / 10000) (by omega) (by omega)
    have l2 : (fourV ((u : Int) % 10000)).length ≤ 4 := by
      rw [show (u : Int) % 10000 = ((u % 10000 : Nat) : Int) from by omega, four_pad (Nat.mod_lt _ (by omega)), pad4 (Nat.mod_lt _ (by omega))]; exact Nat.le_refl 4
    have HD := Lib.hid (show (((⟨(Lib.itoa ((u : Int) / 10000)).toArray⟩ : ByteArray) ++ (⟨#[46]⟩ : ByteArray)) ++ (⟨(fourV ((u : Int) % 10000)).toArray⟩ : ByteArray)) = ⟨(timP u).toArray⟩ by
      rw [show (⟨#[46]⟩ : ByteArray) = ⟨([46] : List UInt8).toArray⟩ from rfl, cat_bytes, cat_bytes, timP, show (u : Int) % 10000 = ((u % 10000 : Nat) : Int) from by omega, four_pad (Nat.mod_lt _ (by omega))]; simp)
    have HV : Hid (timV (u : Int) = strV (timP u)) := by rw [timV, h]; exact rfl
    go_enter Tryd.func16, Tryd.ntmps16
    go_wp2_with (go_at_call 35; refine (l03Time_any _ _).mono ?_; rintro e w' ⟨rfl, rfl⟩)
    refine (l01Dec_any _ _ (by omega) (by omega)).mono ?_
    rintro e w1 ⟨rfl, b1⟩
    go_wp2_with fail
    refine (l03Four_any _ _ (by omega) (by omega)).mono ?_
    rintro e w2 ⟨rfl, b2⟩
    generalize Lib.itoa ((u : Int) / 10000) = A at l1 HD ⊢
    generalize fourV ((u : Int) % 10000) = C at l2 HD ⊢
    have s1 : ¬ 9223372036854775807 < A.length + 1 := by omega
    have s2 : ¬ 9223372036854775807 < A.length + 1 + C.length := by omega
    go_wp2
    go_ret
    exact ⟨by rw [HV.out, strV, ← HD.out]; rfl, belowCall b1 b2⟩
set_option maxRecDepth 100000 in
theorem iTimeText_any (t : Int) (w : World) (hp : Pow w) :
    Calls Tryd.prog 17 #[.int .i64 t] w fun e w' => e = .returned (timV t) ∧ Below w.heap.size w w' := by
  cases h : timB t
  · have HD : Hid (timV t = strV []) := by rw [timV, h]; exact rfl
    go_enter Tryd.func17, Tryd.ntmps17
    go_wp2_with (go_at_call 38; refine (iValidTime_any _ _).mono ?_; rintro e w' ⟨rfl, rfl⟩)
    go_ret
    exact ⟨by rw [HD.out]; rfl, by (repeat (first | assumption | exact Below.refl _ _ | refine belowDN ?_ _ | refine Below.drew ?_ | refine Below.setCell ?_ (by first | omega | (simp <;> omega)) _ | refine Below.alloc ?_ (by first | omega | (simp <;> omega)) _ | refine belowCall ?_ (by assumption)))⟩
  obtain ⟨t1, t2⟩ := timB_iff.1 h
  have hg := pow_lt hp
  have hw0 : Below w.heap.size w (w.alloc (.cells #[.pointer none, .slice none 0 0] 40)) := by (repeat (first | assumption | exact Below.refl _ _ | refine belowDN ?_ _ | refine Below.drew ?_ | refine Below.setCell ?_ (by first | omega | (simp <;> omega)) _ | refine Below.alloc ?_ (by first | omega | (simp <;> omega)) _ | refine belowCall ?_ (by assumption)))
  have hb0 := bld_new w
  have HD : Hid (timV t = strV (Lib.itoa (t / 10000) ++ 46 :: padL (t % 10000) 4)) := by rw [timV, h]; exact rfl
  have l1 := itoa_len (t / 10000) (by omega) (by omega)
  go_enter Tryd.func17, Tryd.ntmps17
  go_wp2_with (go_at_call 38; refine (iValidTime_any _ _).mono ?_; rintro e w' ⟨rfl, rfl⟩)
  generalize w.alloc (.cells #[.pointer none, .slice none 0 0] 40) = w0 at hw0 hb0 ⊢
  refine (iDecimal_any (t / 10000) w0 (by omega) (by omega) (powB hp hg hw0)).mono ?_
  rintro e w2 ⟨rfl, b2⟩
  have hb2 := hb0.below b2
  have c2 := hw0.trans (b2.mono (by have := hb0.lt; omega))
  go_wp2_with fail
  refine (bwString w.heap.size w.heap.size [] (Lib.itoa (t / 10000)) w2 hb2 (by simp; omega)).mono ?_
  rintro e w3 ⟨rfl, hb3, b3⟩
  go_wp2_with fail
  refine (bwByte w.heap.size w.heap.size _ 46 46 w3 rfl hb3 (by simp; omega)).mono ?_
  rintro e w4 ⟨rfl, hb4, b4⟩
  go_wp2_with fail
  refine (writePadded_any w.heap.size w.heap.size _ (t % 10000) 4 w4 hb4 (powB hp hg (c2.trans (b3.trans b4))) (by omega) (by omega) (by omega) (by simp; omega)).mono ?_
  rintro e w5 ⟨rfl, hb5, b5⟩
  go_wp2_with fail
  refine (bwDone w.heap.size w.heap.size _ w5 hb5).mono ?_
  rintro e w6 ⟨rfl, b6⟩
  go_wp2_with fail
  go_ret
  exact ⟨by rw [HD.out]; rfl, c2.trans (b3.trans (b4.trans (b5.trans b6)))⟩
end Go.Proofs.YtfebellnmdfpiabDoor
