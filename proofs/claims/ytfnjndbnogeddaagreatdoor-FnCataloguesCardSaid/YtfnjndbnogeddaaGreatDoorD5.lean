/- MagText and TimeText: the program's and the model's. -/
import Derived.Test.YtfnjndbnogeddaaGreatDoorD4
namespace Go.Proofs.YtfnjndbnogeddaaGreatDoor
open Go.ChangeShapes Go.WideShapes Go.ChangeAt Go.RowKit

theorem bld_new (w : World) : Bld w.heap.size w.heap.size [] (w.alloc (.cells #[.pointer none, .slice none 0 0] 73)) := Lib.fresh_isBuilder _ _ w
theorem itoa_small {n : Nat} (h : n < 100000) : (Lib.itoa (n : Int)).length ≤ 20 := itoa_len _ (by omega) (by omega)
def strV (l : List UInt8) : Value := .string ⟨l.toArray⟩
/-- the text of a magnitude, padded: as the program writes it -/
def magP (m : Int) : List UInt8 := if m < 0 then [45] ++ Lib.itoa (m.natAbs / 1000 : Nat) ++ [46] ++ padL (m.natAbs % 1000 : Nat) 3 else Lib.itoa (m.natAbs / 1000 : Nat) ++ [46] ++ padL (m.natAbs % 1000 : Nat) 3
theorem magP_is (m : Int) : magP m = magL m := by
  unfold magP magL
  rw [three_pad (Nat.mod_lt _ (by omega))]
  split <;> simp
def magV (m : Int) : Value := if magB m then strV (magP m) else strV []
set_option maxRecDepth 100000 in
theorem iMagText_any (m : Int) (w : World) (hp : Pow w) :
    Calls Tryz.prog 23 #[.int .i64 m] w fun e w' => e = .returned (magV m) ∧ Below w.heap.size w w' := by
  cases h : magB m
  · have HD : Hid (magV m = strV []) := by rw [magV, h]; exact rfl
    go_enter Tryz.func23, Tryz.ntmps23
    go_wp2_with (go_at_call 24; refine (iValidMag_any _ _).mono ?_; rintro e w' ⟨rfl, rfl⟩)
    go_ret
    exact ⟨by rw [HD.out]; rfl, by (repeat (first | assumption | exact Below.refl _ _ | refine belowDN ?_ _ | refine Below.drew ?_ | refine Below.setCell ?_ (by first | omega | (simp <;> omega)) _ | refine Below.alloc ?_ (by first | omega | (simp <;> omega)) _ | refine belowCall ?_ (by assumption)))⟩
  obtain ⟨m1, m2⟩ := magB_iff.1 h
  have hg := pow_lt hp
  have hw0 : Below w.heap.size w (w.alloc (.cells #[.pointer none, .slice none 0 0] 73)) := by (repeat (first | assumption | exact Below.refl _ _ | refine belowDN ?_ _ | refine Below.drew ?_ | refine Below.setCell ?_ (by first | omega | (simp <;> omega)) _ | refine Below.alloc ?_ (by first | omega | (simp <;> omega)) _ | refine belowCall ?_ (by assumption)))
  have hb0 := bld_new w
  by_cases hneg : m < 0
  · obtain ⟨u, rfl⟩ : ∃ u : Nat, m = -(u : Int) := ⟨m.natAbs, by omega⟩
    have HD := Lib.hid (show magV (-(u : Int)) = strV (45 :: (Lib.itoa ((u : Int) / 1000) ++ 46 :: padL ((u : Int) % 1000) 3)) by
      rw [magV, h, if_pos rfl, magP, if_pos hneg, Int.natAbs_neg, Int.natAbs_natCast]; simp)
    have hu : u ≤ 2000 := by omega
    have l1 := itoa_len ((u : Int) / 1000) (by omega) (by omega)
    go_enter Tryz.func23, Tryz.ntmps23
    go_wp2_with (go_at_call 24; refine (iValidMag_any _ _).mono ?_; rintro e w' ⟨rfl, rfl⟩)
    generalize w.alloc (.cells #[.pointer none, .slice none 0 0] 73) = w0 at hw0 hb0 ⊢
    refine (bwByte w.heap.size w.heap.size [] 45 45 w0 rfl hb0 (by simp)).mono ?_
    rintro e w1 ⟨rfl, hb1, b1⟩
    go_wp2_with fail
    refine (iDecimal_any ((u : Int) / 1000) w1 (by omega) (by omega) (powB hp hg (hw0.trans b1))).mono ?_
    rintro e w2 ⟨rfl, b2⟩
    have hb2 := hb1.below b2
    have c2 := hw0.trans (b1.trans (b2.mono (by have := hb1.lt; omega)))
    go_wp2_with fail
    refine (bwString w.heap.size w.heap.size ([] ++ [45]) (Lib.itoa ((u : Int) / 1000)) w2 hb2 (by simp; omega)).mono ?_
    rintro e w3 ⟨rfl, hb3, b3⟩
    go_wp2_with fail
    refine (bwByte w.heap.size w.heap.size _ 46 46 w3 rfl hb3 (by simp; omega)).mono ?_
    rintro e w4 ⟨rfl, hb4, b4⟩
    go_wp2_with fail
    refine (writePadded_any w.heap.size w.heap.size _ ((u : Int) % 1000) 3 w4 hb4 (powB hp hg (c2.trans (b3.trans b4))) (by omega) (by omega) (by omega) (by simp; omega)).mono ?_
    rintro e w5 ⟨rfl, hb5, b5⟩
    go_wp2_with fail
    refine (bwDone w.heap.size w.heap.size _ w5 hb5).mono ?_
    rintro e w6 ⟨rfl, b6⟩
    go_wp2_with fail
    go_ret
    exact ⟨by rw [HD.out]; rfl, c2.trans (b3.trans (b4.trans (b5.trans b6)))⟩
  · obtain ⟨u, rfl⟩ : ∃ u : Nat, m = (u : Int) := ⟨m.natAbs, by omega⟩
    have HD := Lib.hid (show magV (u : Int) = strV (Lib.itoa ((u : Int) / 1000) ++ 46 :: padL ((u : Int) % 1000) 3) by
      rw [magV, h, if_pos rfl, magP, if_neg hneg, Int.natAbs_natCast]; simp)
    have hu : u ≤ 20000 := by omega
    have l1 := itoa_len ((u : Int) / 1000) (by omega) (by omega)
    go_enter Tryz.func23, Tryz.ntmps23
    go_wp2_with (go_at_call 24; refine (iValidMag_any _ _).mono ?_; rintro e w' ⟨rfl, rfl⟩)
    generalize w.alloc (.cells #[.pointer none, .slice none 0 0] 73) = w0 at hw0 hb0 ⊢
    refine (iDecimal_any ((u : Int) / 1000) w0 (by omega) (by omega) (powB hp hg hw0)).mono ?_
    rintro e w2 ⟨rfl, b2⟩
    have hb2 := hb0.below b2
    have c2 := hw0.trans (b2.mono (by have := hb0.lt; omega))
    go_wp2_with fail
    refine (bwString w.heap.size w.heap.size [] (Lib.itoa ((u : Int) / 1000)) w2 hb2 (by simp; omega)).mono ?_
    rintro e w3 ⟨rfl, hb3, b3⟩
    go_wp2_with fail
    refine (bwByte w.heap.size w.heap.size _ 46 46 w3 rfl hb3 (by simp; omega)).mono ?_
    rintro e w4 ⟨rfl, hb4, b4⟩
    go_wp2_with fail
    refine (writePadded_any w.heap.size w.heap.size _ ((u : Int) % 1000) 3 w4 hb4 (powB hp hg (c2.trans (b3.trans b4))) (by omega) (by omega) (by omega) (by simp; omega)).mono ?_
    rintro e w5 ⟨rfl, hb5, b5⟩
    go_wp2_with fail
    refine (bwDone w.heap.size w.heap.size _ w5 hb5).mono ?_
    rintro e w6 ⟨rfl, b6⟩
    go_wp2_with fail
    go_ret
    exact ⟨by rw [HD.out]; rfl, c2.trans (b3.trans (b4.trans (b5.trans b6)))⟩
/-- the text of a time -/
def timP (t : Int) : List UInt8 := Lib.itoa (t / 10000) ++ 46 :: padL (t % 10000) 4
def timV (t : Int) : Value := if timB t then strV (timP t) else strV []
end Go.Proofs.YtfnjndbnogeddaaGreatDoor
