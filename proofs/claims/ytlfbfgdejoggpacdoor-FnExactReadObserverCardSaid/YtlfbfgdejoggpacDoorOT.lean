/- ObserverText, both sides. -/
import Derived.Test.YtlfbfgdejoggpacDoorO1
import Derived.Test.YtlfbfgdejoggpacDoorD2
import Derived.Test.YtlfbfgdejoggpacDoorD3
import Derived.Deep.RegionHeld3
namespace Go.Proofs.YtlfbfgdejoggpacDoor
open Go.ChangeShapes Go.WideShapes Go.ChangeAt Go.RowKit Go.Deep

/-- an observer's text -/
def obP (x : Ob) : List UInt8 := x.1.data.toList ++ (if x.2 < 0 then 32 :: Lib.itoa x.2 else 32 :: 43 :: Lib.itoa x.2)
def obtV (x : Ob) : Value := if obB x then .string ⟨(obP x).toArray⟩ else .string ⟨#[]⟩
theorem obtV_form (x : Ob) : ∃ s, obtV x = .string s := by unfold obtV; split <;> exact ⟨_, rfl⟩
theorem obtV_no {x : Ob} (h : obB x = false) : obtV x = .string ⟨#[]⟩ := by simp [obtV, h]
theorem ba_of (s : ByteArray) : s = ⟨s.data.toList.toArray⟩ := by cases s; simp
theorem obt_neg {x0 : ByteArray} {x1 : Int} (h : obB (x0, x1) = true) (hd : x1 < 0) : obtV (x0, x1) = .string (x0 ++ ⟨#[32]⟩ ++ ⟨(Lib.itoa x1).toArray⟩) := by
  rw [obtV, if_pos h]
  congr 1
  apply ByteArray.ext
  simp [obP, hd]
theorem obt_pos {x0 : ByteArray} {x1 : Int} (h : obB (x0, x1) = true) (hd : ¬ x1 < 0) : obtV (x0, x1) = .string (x0 ++ ⟨#[32, 43]⟩ ++ ⟨(Lib.itoa x1).toArray⟩) := by
  rw [obtV, if_pos h]
  congr 1
  apply ByteArray.ext
  simp [obP, hd]
theorem obt_posI {x0 : ByteArray} {x1 : Int} (h : obB (x0, x1) = true) (hd : ¬ x1 < 0) : obtV (x0, x1) = .string (x0 ++ ⟨#[32]⟩ ++ (⟨#[43]⟩ ++ ⟨(Lib.itoa x1).toArray⟩)) := by
  rw [obtV, if_pos h]
  congr 1
  apply ByteArray.ext
  simp [obP, hd]
def obT5 (x0 : ByteArray) (x1 : Int) : ByteArray := x0 ++ ⟨(if x1 < 0 then [32] else [32, 43]).toArray⟩ ++ ⟨(Lib.itoa x1).toArray⟩
theorem obT5_neg {x0 : ByteArray} {x1 : Int} (h : x1 < 0) : obT5 x0 x1 = x0 ++ ⟨#[32]⟩ ++ ⟨(Lib.itoa x1).toArray⟩ := by rw [obT5, if_pos h]
theorem obT5_pos {x0 : ByteArray} {x1 : Int} (h : ¬ x1 < 0) : obT5 x0 x1 = x0 ++ ⟨#[32, 43]⟩ ++ ⟨(Lib.itoa x1).toArray⟩ := by rw [obT5, if_neg h]
theorem ob_sz {x0 : ByteArray} {x1 : Int} (h : obB (x0, x1) = true) : x0.size ≤ 12 ∧ -2000 ≤ x1 ∧ x1 ≤ 2000 := by
  simp only [obB, Bool.and_eq_true] at h
  obtain ⟨h1, h2⟩ := h
  simp only [nameB, Bool.and_eq_true, decide_eq_true_eq] at h1
  exact ⟨by omega, inB_iff.1 h2⟩
set_option maxHeartbeats 1000000 in
theorem iObt_any (x0 : ByteArray) (x1 : Int) (w : World) (hp : Pow w) :
    Calls Tryd.prog 12 #[.agg #[.string x0, .int .i64 x1]] w fun e w' => e = .returned (obtV (x0, x1)) ∧ Below w.heap.size w w' := by
  have B1 : Below w.heap.size w (w.alloc (.cells #[.string x0, .int .i64 x1] 23)) := (Below.refl _ w).alloc (Nat.le_refl _) _
  have hbx := ObC.fresh w 23 x0 x1
  cases hok : obB (x0, x1)
  · have HV := Lib.hid (obtV_no hok)
    go_enter Tryd.func12, Tryd.ntmps12
    go_wp2_with fail
    refine (obValid_any x0 x1 _).mono ?_
    rintro e w2 ⟨rfl, b2⟩
    rw [hok]
    go_wp2
    go_ret
    exact ⟨by rw [HV.out]; rfl, belowCall B1 b2⟩
  obtain ⟨h0, h1, h2⟩ := ob_sz hok
  have hil := itoa_len x1 (by omega) (by omega)
  by_cases hd : x1 < 0
  · have HV := Lib.hid (obt_neg hok hd)
    go_enter Tryd.func12, Tryd.ntmps12
    go_wp2_with fail
    refine (obValid_any x0 x1 _).mono ?_
    rintro e w2 ⟨rfl, b2⟩
    rw [hok]
    have hbx2 := hbx.mono b2
    obtain ⟨-, q0, q1⟩ := hbx2.parts
    rw [Nat.zero_add] at q1
    go_wp2_with fail
    refine (iDecimal_any x1 w2 (by omega) (by omega) ((hp.mono B1).mono b2)).mono ?_
    rintro e w3 ⟨rfl, b3⟩
    obtain ⟨-, r0, r1⟩ := (hbx2.mono b3).parts
    rw [Nat.zero_add] at r1
    clear q0 q1
    have HL : Hid ((Lib.itoa x1).length ≤ 20) := Lib.hid hil
    have hs : (⟨(Lib.itoa x1).toArray⟩ : ByteArray).size ≤ 20 := hil
    generalize (⟨(Lib.itoa x1).toArray⟩ : ByteArray) = s at hs HV ⊢
    have hcat : ¬ 9223372036854775807 < x0.size + 1 := by omega
    have hcat2 : ¬ 9223372036854775807 < x0.size + 1 + s.size := by omega
    clear hil HL
    go_wp2
    go_ret
    exact ⟨by rw [HV.out]; rfl, belowCall (belowCall B1 b2) b3⟩
  · have HV := Lib.hid (obt_posI hok hd)
    go_enter Tryd.func12, Tryd.ntmps12
    go_wp2_with fail
    refine (obValid_any x0 x1 _).mono ?_
    rintro e w2 ⟨rfl, b2⟩
    rw [hok]
    have hbx2 := hbx.mono b2
    obtain ⟨-, q0, q1⟩ := hbx2.parts
    rw [Nat.zero_add] at q1
    go_wp2_with fail
    refine (iDecimal_any x1 w2 (by omega) (by omega) ((hp.mono B1).mono b2)).mono ?_
    rintro e w3 ⟨rfl, b3⟩
    obtain ⟨-, r0, r1⟩ := (hbx2.mono b3).parts
    rw [Nat.zero_add] at r1
    clear q0 q1
    have hs : (⟨(Lib.itoa x1).toArray⟩ : ByteArray).size ≤ 20 := hil
    generalize (⟨(Lib.itoa x1).toArray⟩ : ByteArray) = s at hs HV ⊢
    have hcat : ¬ 9223372036854775807 < x0.size + 1 := by omega
    have hcat2 : ¬ 9223372036854775807 < 1 + s.size := by omega
    have hcat3 : ¬ 9223372036854775807 < x0.size + 1 + (1 + s.size) := by omega
    clear hil
    go_wp2
    go_ret
    exact ⟨by rw [HV.out]; rfl, belowCall (belowCall B1 b2) b3⟩
end Go.Proofs.YtlfbfgdejoggpacDoor
