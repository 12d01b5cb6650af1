/- ObserverText, both sides. -/
import Derived.Test.YtlfbfgdejoggpabDoorO1
import Derived.Test.YtlfbfgdejoggpabDoorD2
import Derived.Test.YtlfbfgdejoggpabDoorD3
import Derived.Deep.RegionHeld3
namespace Go.Proofs.YtlfbfgdejoggpabDoor
open Go.ChangeShapes Go.WideShapes Go.ChangeAt Go.RowKit Go.Deep

/-- an observer's text -/
def obP (x : Ob) : List UInt8 := x.1.data.toList ++ (if x.2 < 0 then 32 :: Lib.itoa x.2 else 32 :: 43 :: Lib.itoa x.2)
def obtV (x : Ob) : Value := if obB x then .string ⟨(obP x).toArray⟩ else .string ⟨#[]⟩
theorem obtV_form (x : Ob) : ∃ s, obtV x = .string s := by unfold obtV; split <;> exact ⟨_, rfl⟩
theorem obtV_no {x : Ob} (h : obB x = false) : obtV x = .string ⟨#[]⟩ := by simp [obtV, h]
theorem ba_of (s : ByteArray) : s = ⟨s.data.toList.toArray⟩ := by cases s; simp
theorem obt_neg {x0 : ByteArray} {x1 : Int} (h : obB (x0, x1) = true) (hd : x1 < 0) : obtV (x0, x1) = .string (x0 ++ ⟨#[32]⟩ ++ ⟨(Lib.itoa x1).toArray⟩) := by
  rw [obtV, if_pos h]
  congr 1
  apply ByteArray.ext
  simp [obP, hd]
theorem obt_pos {x0 : ByteArray} {x1 : Int} (h : obB (x0, x1) = true) (hd : ¬ x1 < 0) : obtV (x0, x1) = .string (x0 ++ ⟨#[32, 43]⟩ ++ ⟨(Lib.itoa x1).toArray⟩) := by
  rw [obtV, if_pos h]
  congr 1
  apply ByteArray.ext
  simp [obP, hd]
theorem obt_posI {x0 : ByteArray} {x1 : Int} (h : obB (x0, x1) = true) (hd : ¬ x1 < 0) : obtV (x0, x1) = .string (x0 ++ ⟨#[32]⟩ ++ (⟨#[43]⟩ ++ ⟨(Lib.itoa x1).toArray⟩)) := by
  rw [obtV, if_pos h]
  congr 1
  apply ByteArray.ext
  simp [obP, hd]
def obT5 (x0 : ByteArray) (x1 : Int) : ByteArray := x0 ++ ⟨(if x1 < 0 then [32] else [32, 43]).toArray⟩ ++ ⟨(Lib.itoa x1).toArray⟩
theorem obT5_neg {x0 : ByteArray} {x1 : Int} (h : x1 < 0) : obT5 x0 x1 = x0 ++ ⟨#[32]⟩ ++ ⟨(Lib.itoa x1).toArray⟩ := by rw [obT5, if_pos h]
theorem obT5_pos {x0 : ByteArray} {x1 : Int} (h : ¬ x1 < 0) : obT5 x0 x1 = x0 ++ ⟨#[32, 43]⟩ ++ ⟨(Lib.itoa x1).toArray⟩ := by rw [obT5, if_neg h]
theorem ob_sz {x0 : ByteArray} {x1 : Int} (h : obB (x0, x1) = true) : x0.size ≤ 12 ∧ -2000 ≤ x1 ∧ x1 ≤ 2000 := by
  simp only [obB, Bool.and_eq_true] at h
  obtain ⟨h1, h2⟩ := h
  simp only [nameB, Bool.and_eq_true, decide_eq_true_eq] at h1
  exact ⟨by omega, inB_iff.1 h2⟩
set_option maxHeartbeats 1000000 in
theorem iObt_any (x0 : ByteArray) (x1 : Int) (w : World) (hp : Pow w) :
    Calls Tryd.prog 7 #[.agg #[.string x0, .int .i64 x1]] w fun e w' => e = .returned (obtV (x0, x1)) ∧ Below w.heap.size w w' := by
  have B1 : Below w.heap.size w (w.alloc (.cells #[.string x0, .int .i64 x1] 26)) := (Below.refl _ w).alloc (Nat.le_refl _) _
  have hbx := ObC.fresh w 26 x0 x1
  cases hok : obB (x0, x1)
  · have HV := Lib.hid (obtV_no hok)
    go_enter Tryd.func7, Tryd.ntmps7
    go_wp2_with fail
    refine (obValid_any x0 x1 _).mono ?_
    rintro e w2 ⟨rfl, b2⟩
    rw [hok]
    go_wp2
    go_ret
    exact ⟨by rw [HV.out]; rfl, belowCall B1 b2⟩
  obtain ⟨h0, h1, h2⟩ := ob_sz hok
  have hil := itoa_len x1 (by omega) (by omega)
  by_cases hd : x1 < 0
  · have HV := Lib.hid (obt_neg hok hd)
    go_enter Tryd.func7, Tryd.ntmps7
    go_wp2_with fail
    refine (obValid_any x0 x1 _).mono ?_
    rintro e w2 ⟨rfl, b2⟩
    rw [hok]
    have hbx2 := hbx.mono b2
    obtain ⟨-, q0, q1⟩ := hbx2.parts
    rw [Nat.zero_add] at q1
    go_wp2_with fail
    refine (iDecimal_any x1 w2 (by omega) (by omega) ((hp.mono B1).mono b2)).mono ?_
    rintro e w3 ⟨rfl, b3⟩
    obtain ⟨-, r0, r1⟩ := (hbx2.mono b3).parts
    rw [Nat.zero_add] at r1
    clear q0 q1
    have HL : Hid ((Lib.itoa x1).length ≤ 20) := Lib.hid hil
    have hs : (⟨(Lib.itoa x1).toArray⟩ : ByteArray).size ≤ 20 := hil
    generalize (⟨(Lib.itoa x1).toArray⟩ : ByteArray) = s at hs HV ⊢
    have hcat : ¬ 9223372036854775807 < x0.size + 1 := by omega
    have hcat2 : ¬ 9223372036854775807 < x0.size + 1 + s.size := by omega
    clear hil HL
    go_wp2
    go_ret
    exact ⟨by rw [HV.out]; rfl, belowCall (belowCall B1 b2) b3⟩
  · have HV := Lib.hid (obt_posI hok hd)
    go_enter Tryd.func7, Tryd.ntmps7
    go_wp2_with fail
    refine (obValid_any x0 x1 _).mono ?_
    rintro e w2 ⟨rfl, b2⟩
    rw [hok]
    have hbx2 := hbx.mono b2
    obtain ⟨-, q0, q1⟩ := hbx2.parts
    rw [Nat.zero_add] at q1
    go_wp2_with fail
    refine (iDecimal_any x1 w2 (by omega) (by omega) ((hp.mono B1).mono b2)).mono ?_
    rintro e w3 ⟨rfl, b3⟩
    obtain ⟨-, r0, r1⟩ := (hbx2.mono b3).parts
    rw [Nat.zero_add] at r1
    clear q0 q1
    have hs : (⟨(Lib.itoa x1).toArray⟩ : ByteArray).size ≤ 20 := hil
    generalize (⟨(Lib.itoa x1).toArray⟩ : ByteArray) = s at hs HV ⊢
    have hcat : ¬ 9223372036854775807 < x0.size + 1 := by omega
    have hcat2 : ¬ 9223372036854775807 < 1 + s.size := by omega
    have hcat3 : ¬ 9223372036854775807 < x0.size + 1 + (1 + s.size) := by omega
    clear hil
    go_wp2
    go_ret
    exact ⟨by rw [HV.out]; rfl, belowCall (belowCall B1 b2) b3⟩
set_option maxHeartbeats 1000000 in
theorem l05Text_any (b o : Nat) (x0 : ByteArray) (x1 : Int) (w : World) (hS : ObC w b o (x0, x1)) (h0 : x0.size ≤ 1048576) (h1 : -9223372036854775808 ≤ x1) (h2 : x1 ≤ 9223372036854775807) :
    Calls Tryd.prog 9 #[.pointer (some ⟨b, o, none⟩)] w fun e w' => e = .returned (.string (obT5 x0 x1)) ∧ Below w.heap.size w w' := by
  obtain ⟨hlt, c0, c1⟩ := hS.parts
  have hil := itoa_len x1 h1 h2
  have hs : (⟨(Lib.itoa x1).toArray⟩ : ByteArray).size ≤ 20 := hil
  have hcat : ¬ 9223372036854775807 < x0.size + 1 := by omega
  have hcat' : ¬ 9223372036854775807 < x0.size + 2 := by omega
  have hcat2 : ¬ 9223372036854775807 < x0.size + 1 + (⟨(Lib.itoa x1).toArray⟩ : ByteArray).size := by omega
  have hcat3 : ¬ 9223372036854775807 < x0.size + 2 + (⟨(Lib.itoa x1).toArray⟩ : ByteArray).size := by omega
  have HD : ∀ W, Calls Tryd.prog 14 #[.int .i64 x1] W fun e w' => e = .returned (.string ⟨(Lib.itoa x1).toArray⟩) ∧ Below W.heap.size W w' := fun W => l01Dec_any x1 W h1 h2
  have HV : Hid (obT5 x0 x1 = x0 ++ ⟨(if x1 < 0 then [32] else [32, 43]).toArray⟩ ++ ⟨(Lib.itoa x1).toArray⟩) := Lib.hid rfl
  clear hil
  generalize (⟨(Lib.itoa x1).toArray⟩ : ByteArray) = s at hs hcat2 hcat3 HD HV
  by_cases hd : x1 < 0
  all_goals
    go_enter Tryd.func9, Tryd.ntmps9
    go_wp2_with fail
    go_region_held3 (fun W' => W'.cell? ⟨b, o, none⟩ = some (.string x0) ∧ W'.cell? ⟨b, o + 1, none⟩ = some (.int .i64 x1)) (refine ⟨?_, ?_⟩ <;> first | assumption | exact ((show Below w.heap.size w _ by (repeat (first | assumption | exact Below.refl _ _ | refine belowDN ?_ _ | refine Below.drew ?_ | refine Below.setCell ?_ (by first | omega | (simp <;> omega)) _ | refine Below.alloc ?_ (by first | omega | (simp <;> omega)) _ | refine belowCall ?_ (by assumption)))).cell (p := ⟨b, o, none⟩) hlt).trans c0 | exact ((show Below w.heap.size w _ by (repeat (first | assumption | exact Below.refl _ _ | refine belowDN ?_ _ | refine Below.drew ?_ | refine Below.setCell ?_ (by first | omega | (simp <;> omega)) _ | refine Below.alloc ?_ (by first | omega | (simp <;> omega)) _ | refine belowCall ?_ (by assumption)))).cell (p := ⟨b, o + 1, none⟩) hlt).trans c1) (first | (go_at_call 14; refine (HD _).mono ?_; rintro e w2 ⟨rfl, hbel⟩))
    all_goals
      go_wp2
      go_ret
      exact ⟨by rw [HV.out]; simp [hd], by (repeat (first | assumption | exact Below.refl _ _ | refine belowDN ?_ _ | refine Below.drew ?_ | refine Below.setCell ?_ (by first | omega | (simp <;> omega)) _ | refine Below.alloc ?_ (by first | omega | (simp <;> omega)) _ | refine belowCall ?_ (by assumption)))⟩
set_option maxHeartbeats 1000000 in
theorem sObt_any (x0 : ByteArray) (x1 : Int) (w : World) :
    Calls Tryd.prog 5 #[.agg #[.string x0, .int .i64 x1]] w fun e w' => e = .returned (obtV (x0, x1)) ∧ Below w.heap.size w w' := by
  have B1 : Below w.heap.size w (w.alloc (.cells #[.string x0, .int .i64 x1] 26)) := (Below.refl _ w).alloc (Nat.le_refl _) _
  have hbx := ObC.fresh w 26 x0 x1
  cases hok : obB (x0, x1)
  · have HV := Lib.hid (obtV_no hok)
    go_enter Tryd.func5, Tryd.ntmps5
    go_wp2_with fail
    refine (l05One_below _ _ x0 x1 _ hbx).mono ?_
    rintro e w2 ⟨rfl, b2⟩
    rw [hok]
    go_wp2
    go_ret
    exact ⟨by rw [HV.out]; rfl, belowCall B1 b2⟩
  obtain ⟨h0, h1, h2⟩ := ob_sz hok
  have HV : Hid (obtV (x0, x1) = .string (obT5 x0 x1)) := Lib.hid (by
    by_cases hd : x1 < 0
    · rw [obt_neg hok hd, obT5_neg hd]
    · rw [obt_pos hok hd, obT5_pos hd])
  go_enter Tryd.func5, Tryd.ntmps5
  go_wp2_with fail
  refine (l05One_below _ _ x0 x1 _ hbx).mono ?_
  rintro e w2 ⟨rfl, b2⟩
  rw [hok]
  go_wp2_with fail
  refine (l05Text_any _ _ x0 x1 _ (hbx.mono b2) (by omega) (by omega) (by omega)).mono ?_
  rintro e w3 ⟨rfl, b3⟩
  go_wp2
  go_ret
  exact ⟨by rw [HV.out]; rfl, belowCall (belowCall B1 b2) b3⟩
end Go.Proofs.YtlfbfgdejoggpabDoor
