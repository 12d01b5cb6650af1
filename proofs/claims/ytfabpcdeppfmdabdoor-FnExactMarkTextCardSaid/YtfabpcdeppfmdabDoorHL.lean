/- Labels: their texts and their boxes, both sides; the table of directions. -/
import Derived.Test.YtfabpcdeppfmdabDoorH7
import Derived.Test.YtfabpcdeppfmdabDoorD2
import Derived.Test.YtfabpcdeppfmdabDoorD3
import Derived.LaidSub
namespace Go.Proofs.YtfabpcdeppfmdabDoor
open Go.ChangeShapes Go.WideShapes Go.ChangeAt Go.RowKit Go.Deep

theorem pow_laid {W : World} (h : laidMetH Tryd.prog [("internal/strconv.uint64pow10", Lib.tabData .u64 Lib.pow10Tab)] W) : Pow W :=
  Lib.tabIs_of_head (rest := []) pow_global pow_type Tryd.underlying115 Tryd.underlying107 (by kernel_rfl) (by kernel_rfl) h
/-- the label of a magnitude -/
def labB (m : Int) : ByteArray := ⟨(Lib.itoa (rnd m 100)).toArray⟩
theorem labB_len {m : Int} (h1 : -2000 ≤ m) (h2 : m ≤ 20000) : (labB m).size ≤ 20 := by
  have hr : -20 ≤ rnd m 100 ∧ rnd m 100 ≤ 201 := by unfold rnd; omega
  have := itoa_len (rnd m 100) (by omega) (by omega)
  show (Lib.itoa (rnd m 100)).toArray.size ≤ 20
  simpa using this
def labS (m : Int) : ByteArray := if magB m then labB m else ⟨#[]⟩
theorem labS_yes {m : Int} (h : magB m = true) : labS m = labB m := by simp [labS, h]
theorem labS_no {m : Int} (h : magB m = false) : labS m = ⟨#[]⟩ := by simp [labS, h]
theorem sLabel_any (m : Int) (w : World) (h1 : -2000 ≤ m) (h2 : m ≤ 20000) :
    Calls Tryd.prog 20 #[.int .i64 m] w fun e w' => e = .returned (.string (labB m)) ∧ Below w.heap.size w w' := by
  have hr : -20 ≤ rnd m 100 ∧ rnd m 100 ≤ 201 := by unfold rnd; omega
  have HB : Hid ((⟨(Lib.itoa (rnd m 100)).toArray⟩ : ByteArray) = labB m) := Lib.hid rfl
  go_enter Tryd.func20, Tryd.ntmps20
  go_wp2_with (go_at_call 42; refine (l02Round_any _ _ _ (by omega) (by omega) (by omega) (by omega)).mono ?_; rintro e w' ⟨rfl, rfl⟩)
  refine (l01Dec_any (rnd m 100) _ (by omega) (by omega)).mono ?_
  rintro e w2 ⟨rfl, b2⟩
  rw [HB.out]
  go_wp2
  go_ret
  exact ⟨rfl, b2⟩
theorem iLabelOf_any (m : Int) (w : World) (hp : Pow w) :
    Calls Tryd.prog 23 #[.int .i64 m] w fun e w' => e = .returned (.string (labS m)) ∧ Below w.heap.size w w' := by
  cases hm : magB m
  · have HV := Lib.hid (labS_no hm)
    go_enter Tryd.func23, Tryd.ntmps23
    go_wp2_with (go_at_call 44; refine (iValidMag_any _ _).mono ?_; rintro e w' ⟨rfl, rfl⟩)
    go_ret
    exact ⟨by rw [HV.out]; rfl, Below.refl _ _⟩
  · have HV := Lib.hid (labS_yes hm)
    obtain ⟨h1, h2⟩ := magB_iff.1 hm
    have hr : -20 ≤ rnd m 100 ∧ rnd m 100 ≤ 201 := by unfold rnd; omega
    have HB : Hid ((⟨(Lib.itoa (rnd m 100)).toArray⟩ : ByteArray) = labB m) := Lib.hid rfl
    go_enter Tryd.func23, Tryd.ntmps23
    go_wp2_with (go_at_call 44; refine (iValidMag_any _ _).mono ?_; rintro e w' ⟨rfl, rfl⟩)
    refine (nearest_any m 100 _ (by omega) (by omega) (by omega) (by omega)).mono ?_
    rintro e w2 ⟨rfl, b2⟩
    go_wp2_with fail
    refine (iDecimal_any (rnd m 100) w2 (by omega) (by omega) (hp.mono b2)).mono ?_
    rintro e w3 ⟨rfl, b3⟩
    rw [HB.out]
    go_wp2
    go_ret
    exact ⟨by rw [HV.out]; rfl, belowCall b2 b3⟩
/-- the box of a mark's label on a side -/
def bxQ (x : Mk) (s : Int) : Q4 :=
  if s = 0 then (x.1 + 4, x.2.1 - 4, x.1 + 4 + 6 * ((labB x.2.2).size : Int), x.2.1 + 4)
  else if s = 1 then (x.1 - 4 - 6 * ((labB x.2.2).size : Int), x.2.1 - 4, x.1 - 4, x.2.1 + 4)
  else if s = 2 then (x.1 - 3 * ((labB x.2.2).size : Int), x.2.1 + 4, x.1 + 3 * ((labB x.2.2).size : Int), x.2.1 + 12)
  else (x.1 - 3 * ((labB x.2.2).size : Int), x.2.1 - 12, x.1 + 3 * ((labB x.2.2).size : Int), x.2.1 - 4)
theorem bx_0 (x0 x1 x2 : Int) : bxQ (x0, x1, x2) 0 = (x0 + 4, x1 - 4, x0 + 4 + 6 * ((labB x2).size : Int), x1 + 4) := rfl
theorem bx_1 (x0 x1 x2 : Int) : bxQ (x0, x1, x2) 1 = (x0 - 4 - 6 * ((labB x2).size : Int), x1 - 4, x0 - 4, x1 + 4) := rfl
theorem bx_2 (x0 x1 x2 : Int) : bxQ (x0, x1, x2) 2 = (x0 - 3 * ((labB x2).size : Int), x1 + 4, x0 + 3 * ((labB x2).size : Int), x1 + 12) := rfl
theorem bx_3 (x0 x1 x2 : Int) : bxQ (x0, x1, x2) 3 = (x0 - 3 * ((labB x2).size : Int), x1 - 12, x0 + 3 * ((labB x2).size : Int), x1 - 4) := rfl
end Go.Proofs.YtfabpcdeppfmdabDoor
