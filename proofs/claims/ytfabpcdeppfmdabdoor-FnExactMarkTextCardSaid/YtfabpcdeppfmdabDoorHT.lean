/- MarkText, both sides. -/
import Derived.Test.YtfabpcdeppfmdabDoorHL
import Derived.Deep.RegionHeld3
namespace Go.Proofs.YtfabpcdeppfmdabDoor
open Go.ChangeShapes Go.WideShapes Go.ChangeAt Go.RowKit Go.Deep

def decS (n : Int) : ByteArray := ⟨(Lib.itoa n).toArray⟩
theorem decS_len {n : Int} (h1 : 0 ≤ n) (h2 : n ≤ 2000) : (decS n).size ≤ 20 := by
  have := itoa_len n (by omega) (by omega)
  show (Lib.itoa n).toArray.size ≤ 20
  simpa using this
/-- the text of a mark -/
def mktS (x : Mk) : ByteArray := if mrkB x then (((decS x.1 ++ ⟨#[44]⟩) ++ decS x.2.1) ++ ⟨#[32]⟩) ++ labB x.2.2 else ⟨#[]⟩
theorem mkt_no {x : Mk} (h : mrkB x = false) : mktS x = ⟨#[]⟩ := by simp [mktS, h]
theorem mkt_yes {x0 x1 x2 : Int} (h : mrkB (x0, x1, x2) = true) : mktS (x0, x1, x2) = (((decS x0 ++ ⟨#[44]⟩) ++ decS x1) ++ ⟨#[32]⟩) ++ labB x2 := by simp [mktS, h]
set_option maxRecDepth 100000 in
set_option maxHeartbeats 4000000 in
theorem sMarkText_any (x0 x1 x2 : Int) (w : World) :
    Calls Tryd.prog 6 #[.agg #[.int .i64 x0, .int .i64 x1, .int .i64 x2]] w fun e w' => e = .returned (.string (mktS (x0, x1, x2))) ∧ Below w.heap.size w w' := by
  have hbx := MkC.fresh w 25 x0 x1 x2
  have hb1 : Below w.heap.size w (w.alloc (.cells #[.int .i64 x0, .int .i64 x1, .int .i64 x2] 25)) := (Below.refl _ w).alloc (Nat.le_refl _) _
  cases hv : mrkB (x0, x1, x2)
  · have HV := Lib.hid (mkt_no hv)
    go_enter Tryd.func6, Tryd.ntmps6
    go_wp2_with fail
    refine (l07One_any x0 x1 x2 _).mono ?_
    rintro e w2 ⟨rfl, b2⟩
    rw [hv]
    go_wp2
    go_ret
    exact ⟨by rw [HV.out]; rfl, belowCall hb1 b2⟩
  have HV := Lib.hid (mkt_yes hv)
  obtain ⟨⟨m1, m2⟩, ⟨m3, m4⟩, m5, m6⟩ := mrkB_bd hv
  have hsx := decS_len m1 m2
  have hsy := decS_len m3 m4
  have hsl := labB_len m5 m6
  have HDD : ∀ W n, 0 ≤ n → n ≤ 2000 → Calls Tryd.prog 19 #[.int .i64 n] W fun e w' => e = .returned (.string (decS n)) ∧ Below W.heap.size W w' := fun W n h1 h2 => l01Dec_any n W (by omega) (by omega)
  have HDL : ∀ W, Calls Tryd.prog 20 #[.int .i64 x2] W fun e w' => e = .returned (.string (labB x2)) ∧ Below W.heap.size W w' := fun W => sLabel_any x2 W m5 m6
  go_enter Tryd.func6, Tryd.ntmps6
  go_wp2_with fail
  refine (l07One_any x0 x1 x2 _).mono ?_
  rintro e w2 ⟨rfl, b2⟩
  rw [hv]
  (obtain ⟨hlt, k0, k1, k2⟩ := (hbx.mono b2).parts; rw [Nat.zero_add] at k1 k2; have hb2 := belowCall hb1 b2)
  (obtain ⟨sx, hex⟩ : ∃ s, decS x0 = s := ⟨_, rfl⟩; obtain ⟨sy, hey⟩ : ∃ s, decS x1 = s := ⟨_, rfl⟩; rw [hex] at hsx HV; rw [hey] at hsy HV; have HEX := Lib.hid hex; have HEY := Lib.hid hey; clear hex hey; generalize labB x2 = sl at hsl HV HDL; have s1 : ¬ 9223372036854775807 < sx.size + 1 := (by omega); have s2 : ¬ 9223372036854775807 < sx.size + 1 + sy.size := (by omega); have s3 : ¬ 9223372036854775807 < sx.size + 1 + sy.size + 1 := (by omega); have s4 : ¬ 9223372036854775807 < sx.size + 1 + sy.size + 1 + sl.size := (by omega))
  clear hv
  go_wp2_with fail
  go_region_held3 (fun W' => W'.cell? ⟨w.heap.size, 0, none⟩ = some (.int .i64 x0) ∧ W'.cell? ⟨w.heap.size, 1, none⟩ = some (.int .i64 x1) ∧ W'.cell? ⟨w.heap.size, 2, none⟩ = some (.int .i64 x2)) (refine ⟨?_, ?_, ?_⟩ <;> first | assumption | exact ((show Below w2.heap.size w2 _ by (repeat (first | assumption | exact Below.refl _ _ | refine belowDN ?_ _ | refine Below.drew ?_ | refine Below.setCell ?_ (by first | omega | (simp <;> omega)) _ | refine Below.alloc ?_ (by first | omega | (simp <;> omega)) _ | refine belowCall ?_ (by assumption)))).cell (p := ⟨w.heap.size, 0, none⟩) hlt).trans k0 | exact ((show Below w2.heap.size w2 _ by (repeat (first | assumption | exact Below.refl _ _ | refine belowDN ?_ _ | refine Below.drew ?_ | refine Below.setCell ?_ (by first | omega | (simp <;> omega)) _ | refine Below.alloc ?_ (by first | omega | (simp <;> omega)) _ | refine belowCall ?_ (by assumption)))).cell (p := ⟨w.heap.size, 1, none⟩) hlt).trans k1 | exact ((show Below w2.heap.size w2 _ by (repeat (first | assumption | exact Below.refl _ _ | refine belowDN ?_ _ | refine Below.drew ?_ | refine Below.setCell ?_ (by first | omega | (simp <;> omega)) _ | refine Below.alloc ?_ (by first | omega | (simp <;> omega)) _ | refine belowCall ?_ (by assumption)))).cell (p := ⟨w.heap.size, 2, none⟩) hlt).trans k2) (first | (go_at_call 19; refine (HDD _ _ (by omega) (by omega)).mono ?_; rintro e wA ⟨rfl, bA⟩; (first | rw [HEX.out] | rw [HEY.out])) | (go_at_call 20; refine (HDL _).mono ?_; rintro e wL ⟨rfl, bL⟩))
  all_goals
    go_wp2
    go_ret
    exact ⟨by rw [HV.out]; rfl, belowCall hb2 (by (repeat (first | assumption | exact Below.refl _ _ | refine belowDN ?_ _ | refine Below.drew ?_ | refine Below.setCell ?_ (by first | omega | (simp <;> omega)) _ | refine Below.alloc ?_ (by first | omega | (simp <;> omega)) _ | refine belowCall ?_ (by assumption))))⟩
set_option maxRecDepth 100000 in
set_option maxHeartbeats 4000000 in
theorem iMarkText_any (x0 x1 x2 : Int) (w : World) (hp : Pow w) :
    Calls Tryd.prog 8 #[.agg #[.int .i64 x0, .int .i64 x1, .int .i64 x2]] w fun e w' => e = .returned (.string (mktS (x0, x1, x2))) ∧ Below w.heap.size w w' := by
  have hbx := MkC.fresh w 25 x0 x1 x2
  have hb1 : Below w.heap.size w (w.alloc (.cells #[.int .i64 x0, .int .i64 x1, .int .i64 x2] 25)) := (Below.refl _ w).alloc (Nat.le_refl _) _
  cases hv : mrkB (x0, x1, x2)
  · have HV := Lib.hid (mkt_no hv)
    go_enter Tryd.func8, Tryd.ntmps8
    go_wp2_with fail
    refine (mkValid_any x0 x1 x2 _).mono ?_
    rintro e w2 ⟨rfl, b2⟩
    rw [hv]
    go_wp2
    go_ret
    exact ⟨by rw [HV.out]; rfl, belowCall hb1 b2⟩
  have HV := Lib.hid (mkt_yes hv)
  obtain ⟨⟨m1, m2⟩, ⟨m3, m4⟩, m5, m6⟩ := mrkB_bd hv
  have hsx := decS_len m1 m2
  have hsy := decS_len m3 m4
  have hsl := labB_len m5 m6
  have hlab := labS_yes (magB_iff.2 ⟨m5, m6⟩)
  go_enter Tryd.func8, Tryd.ntmps8
  go_wp2_with fail
  refine (mkValid_any x0 x1 x2 _).mono ?_
  rintro e w2 ⟨rfl, b2⟩
  rw [hv]
  (obtain ⟨hlt, k0, k1, k2⟩ := (hbx.mono b2).parts; rw [Nat.zero_add] at k1 k2; have hb2 := belowCall hb1 b2)
  have hp2 := hp.mono hb2
  have HDD : ∀ W n, 0 ≤ n → n ≤ 2000 → Below w2.heap.size w2 W → Calls Tryd.prog 22 #[.int .i64 n] W fun e w' => e = .returned (.string (decS n)) ∧ Below W.heap.size W w' := fun W n h1 h2 hW => iDecimal_any n W (by omega) (by omega) (hp2.mono hW)
  have HDL : ∀ W, Below w2.heap.size w2 W → Calls Tryd.prog 23 #[.int .i64 x2] W fun e w' => e = .returned (.string (labB x2)) ∧ Below W.heap.size W w' := fun W hW => by rw [← hlab]; exact iLabelOf_any x2 W (hp2.mono hW)
  (obtain ⟨sx, hex⟩ : ∃ s, decS x0 = s := ⟨_, rfl⟩; obtain ⟨sy, hey⟩ : ∃ s, decS x1 = s := ⟨_, rfl⟩; rw [hex] at hsx HV; rw [hey] at hsy HV; have HEX := Lib.hid hex; have HEY := Lib.hid hey; clear hex hey; generalize labB x2 = sl at hsl HV HDL; have s1 : ¬ 9223372036854775807 < sx.size + 1 := (by omega); have s2 : ¬ 9223372036854775807 < sx.size + 1 + sy.size := (by omega); have s3 : ¬ 9223372036854775807 < sx.size + 1 + sy.size + 1 := (by omega); have s4 : ¬ 9223372036854775807 < sx.size + 1 + sy.size + 1 + sl.size := (by omega))
  clear hv hlab hp hp2
  go_wp2_with fail
  go_region_held3 (fun W' => W'.cell? ⟨w.heap.size, 0, none⟩ = some (.int .i64 x0) ∧ W'.cell? ⟨w.heap.size, 1, none⟩ = some (.int .i64 x1) ∧ W'.cell? ⟨w.heap.size, 2, none⟩ = some (.int .i64 x2)) (refine ⟨?_, ?_, ?_⟩ <;> first | assumption | exact ((show Below w2.heap.size w2 _ by (repeat (first | assumption | exact Below.refl _ _ | refine belowDN ?_ _ | refine Below.drew ?_ | refine Below.setCell ?_ (by first | omega | (simp <;> omega)) _ | refine Below.alloc ?_ (by first | omega | (simp <;> omega)) _ | refine belowCall ?_ (by assumption)))).cell (p := ⟨w.heap.size, 0, none⟩) hlt).trans k0 | exact ((show Below w2.heap.size w2 _ by (repeat (first | assumption | exact Below.refl _ _ | refine belowDN ?_ _ | refine Below.drew ?_ | refine Below.setCell ?_ (by first | omega | (simp <;> omega)) _ | refine Below.alloc ?_ (by first | omega | (simp <;> omega)) _ | refine belowCall ?_ (by assumption)))).cell (p := ⟨w.heap.size, 1, none⟩) hlt).trans k1 | exact ((show Below w2.heap.size w2 _ by (repeat (first | assumption | exact Below.refl _ _ | refine belowDN ?_ _ | refine Below.drew ?_ | refine Below.setCell ?_ (by first | omega | (simp <;> omega)) _ | refine Below.alloc ?_ (by first | omega | (simp <;> omega)) _ | refine belowCall ?_ (by assumption)))).cell (p := ⟨w.heap.size, 2, none⟩) hlt).trans k2) (first | (go_at_call 22; refine (HDD _ _ (by omega) (by omega) (by (repeat (first | assumption | exact Below.refl _ _ | refine belowDN ?_ _ | refine Below.drew ?_ | refine Below.setCell ?_ (by first | omega | (simp <;> omega)) _ | refine Below.alloc ?_ (by first | omega | (simp <;> omega)) _ | refine belowCall ?_ (by assumption))))).mono ?_; rintro e wA ⟨rfl, bA⟩; (first | rw [HEX.out] | rw [HEY.out])) | (go_at_call 23; refine (HDL _ (by (repeat (first | assumption | exact Below.refl _ _ | refine belowDN ?_ _ | refine Below.drew ?_ | refine Below.setCell ?_ (by first | omega | (simp <;> omega)) _ | refine Below.alloc ?_ (by first | omega | (simp <;> omega)) _ | refine belowCall ?_ (by assumption))))).mono ?_; rintro e wL ⟨rfl, bL⟩))
  all_goals
    go_wp2
    go_ret
    exact ⟨by rw [HV.out]; rfl, belowCall hb2 (by (repeat (first | assumption | exact Below.refl _ _ | refine belowDN ?_ _ | refine Below.drew ?_ | refine Below.setCell ?_ (by first | omega | (simp <;> omega)) _ | refine Below.alloc ?_ (by first | omega | (simp <;> omega)) _ | refine belowCall ?_ (by assumption))))⟩
end Go.Proofs.YtfabpcdeppfmdabDoor
