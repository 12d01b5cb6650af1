/- DateText: the program's and the model's. -/
import Derived.Test.YtfebellnmdfpiabDoorD5
import Derived.Test.YtfebellnmdfpiabDoorT6
namespace Go.Proofs.YtfebellnmdfpiabDoor
open Go.ChangeShapes Go.WideShapes Go.ChangeAt Go.RowKit

/-- the text of a date, padded: as the program writes it -/
def dateP (y m d : Int) : List UInt8 := padL y 4 ++ 45 :: (padL m 2 ++ 45 :: padL d 2)
def dateL (y m d : Int) : List UInt8 := Lib.itoa y ++ [45] ++ twoV m ++ [45] ++ twoV d
theorem dateL_is {y m d : Int} (h1 : 1000 ≤ y) (h2 : y ≤ 9999) (h3 : 0 ≤ m) (h4 : m ≤ 99) (h5 : 0 ≤ d) (h6 : d ≤ 99) : dateL y m d = dateP y m d := by
  obtain ⟨y, rfl⟩ := Int.eq_ofNat_of_zero_le (show 0 ≤ y by omega)
  obtain ⟨m, rfl⟩ := Int.eq_ofNat_of_zero_le h3
  obtain ⟨d, rfl⟩ := Int.eq_ofNat_of_zero_le h5
  unfold dateL dateP
  rw [year_pad (by omega) (by omega), two_pad (by omega), two_pad (by omega)]
  simp
def dtxtV (y m d : Int) : Value := if vdB y m d then strV (dateP y m d) else strV []
theorem dtxtV_form (y m d : Int) : ∃ s, dtxtV y m d = .string s := by
  unfold dtxtV strV; split <;> exact ⟨_, rfl⟩
theorem l03Text_any (y m d : Int) (w : World) (h1 : 1000 ≤ y) (h2 : y ≤ 9999) (h3 : 0 ≤ m) (h4 : m ≤ 99) (h5 : 0 ≤ d) (h6 : d ≤ 99) :
    Calls Tryd.prog 27 #[.agg #[.int .i64 y, .int .i64 m, .int .i64 d]] w fun e w' => e = .returned (.string ⟨(dateP y m d).toArray⟩) ∧ Below w.heap.size w w' := by
  have l1 := itoa_len y (by omega) (by omega)
  have l2 := Nat.le_of_eq (two_len m h3 h4)
  have l3 := Nat.le_of_eq (two_len d h5 h6)
  have HD := Lib.hid (show (((((⟨(Lib.itoa y).toArray⟩ : ByteArray) ++ (⟨#[45]⟩ : ByteArray)) ++ (⟨(twoV m).toArray⟩ : ByteArray)) ++ (⟨#[45]⟩ : ByteArray)) ++ (⟨(twoV d).toArray⟩ : ByteArray)) = ⟨(dateP y m d).toArray⟩ by
    rw [show (⟨#[45]⟩ : ByteArray) = ⟨([45] : List UInt8).toArray⟩ from rfl, cat_bytes, cat_bytes, cat_bytes, cat_bytes, ← dateL_is h1 h2 h3 h4 h5 h6]; rfl)
  go_enter Tryd.func27, Tryd.ntmps27
  go_wp2
  have s1 : ¬ 9223372036854775807 < (Lib.itoa y).length + 1 := by omega
  have s2 : ¬ 9223372036854775807 < (Lib.itoa y).length + 1 + (twoV m).length := by omega
  have s3 : ¬ 9223372036854775807 < (Lib.itoa y).length + 1 + (twoV m).length + 1 := by omega
  have s4 : ¬ 9223372036854775807 < (Lib.itoa y).length + 1 + (twoV m).length + 1 + (twoV d).length := by omega
  go_region_held3 (fun w' => Below w.heap.size w w' ∧ w.heap.size < w'.heap.size ∧ w'.cell? ⟨w.heap.size, 0, none⟩ = some (.int .i64 y) ∧ w'.cell? ⟨w.heap.size, 1, none⟩ = some (.int .i64 m) ∧ w'.cell? ⟨w.heap.size, 2, none⟩ = some (.int .i64 d)) ((refine ⟨by (repeat (first | assumption | exact Below.refl _ _ | refine belowDN ?_ _ | refine Below.drew ?_ | refine Below.setCell ?_ (by first | omega | (simp <;> omega)) _ | refine Below.alloc ?_ (by first | omega | (simp <;> omega)) _ | refine belowCall ?_ (by assumption))), by (first | assumption | omega | (simp; done) | (simp; omega)), ?_, ?_, ?_⟩ <;> go_keep)) (first | (go_at_call 36; refine (l01Dec_any _ _ (by omega) (by omega)).mono ?_; rintro e w2 ⟨rfl, hbel⟩; obtain ⟨hc, hf⟩ := bcell hbel; have hz := hbel.size; (try simp at hz)) | (go_at_call 51; refine (l03Two_any _ _ (by omega) (by omega)).mono ?_; rintro e w2 ⟨rfl, hbel⟩; obtain ⟨hc, hf⟩ := bcell hbel; have hz := hbel.size; (try simp at hz)))
  all_goals go_wp2
  all_goals go_ret
  all_goals exact ⟨by rw [← HD.out]; rfl, by (repeat (first | assumption | exact Below.refl _ _ | refine belowDN ?_ _ | refine Below.drew ?_ | refine Below.setCell ?_ (by first | omega | (simp <;> omega)) _ | refine Below.alloc ?_ (by first | omega | (simp <;> omega)) _ | refine belowCall ?_ (by assumption)))⟩
theorem vd_bounds {y m d : Int} (h : vdB y m d = true) : 2001 ≤ y ∧ y ≤ 2274 ∧ 1 ≤ m ∧ m ≤ 12 ∧ 1 ≤ d ∧ d ≤ 31 := by
  obtain ⟨_, k, rfl, ⟨h1, h2, h3, h4, h5⟩, h6, h7, h8, h9⟩ := vdB_parts h
  omega
theorem sDateText_any (y m d : Int) (w : World) :
    Calls Tryd.prog 10 #[.agg #[.int .i64 y, .int .i64 m, .int .i64 d]] w fun e w' => e = .returned (dtxtV y m d) ∧ Below w.heap.size w w' := by
  cases hv : vdB y m d
  · have HD : Hid (dtxtV y m d = strV []) := by rw [dtxtV, hv]; exact rfl
    go_enter Tryd.func10, Tryd.ntmps10
    go_wp2_with (go_at_call 26; refine (sValidDate_any _ _ _ _).mono ?_; rintro e w' ⟨rfl, hbel⟩; obtain ⟨hc, hf⟩ := bcell hbel; have hz := hbel.size; (try simp at hz); (try simp only [Nat.add_one_le_iff] at hz); (try (have hzw : w.heap.size < w'.heap.size := by omega)))
    go_ret
    exact ⟨by rw [HD.out]; rfl, by (repeat (first | assumption | exact Below.refl _ _ | refine belowDN ?_ _ | refine Below.drew ?_ | refine Below.setCell ?_ (by first | omega | (simp <;> omega)) _ | refine Below.alloc ?_ (by first | omega | (simp <;> omega)) _ | refine belowCall ?_ (by assumption)))⟩
  · have HD : Hid (dtxtV y m d = strV (dateP y m d)) := by rw [dtxtV, hv]; exact rfl
    obtain ⟨h1, h2, h3, h4, h5, h6⟩ := vd_bounds hv
    go_enter Tryd.func10, Tryd.ntmps10
    go_wp2_with (first | (go_at_call 26; refine (sValidDate_any _ _ _ _).mono ?_; rintro e w' ⟨rfl, hbel⟩; obtain ⟨hc, hf⟩ := bcell hbel; have hz := hbel.size; (try simp at hz); (try simp only [Nat.add_one_le_iff] at hz); (try (have hzw : w.heap.size < w'.heap.size := by omega))) | (go_at_call 27; refine (l03Text_any _ _ _ _ (by omega) (by omega) (by omega) (by omega) (by omega) (by omega)).mono ?_; rintro e w2 ⟨rfl, hbel2⟩))
    go_ret
    exact ⟨by rw [HD.out]; rfl, by (repeat (first | assumption | exact Below.refl _ _ | refine belowDN ?_ _ | refine Below.drew ?_ | refine Below.setCell ?_ (by first | omega | (simp <;> omega)) _ | refine Below.alloc ?_ (by first | omega | (simp <;> omega)) _ | refine belowCall ?_ (by assumption)))⟩
set_option maxRecDepth 100000 in
theorem iDateText_any (y m d : Int) (w : World) (hM : Mon w) (hwf : (Lit.int .i64 d).wf = true) (hp : Pow w) :
    Calls Tryd.prog 12 #[.agg #[.int .i64 y, .int .i64 m, .int .i64 d]] w fun e w' => e = .returned (dtxtV y m d) ∧ Below w.heap.size w w' := by
  cases hv : vdB y m d
  · have HD : Hid (dtxtV y m d = strV []) := by rw [dtxtV, hv]; exact rfl
    go_enter Tryd.func12, Tryd.ntmps12
    go_wp2_with (go_at_call 28; refine (iValidDate_any _ _ _ _ (hM.mono (by (repeat (first | assumption | exact Below.refl _ _ | refine belowDN ?_ _ | refine Below.drew ?_ | refine Below.setCell ?_ (by first | omega | (simp <;> omega)) _ | refine Below.alloc ?_ (by first | omega | (simp <;> omega)) _ | refine belowCall ?_ (by assumption))))) hwf).mono ?_; rintro e w' ⟨rfl, hbel⟩; obtain ⟨hc, hf⟩ := bcell hbel; have hz := hbel.size; (try simp at hz); (try simp only [Nat.add_one_le_iff] at hz); (try (have hzw : w.heap.size < w'.heap.size := by omega)))
    go_ret
    exact ⟨by rw [HD.out]; rfl, by (repeat (first | assumption | exact Below.refl _ _ | refine belowDN ?_ _ | refine Below.drew ?_ | refine Below.setCell ?_ (by first | omega | (simp <;> omega)) _ | refine Below.alloc ?_ (by first | omega | (simp <;> omega)) _ | refine belowCall ?_ (by assumption)))⟩
  have HD := Lib.hid (show dtxtV y m d = strV (padL y 4 ++ 45 :: (padL m 2 ++ 45 :: padL d 2)) by rw [dtxtV, hv]; rfl)
  obtain ⟨h1, h2, h3, h4, h5, h6⟩ := vd_bounds hv
  go_enter Tryd.func12, Tryd.ntmps12
  go_wp2_with fail
  refine (iValidDate_any _ _ _ _ (hM.mono (by (repeat (first | assumption | exact Below.refl _ _ | refine belowDN ?_ _ | refine Below.drew ?_ | refine Below.setCell ?_ (by first | omega | (simp <;> omega)) _ | refine Below.alloc ?_ (by first | omega | (simp <;> omega)) _ | refine belowCall ?_ (by assumption))))) hwf).mono ?_
  rintro e w1 ⟨rfl, hb1⟩
  have hz1 := hb1.size
  simp at hz1
  obtain ⟨hc1, hf1⟩ := bcell hb1
  have k0 : w1.cell? ⟨w.heap.size, 0, none⟩ = some (.int .i64 y) := (by rw [hc1 _ _ (by simp)]; go_keep)
  have k1 : w1.cell? ⟨w.heap.size, 1, none⟩ = some (.int .i64 m) := (by rw [hc1 _ _ (by simp)]; go_keep)
  have k2 : w1.cell? ⟨w.heap.size, 2, none⟩ = some (.int .i64 d) := (by rw [hc1 _ _ (by simp)]; go_keep)
  have hw1 : Below w.heap.size w w1 := by (repeat (first | assumption | exact Below.refl _ _ | refine belowDN ?_ _ | refine Below.drew ?_ | refine Below.setCell ?_ (by first | omega | (simp <;> omega)) _ | refine Below.alloc ?_ (by first | omega | (simp <;> omega)) _ | refine belowCall ?_ (by assumption)))
  have hp1 : Pow w1 := hp.mono hw1
  have hg := pow_lt hp1
  have hw0 : Below w1.heap.size w1 (w1.alloc (.cells #[.pointer none, .slice none 0 0] 40)) := by (repeat (first | assumption | exact Below.refl _ _ | refine belowDN ?_ _ | refine Below.drew ?_ | refine Below.setCell ?_ (by first | omega | (simp <;> omega)) _ | refine Below.alloc ?_ (by first | omega | (simp <;> omega)) _ | refine belowCall ?_ (by assumption)))
  have hb0 := bld_new w1
  have hne : w1.heap.size ≠ w.heap.size := by omega
  have hlt : w.heap.size < w1.heap.size := by omega
  clear hc1 hf1 hb1
  go_wp2_with fail
  generalize w1.alloc (.cells #[.pointer none, .slice none 0 0] 40) = v0 at hw0 hb0 ⊢
  refine (writePadded_any w1.heap.size w1.heap.size [] y 4 v0 hb0 (powB hp1 hg hw0) (by omega) (by omega) (by omega) (by simp)).mono ?_
  rintro e v1 ⟨rfl, g1, b1⟩
  have c1 := hw0.trans b1
  have q1 := (c1.cell (p := ⟨w.heap.size, 1, none⟩) hlt).trans k1
  go_wp2_with fail
  refine (bwByte w1.heap.size w1.heap.size _ 45 45 v1 rfl g1 (by have l1 := itoa_len y (by omega) (by omega); simp [padL]; omega)).mono ?_
  rintro e v2 ⟨rfl, g2, b2⟩
  have c2 := c1.trans b2
  have q2 := (c2.cell (p := ⟨w.heap.size, 1, none⟩) hlt).trans k1
  go_wp2_with fail
  refine (writePadded_any w1.heap.size w1.heap.size _ m 2 v2 g2 (powB hp1 hg c2) (by omega) (by omega) (by omega) (by have l1 := itoa_len y (by omega) (by omega); simp [padL]; omega)).mono ?_
  rintro e v3 ⟨rfl, g3, b3⟩
  have c3 := c2.trans b3
  go_wp2_with fail
  refine (bwByte w1.heap.size w1.heap.size _ 45 45 v3 rfl g3 (by have l1 := itoa_len y (by omega) (by omega); have l2 := itoa_len m (by omega) (by omega); simp [padL]; omega)).mono ?_
  rintro e v4 ⟨rfl, g4, b4⟩
  have c4 := c3.trans b4
  have q4 := (c4.cell (p := ⟨w.heap.size, 2, none⟩) hlt).trans k2
  go_wp2_with fail
  refine (writePadded_any w1.heap.size w1.heap.size _ d 2 v4 g4 (powB hp1 hg c4) (by omega) (by omega) (by omega) (by have l1 := itoa_len y (by omega) (by omega); have l2 := itoa_len m (by omega) (by omega); simp [padL]; omega)).mono ?_
  rintro e v5 ⟨rfl, g5, b5⟩
  go_wp2_with fail
  refine (bwDone w1.heap.size w1.heap.size _ v5 g5).mono ?_
  rintro e v6 ⟨rfl, b6⟩
  go_wp2_with fail
  go_ret
  exact ⟨by rw [HD.out]; rfl, belowCall hw1 (c4.trans (b5.trans b6))⟩
end Go.Proofs.YtfebellnmdfpiabDoor
