/- PositionText, the program's (a strings.Builder) and the model's. -/
import Derived.Test.YtlbphdbcjhggjaaDoorD5
import Derived.Test.YtlbphdbcjhggjaaDoorST
import Derived.Test.YtlbphdbcjhggjaaDoorSQ
import Derived.Deep.RegionHeld3
namespace Go.Proofs.YtlbphdbcjhggjaaDoor
open Go.ChangeShapes Go.WideShapes Go.ChangeAt Go.RowKit

def sixL (n : Int) : List UInt8 := padL (n / 3600) 2 ++ 58 :: (padL (n / 60 % 60) 2 ++ 58 :: padL (n % 60) 2)
theorem pad_len2 {n : Int} (h1 : 0 ≤ n) (h2 : n ≤ 99) : (padL n 2).length = 2 := by
  obtain ⟨u, rfl⟩ := Int.eq_ofNat_of_zero_le h1
  rw [pad2 (by omega)]; rfl
theorem six_len {n : Int} (h1 : 0 ≤ n) (h2 : n ≤ 350000) : (sixL n).length = 8 := by
  unfold sixL
  simp [pad_len2 (show 0 ≤ n / 3600 by omega) (by omega), pad_len2 (show 0 ≤ n / 60 % 60 by omega) (by omega), pad_len2 (show 0 ≤ n % 60 by omega) (by omega)]
theorem two_padI {n : Int} (h1 : 0 ≤ n) (h2 : n ≤ 99) : twoV n = padL n 2 := by
  obtain ⟨u, rfl⟩ := Int.eq_ofNat_of_zero_le h1
  exact two_pad (by omega)
set_option maxRecDepth 100000 in
theorem writeSix_any (B b : Nat) (l : List UInt8) (n : Int) (w : World) (h : Bld B b l w) (hp : Pow w) (hpB : 1 < B) (h1 : 0 ≤ n) (h2 : n ≤ 350000) (hl : l.length ≤ 1000) :
    Calls Tryd.prog 35 #[.pointer (some ⟨b, 0, none⟩), .int .i64 n] w fun e w' => e = .returned (.tuple #[]) ∧ Bld B b (l ++ sixL n) w' ∧ Below B w w' := by
  have l1 := pad_len2 (show 0 ≤ n / 3600 by omega) (by omega)
  have l2 := pad_len2 (show 0 ≤ n / 60 % 60 by omega) (by omega)
  have td1 : n.tdiv 3600 = n / 3600 := Int.tdiv_eq_ediv_of_nonneg (by omega)
  have td2 : n.tdiv 60 = n / 60 := Int.tdiv_eq_ediv_of_nonneg (by omega)
  have tm1 : (n / 60).tmod 60 = n / 60 % 60 := Int.tmod_eq_emod_of_nonneg (by omega)
  have tm2 : n.tmod 60 = n % 60 := Int.tmod_eq_emod_of_nonneg (by omega)
  have b1 : 0 ≤ n / 3600 ∧ n / 3600 ≤ 97 := by omega
  have b2 : 0 ≤ n / 60 ∧ n / 60 ≤ 5833 := by omega
  have b3 : 0 ≤ n / 60 % 60 ∧ n / 60 % 60 ≤ 59 := by omega
  have b4 : 0 ≤ n % 60 ∧ n % 60 ≤ 59 := by omega
  obtain ⟨b11, b12⟩ := b1
  obtain ⟨b21, b22⟩ := b2
  obtain ⟨b31, b32⟩ := b3
  obtain ⟨b41, b42⟩ := b4
  have HV := Lib.hid (show l ++ sixL n = (((l ++ padL (n / 3600) 2) ++ [58]) ++ padL (n / 60 % 60) 2) ++ [58] ++ padL (n % 60) 2 by unfold sixL; simp)
  go_enter Tryd.func35, Tryd.ntmps35
  go_wp2_with fail
  refine (writePadded_any B b l (n / 3600) 2 w h hp (by omega) (by omega) (by omega) (by omega)).mono ?_
  rintro e w1 ⟨rfl, h1', c1⟩
  go_wp2_with fail
  refine (bwByte B b _ 58 58 w1 rfl h1' (by simp; omega)).mono ?_
  rintro e w2 ⟨rfl, h2', c2⟩
  go_wp2_with fail
  refine (writePadded_any B b _ (n / 60 % 60) 2 w2 h2' (powB hp hpB (c1.trans c2)) (by omega) (by omega) (by omega) (by simp; omega)).mono ?_
  rintro e w3 ⟨rfl, h3', c3⟩
  go_wp2_with fail
  refine (bwByte B b _ 58 58 w3 rfl h3' (by simp; omega)).mono ?_
  rintro e w4 ⟨rfl, h4', c4⟩
  go_wp2_with fail
  refine (writePadded_any B b _ (n % 60) 2 w4 h4' (powB hp hpB (c1.trans (c2.trans (c3.trans c4)))) (by omega) (by omega) (by omega) (by simp; omega)).mono ?_
  rintro e w5 ⟨rfl, h5', c5⟩
  go_wp2
  go_end0
  exact ⟨rfl, by rw [HV.out]; exact h5', c1.trans (c2.trans (c3.trans (c4.trans c5)))⟩
def posP (a d : Int) : List UInt8 := sixL a ++ 32 :: ((if d < 0 then 45 else 43) :: sixL d.natAbs)
def posV (x : St) : Value := if starB x then strV (posP x.2.1 x.2.2.1) else strV []
theorem posV_no {x : St} (h : starB x = false) : posV x = strV [] := by simp [posV, h]
theorem posV_neg {nm : ByteArray} {a d u v : Int} (h : starB (nm, a, d, u, v) = true) (hd : d < 0) : posV (nm, a, d, u, v) = strV (sixL a ++ 32 :: 45 :: sixL (-d)) := by simp [posV, h, posP, hd, show ((d.natAbs : Nat) : Int) = -d from by omega]
theorem posV_pos {nm : ByteArray} {a d u v : Int} (h : starB (nm, a, d, u, v) = true) (hd : ¬ d < 0) : posV (nm, a, d, u, v) = strV (sixL a ++ 32 :: 43 :: sixL d) := by simp [posV, h, posP, hd, show ((d.natAbs : Nat) : Int) = d from by omega]
set_option maxRecDepth 100000 in
set_option maxHeartbeats 4000000 in
theorem iPos_any (nm : ByteArray) (a d u v : Int) (w : World) (hp : Pow w) :
    Calls Tryd.prog 14 #[.agg #[.string nm, .int .i64 a, .int .i64 d, .int .i64 u, .int .i64 v]] w fun e w' => e = .returned (posV (nm, a, d, u, v)) ∧ Below w.heap.size w w' := by
  cases h1 : starB (nm, a, d, u, v)
  case false =>
    have HV := Lib.hid (posV_no h1)
    go_enter Tryd.func14, Tryd.ntmps14
    go_wp2_with (go_at_call 20; refine (valid_any _ _ _ _ _ _).mono ?_; rintro e w' ⟨rfl, hbel⟩; obtain ⟨hc, hf⟩ := bcell hbel; have hz := hbel.size; (try simp at hz); (try simp only [Nat.add_one_le_iff] at hz); (try (have hzw : w.heap.size < w'.heap.size := by omega)); (first | (have hq := ((StC.fresh _ _ nm a d u v).mono hbel).parts; obtain ⟨_, k0, k1, k2, k3, k4⟩ := hq) | (have hq := ((StC.fresh2 _ _ _ nm a d u v).mono hbel).parts; obtain ⟨_, k0, k1, k2, k3, k4⟩ := hq) | skip); (try (have e0 : w'.cell? ⟨w.heap.size + 1, 0, none⟩ = some (.int .i64 0) := (by rw [hc _ _ (by simp)]; go_keep); have e1 : w'.cell? ⟨w.heap.size + 1, 1, none⟩ = some (.int .i64 0) := (by rw [hc _ _ (by simp)]; go_keep); have e2 : w'.cell? ⟨w.heap.size + 1, 2, none⟩ = some (.int .i64 0) := (by rw [hc _ _ (by simp)]; go_keep); have e3 : w'.cell? ⟨w.heap.size + 1, 3, none⟩ = some (.int .i64 0) := (by rw [hc _ _ (by simp)]; go_keep))))
    go_ret
    exact ⟨by rw [HV.out]; rfl, by (repeat (first | assumption | exact Below.refl _ _ | refine belowDN ?_ _ | refine Below.drew ?_ | refine Below.setCell ?_ (by first | omega | (simp <;> omega)) _ | refine Below.alloc ?_ (by first | omega | (simp <;> omega)) _ | refine belowCall ?_ (by assumption)))⟩
  obtain ⟨_, a1, a2, d1, d2, _, _, _⟩ := star_bd h1
  have l1 := six_len a1 (by omega)
  by_cases hd : d < 0
  case pos =>
    have HV := Lib.hid (posV_neg h1 hd)
    have hmx : max d (-d) = -d := by omega
    go_enter Tryd.func14, Tryd.ntmps14
    go_wp2_with fail
    refine (valid_any _ _ _ _ _ _).mono ?_
    rintro e w0 ⟨rfl, b0⟩
    have k1 : w0.cell? ⟨w.heap.size, 1, none⟩ = some (.int .i64 a) := (by rw [b0.cell (p := ⟨w.heap.size, 1, none⟩) (by simp)]; go_keep)
    have k2 : w0.cell? ⟨w.heap.size, 2, none⟩ = some (.int .i64 d) := (by rw [b0.cell (p := ⟨w.heap.size, 2, none⟩) (by simp)]; go_keep)
    have B0 : Below w.heap.size w w0 := belowCall (by (repeat (first | assumption | exact Below.refl _ _ | refine belowDN ?_ _ | refine Below.drew ?_ | refine Below.setCell ?_ (by first | omega | (simp <;> omega)) _ | refine Below.alloc ?_ (by first | omega | (simp <;> omega)) _ | refine belowCall ?_ (by assumption)))) b0
    have s0 : w.heap.size < w0.heap.size := (by have := b0.size; simp at this; omega)
    (have hpB : 1 < w0.heap.size := (by have := pow_lt hp; have := B0.size; omega); have hw0 : Below w0.heap.size w0 (w0.alloc (.cells #[.pointer none, .slice none 0 0] 68)) := (by (repeat (first | assumption | exact Below.refl _ _ | refine belowDN ?_ _ | refine Below.drew ?_ | refine Below.setCell ?_ (by first | omega | (simp <;> omega)) _ | refine Below.alloc ?_ (by first | omega | (simp <;> omega)) _ | refine belowCall ?_ (by assumption)))); have hb0 := bld_new w0; have hp0 : Pow w0 := powB hp (pow_lt hp) B0)
    go_wp2_with fail
    have k1' : (w0.alloc (.cells #[.pointer none, .slice none 0 0] 68)).cell? ⟨w.heap.size, 1, none⟩ = some (.int .i64 a) := by go_keep
    have k2' : (w0.alloc (.cells #[.pointer none, .slice none 0 0] 68)).cell? ⟨w.heap.size, 2, none⟩ = some (.int .i64 d) := by go_keep
    generalize w0.alloc (.cells #[.pointer none, .slice none 0 0] 68) = wA at hw0 hb0 k1' k2' ⊢
    refine (writeSix_any w0.heap.size w0.heap.size [] a wA hb0 (powB hp0 hpB hw0) hpB (by omega) (by omega) (by simp)).mono ?_
    rintro e w2 ⟨rfl, hb2, c2⟩
    have C2 := hw0.trans c2
    have q2 : w2.cell? ⟨w.heap.size, 2, none⟩ = some (.int .i64 d) := (by rw [C2.cell (p := ⟨w.heap.size, 2, none⟩) s0]; exact k2)
    go_wp2_with fail
    refine (bwByte w0.heap.size w0.heap.size _ 32 32 w2 rfl hb2 (by simp; omega)).mono ?_
    rintro e w3 ⟨rfl, hb3, c3⟩
    have C3 := C2.trans c3
    have q3 : w3.cell? ⟨w.heap.size, 2, none⟩ = some (.int .i64 d) := (by rw [C3.cell (p := ⟨w.heap.size, 2, none⟩) s0]; exact k2)
    go_wp2_with fail
    refine (bwByte w0.heap.size w0.heap.size _ 45 45 w3 rfl hb3 (by simp; omega)).mono ?_
    rintro e w4 ⟨rfl, hb4, c4⟩
    have C4 := C3.trans c4
    have q4 : w4.cell? ⟨w.heap.size, 2, none⟩ = some (.int .i64 d) := (by rw [C4.cell (p := ⟨w.heap.size, 2, none⟩) s0]; exact k2)
    go_wp2_with fail
    refine (writeSix_any w0.heap.size w0.heap.size _ (-d) w4 hb4 (powB hp0 hpB C4) hpB (by omega) (by omega) (by simp; omega)).mono ?_
    rintro e w5 ⟨rfl, hb5, c5⟩
    go_wp2_with fail
    refine (bwDone w0.heap.size w0.heap.size _ w5 hb5).mono ?_
    rintro e w6 ⟨rfl, b6⟩
    go_wp2_with fail
    go_ret
    exact ⟨by rw [HV.out]; simp [strV], B0.trans (((C4.trans c5).trans b6).mono (by omega))⟩
  case neg =>
    have HV := Lib.hid (posV_pos h1 hd)
    have hmx : max d (-d) = d := by omega
    go_enter Tryd.func14, Tryd.ntmps14
    go_wp2_with fail
    refine (valid_any _ _ _ _ _ _).mono ?_
    rintro e w0 ⟨rfl, b0⟩
    have k1 : w0.cell? ⟨w.heap.size, 1, none⟩ = some (.int .i64 a) := (by rw [b0.cell (p := ⟨w.heap.size, 1, none⟩) (by simp)]; go_keep)
    have k2 : w0.cell? ⟨w.heap.size, 2, none⟩ = some (.int .i64 d) := (by rw [b0.cell (p := ⟨w.heap.size, 2, none⟩) (by simp)]; go_keep)
    have B0 : Below w.heap.size w w0 := belowCall (by (repeat (first | assumption | exact Below.refl _ _ | refine belowDN ?_ _ | refine Below.drew ?_ | refine Below.setCell ?_ (by first | omega | (simp <;> omega)) _ | refine Below.alloc ?_ (by first | omega | (simp <;> omega)) _ | refine belowCall ?_ (by assumption)))) b0
    have s0 : w.heap.size < w0.heap.size := (by have := b0.size; simp at this; omega)
    (have hpB : 1 < w0.heap.size := (by have := pow_lt hp; have := B0.size; omega); have hw0 : Below w0.heap.size w0 (w0.alloc (.cells #[.pointer none, .slice none 0 0] 68)) := (by (repeat (first | assumption | exact Below.refl _ _ | refine belowDN ?_ _ | refine Below.drew ?_ | refine Below.setCell ?_ (by first | omega | (simp <;> omega)) _ | refine Below.alloc ?_ (by first | omega | (simp <;> omega)) _ | refine belowCall ?_ (by assumption)))); have hb0 := bld_new w0; have hp0 : Pow w0 := powB hp (pow_lt hp) B0)
    go_wp2_with fail
    have k1' : (w0.alloc (.cells #[.pointer none, .slice none 0 0] 68)).cell? ⟨w.heap.size, 1, none⟩ = some (.int .i64 a) := by go_keep
    have k2' : (w0.alloc (.cells #[.pointer none, .slice none 0 0] 68)).cell? ⟨w.heap.size, 2, none⟩ = some (.int .i64 d) := by go_keep
    generalize w0.alloc (.cells #[.pointer none, .slice none 0 0] 68) = wA at hw0 hb0 k1' k2' ⊢
    refine (writeSix_any w0.heap.size w0.heap.size [] a wA hb0 (powB hp0 hpB hw0) hpB (by omega) (by omega) (by simp)).mono ?_
    rintro e w2 ⟨rfl, hb2, c2⟩
    have C2 := hw0.trans c2
    have q2 : w2.cell? ⟨w.heap.size, 2, none⟩ = some (.int .i64 d) := (by rw [C2.cell (p := ⟨w.heap.size, 2, none⟩) s0]; exact k2)
    go_wp2_with fail
    refine (bwByte w0.heap.size w0.heap.size _ 32 32 w2 rfl hb2 (by simp; omega)).mono ?_
    rintro e w3 ⟨rfl, hb3, c3⟩
    have C3 := C2.trans c3
    have q3 : w3.cell? ⟨w.heap.size, 2, none⟩ = some (.int .i64 d) := (by rw [C3.cell (p := ⟨w.heap.size, 2, none⟩) s0]; exact k2)
    go_wp2_with fail
    refine (bwByte w0.heap.size w0.heap.size _ 43 43 w3 rfl hb3 (by simp; omega)).mono ?_
    rintro e w4 ⟨rfl, hb4, c4⟩
    have C4 := C3.trans c4
    have q4 : w4.cell? ⟨w.heap.size, 2, none⟩ = some (.int .i64 d) := (by rw [C4.cell (p := ⟨w.heap.size, 2, none⟩) s0]; exact k2)
    go_wp2_with fail
    refine (writeSix_any w0.heap.size w0.heap.size _ d w4 hb4 (powB hp0 hpB C4) hpB (by omega) (by omega) (by simp; omega)).mono ?_
    rintro e w5 ⟨rfl, hb5, c5⟩
    go_wp2_with fail
    refine (bwDone w0.heap.size w0.heap.size _ w5 hb5).mono ?_
    rintro e w6 ⟨rfl, b6⟩
    go_wp2_with fail
    go_ret
    exact ⟨by rw [HV.out]; simp [strV], B0.trans (((C4.trans c5).trans b6).mono (by omega))⟩
theorem pos_form (x : St) : ∃ s, posV x = .string s := by
  unfold posV strV; split <;> exact ⟨_, rfl⟩
end Go.Proofs.YtlbphdbcjhggjaaDoor
