/- FnCatalogues: for every input the law returns true: a star that is added is found in a valid catalogue, and stars are ordered by their ranges. The card: the library's tables that its road names stand as their initialisers lay them. The arguments read behind the call as before. -/
import Derived.Test.YtfnjndbnogeddaaGreatDoorB1
import Derived.Test.YtfnjndbnogeddaaGreatDoorK3
import Derived.Test.YtfnjndbnogeddaaGreatDoorV2
import Derived.Test.YtfnjndbnogeddaaGreatDoorA1
import Derived.Test.YtfnjndbnogeddaaGreatDoorSC
import Derived.Test.YtfnjndbnogeddaaGreatDoorS9
import Derived.Test.YtfnjndbnogeddaaGreatDoorA4
import Derived.Test.YtfnjndbnogeddaaGreatDoorI3
import Derived.Test.YtfnjndbnogeddaaGreatDoorV3
import Derived.Test.YtfnjndbnogeddaaGreatDoorD5
import Derived.Test.YtfnjndbnogeddaaGreatDoorST
import Derived.Test.YtfnjndbnogeddaaGreatDoorSQ
import Derived.Test.YtfnjndbnogeddaaGreatDoorCards
import Derived.Test.YtfnjndbnogeddaaGreatDoorTie
import Derived.Deep.DeepHandedRow
import Derived.Lib.LaidTab
import Derived.OpenVars
import Derived.ChangeVars
import Derived.ChangeOld
import Derived.Lib.SmallJoins
import Derived.LaidSub
import Derived.Stop.LaidErr
import Derived.Deep.RegionHeld3
import Derived.BigQuiet
namespace Go.Proofs.YtfnjndbnogeddaaGreatDoor.fnCatalogues
open Go.ChangeShapes Go.WideShapes Go.ChangeAt Go.RowKit
open Go.ChangeMaps (open_string shut_string)
set_option linter.unusedVariables false

theorem own : ownKnob Tryz.prog.godebug = none := by kernel_rfl
theorem laidOut : laidOutB Tryz.prog = true := by kernel_rfl

theorem okS_all {xs : List St} (h : okS xs = true) : ∀ y ∈ xs, starB y = true := by
  intro y hy
  obtain ⟨j, hj, rfl⟩ := List.getElem_of_mem hy
  have := (okS_parts rfl h).2 j hj
  simp only [okAt, Bool.and_eq_true] at this
  simpa [hj] using this.1
theorem okS_of_pair {ys : List St} (h1 : ∀ y ∈ ys, starB y = true) (h2 : ys.Pairwise (fun a b => nmD a < nmD b)) (h3 : ys.length ≤ 60) : okS ys = true := by
  refine okS_yes rfl h3 fun k hk => ?_
  simp only [okAt, Bool.and_eq_true, Bool.or_eq_true, decide_eq_true_eq]
  refine ⟨by simpa [hk] using h1 ys[k] (List.getElem_mem hk), ?_⟩
  by_cases h0 : k = 0
  · exact .inl h0
  · right
    have := List.pairwise_iff_getElem.1 h2 (k - 1) k (by omega) hk (by omega)
    rw [bytesLess_eq, decide_eq_true_eq, List.getElem?_eq_getElem (by omega), List.getElem?_eq_getElem hk]
    simpa [ByteArray.toList_eq] using this
theorem addL_ok {xs : List St} {x : St} (h : okS xs = true) (hx : starB x = true) (hn : ¬ findS xs x.1 < xs.length) (hl : xs.length < 60) : okS (addL xs x) = true := by
  refine okS_of_pair (fun y hy => ?_) (addL_pair (okS_pair h)) (by rw [addL_len (none_ne hn)]; omega)
  have := (addL_perm (none_ne hn)).mem_iff.1 hy
  rcases List.mem_cons.1 this with rfl | h1
  · exact hx
  · exact okS_all h y h1
theorem addL_find {xs : List St} {x : St} (h : okS xs = true) (hn : ¬ findS xs x.1 < xs.length) : findS (addL xs x) x.1 < (addL xs x).length ∧ (addL xs x)[findS (addL xs x) x.1]?.getD st0 = x := by
  have hp := addL_pair (x := x) (okS_pair h)
  have hm : x ∈ addL xs x := (addL_perm (none_ne hn)).mem_iff.2 (by simp)
  generalize addL xs x = ys at hp hm
  obtain ⟨j, hj, rfl⟩ := List.getElem_of_mem hm
  have hlt : findS ys ys[j].1 < ys.length := by
    by_cases h1 : findS ys ys[j].1 < ys.length
    · exact h1
    · have := findS_min (xs := ys) (nm := ys[j].1) j (by omega)
      simp [nmL, hj] at this
  refine ⟨hlt, ?_⟩
  have hs := findS_spec hlt
  simp only [nmL, beq_iff_eq, List.getElem?_eq_getElem hlt, Option.getD_some, ByteArray.toList_eq] at hs
  have e : findS ys ys[j].1 = j := by
    rcases Nat.lt_trichotomy (findS ys ys[j].1) j with h1 | h1 | h1
    · have := List.pairwise_iff_getElem.1 hp _ _ hlt hj h1
      simp only [nmD] at this
      rw [hs] at this
      exact absurd this (List.lt_irrefl _)
    · exact h1
    · have := List.pairwise_iff_getElem.1 hp _ _ hj hlt h1
      simp only [nmD] at this
      rw [hs] at this
      exact absurd this (List.lt_irrefl _)
  rw [List.getElem?_eq_getElem hlt, Option.getD_some]
  simp only [e]
theorem byL_nodup (v : Nat → Int) : ∀ k, (byL v k).Nodup
  | 0 => List.nodup_nil
  | k + 1 => by
    have ih := byL_nodup v k
    simp only [byL]
    rw [List.nodup_append]
    refine ⟨ih.filter _, List.nodup_cons.2 ⟨fun h => ?_, ih.filter _⟩, fun a ha b hb => ?_⟩
    · have := (byL_mem v k k).1 (List.mem_filter.1 h).1
      omega
    · rcases List.mem_cons.1 hb with rfl | hb
      · have := (byL_mem v _ a).1 (List.mem_filter.1 ha).1
        omega
      · simp at ha hb
        intro e
        subst e
        omega
/-- the i-th of the order: an index, none of the earlier ones, of no greater range -/
theorem ampL_facts {xs : List St} {n i : Nat} (hi : i < n) : ∃ y : Nat, y < n ∧ (ampL xs n)[i]?.getD 0 = (y : Int) ∧ decide ((y : Int) ∈ (ampL xs n).take i) = false ∧ (byL (ampV xs) n)[i]?.getD 0 = y := by
  have hl := byL_len (ampV xs) n
  refine ⟨(byL (ampV xs) n)[i]?.getD 0, ?_, ?_, ?_, rfl⟩
  · exact (byL_mem (ampV xs) n _).1 (by simp [show i < (byL (ampV xs) n).length by omega])
  · simp only [ampL, List.getElem?_map]
    rw [List.getElem?_eq_getElem (by omega)]
    rfl
  · simp only [decide_eq_false_iff_not]
    intro hm
    obtain ⟨j, hj, e⟩ := List.getElem_of_mem hm
    rw [List.length_take, ampL_len] at hj
    rw [List.getElem_take] at e
    simp only [ampL, List.getElem_map] at e
    rw [List.getElem?_eq_getElem (by omega), Option.getD_some] at e
    have := List.pairwise_iff_getElem.1 (show (byL (ampV xs) n).Pairwise (· ≠ ·) from byL_nodup (ampV xs) n) j i (by omega) (by omega) (by omega)
    exact this (by omega)
theorem ampL_falls {xs : List St} {n i : Nat} (hi : i + 1 < n) : ampV xs ((byL (ampV xs) n)[i + 1]?.getD 0) ≤ ampV xs ((byL (ampV xs) n)[i]?.getD 0) := by
  have hl := byL_len (ampV xs) n
  have := List.pairwise_iff_getElem.1 (byL_falls (ampV xs) n) i (i + 1) (by omega) (by omega) (by omega)
  rw [List.getElem?_eq_getElem (by omega), List.getElem?_eq_getElem (by omega)]
  exact this

def sixL (n : Int) : List UInt8 := padL (n / 3600) 2 ++ 58 :: (padL (n / 60 % 60) 2 ++ 58 :: padL (n % 60) 2)
theorem pad_len2 {n : Int} (h1 : 0 ≤ n) (h2 : n ≤ 99) : (padL n 2).length = 2 := by
  obtain ⟨u, rfl⟩ := Int.eq_ofNat_of_zero_le h1
  rw [pad2 (by omega)]; rfl
theorem six_len {n : Int} (h1 : 0 ≤ n) (h2 : n ≤ 350000) : (sixL n).length = 8 := by
  unfold sixL
  simp [pad_len2 (show 0 ≤ n / 3600 by omega) (by omega), pad_len2 (show 0 ≤ n / 60 % 60 by omega) (by omega), pad_len2 (show 0 ≤ n % 60 by omega) (by omega)]
theorem two_padI {n : Int} (h1 : 0 ≤ n) (h2 : n ≤ 99) : twoV n = padL n 2 := by
  obtain ⟨u, rfl⟩ := Int.eq_ofNat_of_zero_le h1
  exact two_pad (by omega)
set_option maxRecDepth 100000 in
theorem writeSix_any (B b : Nat) (l : List UInt8) (n : Int) (w : World) (h : Bld B b l w) (hp : Pow w) (hpB : 6 < B) (h1 : 0 ≤ n) (h2 : n ≤ 350000) (hl : l.length ≤ 1000) :
    Calls Tryz.prog 42 #[.pointer (some ⟨b, 0, none⟩), .int .i64 n] w fun e w' => e = .returned (.tuple #[]) ∧ Bld B b (l ++ sixL n) w' ∧ Below B w w' := by
  have l1 := pad_len2 (show 0 ≤ n / 3600 by omega) (by omega)
  have l2 := pad_len2 (show 0 ≤ n / 60 % 60 by omega) (by omega)
  have td1 : n.tdiv 3600 = n / 3600 := Int.tdiv_eq_ediv_of_nonneg (by omega)
  have td2 : n.tdiv 60 = n / 60 := Int.tdiv_eq_ediv_of_nonneg (by omega)
  have tm1 : (n / 60).tmod 60 = n / 60 % 60 := Int.tmod_eq_emod_of_nonneg (by omega)
  have tm2 : n.tmod 60 = n % 60 := Int.tmod_eq_emod_of_nonneg (by omega)
  have b1 : 0 ≤ n / 3600 ∧ n / 3600 ≤ 97 := by omega
  have b2 : 0 ≤ n / 60 ∧ n / 60 ≤ 5833 := by omega
  have b3 : 0 ≤ n / 60 % 60 ∧ n / 60 % 60 ≤ 59 := by omega
  have b4 : 0 ≤ n % 60 ∧ n % 60 ≤ 59 := by omega
  obtain ⟨b11, b12⟩ := b1
  obtain ⟨b21, b22⟩ := b2
  obtain ⟨b31, b32⟩ := b3
  obtain ⟨b41, b42⟩ := b4
  have HV := Lib.hid (show l ++ sixL n = (((l ++ padL (n / 3600) 2) ++ [58]) ++ padL (n / 60 % 60) 2) ++ [58] ++ padL (n % 60) 2 by unfold sixL; simp)
  go_enter Tryz.func42, Tryz.ntmps42
  go_wp2_with fail
  refine (writePadded_any B b l (n / 3600) 2 w h hp (by omega) (by omega) (by omega) (by omega)).mono ?_
  rintro e w1 ⟨rfl, h1', c1⟩
  go_wp2_with fail
  refine (bwByte B b _ 58 58 w1 rfl h1' (by simp; omega)).mono ?_
  rintro e w2 ⟨rfl, h2', c2⟩
  go_wp2_with fail
  refine (writePadded_any B b _ (n / 60 % 60) 2 w2 h2' (powB hp hpB (c1.trans c2)) (by omega) (by omega) (by omega) (by simp; omega)).mono ?_
  rintro e w3 ⟨rfl, h3', c3⟩
  go_wp2_with fail
  refine (bwByte B b _ 58 58 w3 rfl h3' (by simp; omega)).mono ?_
  rintro e w4 ⟨rfl, h4', c4⟩
  go_wp2_with fail
  refine (writePadded_any B b _ (n % 60) 2 w4 h4' (powB hp hpB (c1.trans (c2.trans (c3.trans c4)))) (by omega) (by omega) (by omega) (by simp; omega)).mono ?_
  rintro e w5 ⟨rfl, h5', c5⟩
  go_wp2
  go_end0
  exact ⟨rfl, by rw [HV.out]; exact h5', c1.trans (c2.trans (c3.trans (c4.trans c5)))⟩
def posP (a d : Int) : List UInt8 := sixL a ++ 32 :: ((if d < 0 then 45 else 43) :: sixL d.natAbs)
def posV (x : St) : Value := if starB x then strV (posP x.2.1 x.2.2.1) else strV []
theorem posV_no {x : St} (h : starB x = false) : posV x = strV [] := by simp [posV, h]
theorem posV_neg {nm : ByteArray} {a d u v : Int} (h : starB (nm, a, d, u, v) = true) (hd : d < 0) : posV (nm, a, d, u, v) = strV (sixL a ++ 32 :: 45 :: sixL (-d)) := by simp [posV, h, posP, hd, show ((d.natAbs : Nat) : Int) = -d from by omega]
theorem posV_pos {nm : ByteArray} {a d u v : Int} (h : starB (nm, a, d, u, v) = true) (hd : ¬ d < 0) : posV (nm, a, d, u, v) = strV (sixL a ++ 32 :: 43 :: sixL d) := by simp [posV, h, posP, hd, show ((d.natAbs : Nat) : Int) = d from by omega]
set_option maxRecDepth 100000 in
set_option maxHeartbeats 4000000 in
theorem iPos_any (nm : ByteArray) (a d u v : Int) (w : World) (hp : Pow w) :
    Calls Tryz.prog 15 #[.agg #[.string nm, .int .i64 a, .int .i64 d, .int .i64 u, .int .i64 v]] w fun e w' => e = .returned (posV (nm, a, d, u, v)) ∧ Below w.heap.size w w' := by
  cases h1 : starB (nm, a, d, u, v)
  case false =>
    have HV := Lib.hid (posV_no h1)
    go_enter Tryz.func15, Tryz.ntmps15
    go_wp2_with (go_at_call 41; refine (valid_any _ _ _ _ _ _).mono ?_; rintro e w' ⟨rfl, hbel⟩; obtain ⟨hc, hf⟩ := bcell hbel; have hz := hbel.size; (try simp at hz); (try simp only [Nat.add_one_le_iff] at hz); (try (have hzw : w.heap.size < w'.heap.size := by omega)); (first | (have hq := ((StC.fresh _ _ nm a d u v).mono hbel).parts; obtain ⟨_, k0, k1, k2, k3, k4⟩ := hq) | (have hq := ((StC.fresh2 _ _ _ nm a d u v).mono hbel).parts; obtain ⟨_, k0, k1, k2, k3, k4⟩ := hq) | skip); (try (have e0 : w'.cell? ⟨w.heap.size + 1, 0, none⟩ = some (.int .i64 0) := (by rw [hc _ _ (by simp)]; go_keep); have e1 : w'.cell? ⟨w.heap.size + 1, 1, none⟩ = some (.int .i64 0) := (by rw [hc _ _ (by simp)]; go_keep); have e2 : w'.cell? ⟨w.heap.size + 1, 2, none⟩ = some (.int .i64 0) := (by rw [hc _ _ (by simp)]; go_keep); have e3 : w'.cell? ⟨w.heap.size + 1, 3, none⟩ = some (.int .i64 0) := (by rw [hc _ _ (by simp)]; go_keep))))
    go_ret
    exact ⟨by rw [HV.out]; rfl, by (repeat (first | assumption | exact Below.refl _ _ | refine belowDN ?_ _ | refine Below.drew ?_ | refine Below.setCell ?_ (by first | omega | (simp <;> omega)) _ | refine Below.alloc ?_ (by first | omega | (simp <;> omega)) _ | refine belowCall ?_ (by assumption)))⟩
  obtain ⟨_, a1, a2, d1, d2, _, _, _⟩ := star_bd h1
  have l1 := six_len a1 (by omega)
  by_cases hd : d < 0
  case pos =>
    have HV := Lib.hid (posV_neg h1 hd)
    have hmx : max d (-d) = -d := by omega
    go_enter Tryz.func15, Tryz.ntmps15
    go_wp2_with fail
    refine (valid_any _ _ _ _ _ _).mono ?_
    rintro e w0 ⟨rfl, b0⟩
    have k1 : w0.cell? ⟨w.heap.size, 1, none⟩ = some (.int .i64 a) := (by rw [b0.cell (p := ⟨w.heap.size, 1, none⟩) (by simp)]; go_keep)
    have k2 : w0.cell? ⟨w.heap.size, 2, none⟩ = some (.int .i64 d) := (by rw [b0.cell (p := ⟨w.heap.size, 2, none⟩) (by simp)]; go_keep)
    have B0 : Below w.heap.size w w0 := belowCall (by (repeat (first | assumption | exact Below.refl _ _ | refine belowDN ?_ _ | refine Below.drew ?_ | refine Below.setCell ?_ (by first | omega | (simp <;> omega)) _ | refine Below.alloc ?_ (by first | omega | (simp <;> omega)) _ | refine belowCall ?_ (by assumption)))) b0
    have s0 : w.heap.size < w0.heap.size := (by have := b0.size; simp at this; omega)
    (have hpB : 6 < w0.heap.size := (by have := pow_lt hp; have := B0.size; omega); have hw0 : Below w0.heap.size w0 (w0.alloc (.cells #[.pointer none, .slice none 0 0] 73)) := (by (repeat (first | assumption | exact Below.refl _ _ | refine belowDN ?_ _ | refine Below.drew ?_ | refine Below.setCell ?_ (by first | omega | (simp <;> omega)) _ | refine Below.alloc ?_ (by first | omega | (simp <;> omega)) _ | refine belowCall ?_ (by assumption)))); have hb0 := bld_new w0; have hp0 : Pow w0 := powB hp (pow_lt hp) B0)
    go_wp2_with fail
    have k1' : (w0.alloc (.cells #[.pointer none, .slice none 0 0] 73)).cell? ⟨w.heap.size, 1, none⟩ = some (.int .i64 a) := by go_keep
    have k2' : (w0.alloc (.cells #[.pointer none, .slice none 0 0] 73)).cell? ⟨w.heap.size, 2, none⟩ = some (.int .i64 d) := by go_keep
    generalize w0.alloc (.cells #[.pointer none, .slice none 0 0] 73) = wA at hw0 hb0 k1' k2' ⊢
    refine (writeSix_any w0.heap.size w0.heap.size [] a wA hb0 (powB hp0 hpB hw0) hpB (by omega) (by omega) (by simp)).mono ?_
    rintro e w2 ⟨rfl, hb2, c2⟩
    have C2 := hw0.trans c2
    have q2 : w2.cell? ⟨w.heap.size, 2, none⟩ = some (.int .i64 d) := (by rw [C2.cell (p := ⟨w.heap.size, 2, none⟩) s0]; exact k2)
    go_wp2_with fail
    refine (bwByte w0.heap.size w0.heap.size _ 32 32 w2 rfl hb2 (by simp; omega)).mono ?_
    rintro e w3 ⟨rfl, hb3, c3⟩
    have C3 := C2.trans c3
    have q3 : w3.cell? ⟨w.heap.size, 2, none⟩ = some (.int .i64 d) := (by rw [C3.cell (p := ⟨w.heap.size, 2, none⟩) s0]; exact k2)
    go_wp2_with fail
    refine (bwByte w0.heap.size w0.heap.size _ 45 45 w3 rfl hb3 (by simp; omega)).mono ?_
    rintro e w4 ⟨rfl, hb4, c4⟩
    have C4 := C3.trans c4
    have q4 : w4.cell? ⟨w.heap.size, 2, none⟩ = some (.int .i64 d) := (by rw [C4.cell (p := ⟨w.heap.size, 2, none⟩) s0]; exact k2)
    go_wp2_with fail
    refine (writeSix_any w0.heap.size w0.heap.size _ (-d) w4 hb4 (powB hp0 hpB C4) hpB (by omega) (by omega) (by simp; omega)).mono ?_
    rintro e w5 ⟨rfl, hb5, c5⟩
    go_wp2_with fail
    refine (bwDone w0.heap.size w0.heap.size _ w5 hb5).mono ?_
    rintro e w6 ⟨rfl, b6⟩
    go_wp2_with fail
    go_ret
    exact ⟨by rw [HV.out]; simp [strV], B0.trans (((C4.trans c5).trans b6).mono (by omega))⟩
  case neg =>
    have HV := Lib.hid (posV_pos h1 hd)
    have hmx : max d (-d) = d := by omega
    go_enter Tryz.func15, Tryz.ntmps15
    go_wp2_with fail
    refine (valid_any _ _ _ _ _ _).mono ?_
    rintro e w0 ⟨rfl, b0⟩
    have k1 : w0.cell? ⟨w.heap.size, 1, none⟩ = some (.int .i64 a) := (by rw [b0.cell (p := ⟨w.heap.size, 1, none⟩) (by simp)]; go_keep)
    have k2 : w0.cell? ⟨w.heap.size, 2, none⟩ = some (.int .i64 d) := (by rw [b0.cell (p := ⟨w.heap.size, 2, none⟩) (by simp)]; go_keep)
    have B0 : Below w.heap.size w w0 := belowCall (by (repeat (first | assumption | exact Below.refl _ _ | refine belowDN ?_ _ | refine Below.drew ?_ | refine Below.setCell ?_ (by first | omega | (simp <;> omega)) _ | refine Below.alloc ?_ (by first | omega | (simp <;> omega)) _ | refine belowCall ?_ (by assumption)))) b0
    have s0 : w.heap.size < w0.heap.size := (by have := b0.size; simp at this; omega)
    (have hpB : 6 < w0.heap.size := (by have := pow_lt hp; have := B0.size; omega); have hw0 : Below w0.heap.size w0 (w0.alloc (.cells #[.pointer none, .slice none 0 0] 73)) := (by (repeat (first | assumption | exact Below.refl _ _ | refine belowDN ?_ _ | refine Below.drew ?_ | refine Below.setCell ?_ (by first | omega | (simp <;> omega)) _ | refine Below.alloc ?_ (by first | omega | (simp <;> omega)) _ | refine belowCall ?_ (by assumption)))); have hb0 := bld_new w0; have hp0 : Pow w0 := powB hp (pow_lt hp) B0)
    go_wp2_with fail
    have k1' : (w0.alloc (.cells #[.pointer none, .slice none 0 0] 73)).cell? ⟨w.heap.size, 1, none⟩ = some (.int .i64 a) := by go_keep
    have k2' : (w0.alloc (.cells #[.pointer none, .slice none 0 0] 73)).cell? ⟨w.heap.size, 2, none⟩ = some (.int .i64 d) := by go_keep
    generalize w0.alloc (.cells #[.pointer none, .slice none 0 0] 73) = wA at hw0 hb0 k1' k2' ⊢
    refine (writeSix_any w0.heap.size w0.heap.size [] a wA hb0 (powB hp0 hpB hw0) hpB (by omega) (by omega) (by simp)).mono ?_
    rintro e w2 ⟨rfl, hb2, c2⟩
    have C2 := hw0.trans c2
    have q2 : w2.cell? ⟨w.heap.size, 2, none⟩ = some (.int .i64 d) := (by rw [C2.cell (p := ⟨w.heap.size, 2, none⟩) s0]; exact k2)
    go_wp2_with fail
    refine (bwByte w0.heap.size w0.heap.size _ 32 32 w2 rfl hb2 (by simp; omega)).mono ?_
    rintro e w3 ⟨rfl, hb3, c3⟩
    have C3 := C2.trans c3
    have q3 : w3.cell? ⟨w.heap.size, 2, none⟩ = some (.int .i64 d) := (by rw [C3.cell (p := ⟨w.heap.size, 2, none⟩) s0]; exact k2)
    go_wp2_with fail
    refine (bwByte w0.heap.size w0.heap.size _ 43 43 w3 rfl hb3 (by simp; omega)).mono ?_
    rintro e w4 ⟨rfl, hb4, c4⟩
    have C4 := C3.trans c4
    have q4 : w4.cell? ⟨w.heap.size, 2, none⟩ = some (.int .i64 d) := (by rw [C4.cell (p := ⟨w.heap.size, 2, none⟩) s0]; exact k2)
    go_wp2_with fail
    refine (writeSix_any w0.heap.size w0.heap.size _ d w4 hb4 (powB hp0 hpB C4) hpB (by omega) (by omega) (by simp; omega)).mono ?_
    rintro e w5 ⟨rfl, hb5, c5⟩
    go_wp2_with fail
    refine (bwDone w0.heap.size w0.heap.size _ w5 hb5).mono ?_
    rintro e w6 ⟨rfl, b6⟩
    go_wp2_with fail
    go_ret
    exact ⟨by rw [HV.out]; simp [strV], B0.trans (((C4.trans c5).trans b6).mono (by omega))⟩
theorem pos_form (x : St) : ∃ s, posV x = .string s := by
  unfold posV strV; split <;> exact ⟨_, rfl⟩
theorem star : "*" ++ "errors.errorString" = "*errors.errorString" := by decide
theorem rowStar (u : TypeId) (h : Tryz.prog.typeName? 3 u = some "*errors.errorString") : u = 199 :=
  typeName_ptr_named (nm := "errors.errorString") (by rw [star]; kernel_rfl) (by kernel_rfl) (by decide) u (by rw [star]; exact h)
theorem nnm_global : Tryz.prog.globalNamed "loop.example/g01026/impl.errNoName" = some 0 := by kernel_rfl
theorem errn_of {W : World} (h : laidMetH Tryz.prog [("loop.example/g01026/impl.errNoName", Rows.laid_loop_example_g01026_impl_errNoName)] W) : ∃ a, Errn W a := by
  obtain ⟨a0, s0, hv0, -, -, -⟩ := laid_sentinel (r := []) h nnm_global (show (Tryz.prog.globals[0]?).map (·.type) = some 76 by kernel_rfl) Tryz.underlying76 rowStar Tryz.underlying199 Tryz.underlying201 rfl rfl Tryz.underlying9 (by kernel_rfl) (by kernel_rfl)
  have hc := World.var?_cell nnm_global hv0 0
  exact ⟨a0, World.block_lt_of_cell? W _ (show W.cell? ⟨0, 0, none⟩ = some _ from by simpa using hc), by simpa using hc⟩
theorem pow_of {W : World} (h : laidMetH Tryz.prog Rows.fnCataloguesRow.laid W) : Pow W := by
  have h' : laidMetH Tryz.prog [("internal/strconv.uint64pow10", Rows.laid_internal_strconv_uint64pow10)] W := laidMetH.filter (fun x => x.1 == "internal/strconv.uint64pow10") h
  exact Lib.tabIs_of_head (rest := []) pow_global pow_type Tryz.underlying205 Tryz.underlying90 (by kernel_rfl) (by kernel_rfl) h'
theorem a2Has_no (a : Option Addr) (n c : Nat) (zs : List Int) (m : Int) (w : World) (h : Lst w a n zs) (hn : n ≤ 1048576) (hm : decide (m ∈ zs) = false) :
    Calls Tryz.prog 13 #[.slice a n c, .int .i64 m] w fun e w' => e = .returned (.bool false) ∧ w' = w :=
  (a2Has_any a n c zs m w h hn).mono fun e w' hh => ⟨by rw [hh.1, hm], hh.2.symm⟩
theorem lst_take {w : World} {a : Option Addr} {n k : Nat} {zs : List Int} (h : Lst w a n zs) (hk : k ≤ n) : Lst w a k (zs.take k) :=
  ⟨by rw [List.length_take, h.1]; omega, fun j hj => by
    obtain ⟨b, o, e, h1, h2⟩ := h.2 j (by omega)
    exact ⟨b, o, e, h1, by rw [h2]; simp [hj]⟩⟩
theorem posV_some {x : St} (h : starB x = true) : ∃ s : ByteArray, posV x = .string s ∧ (s.toList == []) = false := by
  refine ⟨⟨(posP x.2.1 x.2.2.1).toArray⟩, by simp [posV, h, strV], ?_⟩
  rw [ByteArray.toList_eq]
  simp [posP, sixL]
theorem nm_max {nm : ByteArray} {a d u v : Int} (h : starB (nm, a, d, u, v) = true) : nm.size ≤ maxLen := by
  simp only [starB, Bool.and_eq_true] at h
  have h1 := h.1.1.1.1.1
  simp only [nameB, Bool.and_eq_true, decide_eq_true_eq] at h1
  unfold maxLen; omega
theorem own_cap {w : World} {B T n : Nat} {v : Value} {xs : List Int} (h : w.ownsRow B T 1 v n (xs.map (Value.int .i64))) (hn : xs.length = n) : ∃ a c, v = .slice a n c ∧ Lst w a n xs ∧ n ≤ c := by
  rcases h.2 with ⟨hv, h0⟩ | ⟨g, cap, cur, hv, _, _, hc, _⟩
  · exact ⟨none, 0, by rw [hv, h0], ⟨hn, fun i hi => absurd hi (by omega)⟩, by omega⟩
  · subst hv
    exact ⟨some ⟨g, 0, none⟩, cap, rfl, Lst.of_own h, hc⟩
theorem sel_vis {xs : List St} {n y : Nat} {ny : ByteArray} {y1 y2 y3 y4 : Int} (hy : y < n) (hx : xs[y]?.getD st0 = (ny, y1, y2, y3, y4)) (h : y3 ≤ y4) : decide ((y : Int) ∈ selL (visP y4) xs n) = true := by
  rw [decide_eq_true_eq]
  simp only [selL, List.mem_map, List.mem_filter, List.mem_range]
  exact ⟨y, ⟨hy, by rw [hx]; exact inB_iff.2 ⟨h, Int.le_refl _⟩⟩, rfl⟩
theorem okS_ix {xs : List St} {n : Nat} (hn : xs.length = n) (h : okS xs = true) (k : Nat) (hk : k < n) : starB (xs[k]?.getD st0) = true := by
  have := (okS_parts hn h).2 k hk
  simp only [okAt, Bool.and_eq_true] at this
  exact this.1
theorem sVS_any (a : Option Addr) (n c : Nat) (xs : List St) (w : World) (h : StL w a n xs) (hn : n ≤ 1048576) (hok : okS xs = true) :
    Calls Tryz.prog 10 #[.slice a n c] w fun e w' => e = .returned (.bool true) ∧ Below w.heap.size w w' := by
  go_enter Tryz.func10, Tryz.ntmps10
  go_wp2_with fail
  refine (l04Ok_any a n c xs w h hn).mono ?_
  rintro e w2 ⟨rfl, q, rfl⟩
  rw [hok]
  go_wp2
  go_ret
  exact ⟨rfl, belowDN (Below.refl _ _) _⟩
set_option maxRecDepth 100000 in
set_option maxHeartbeats 8000000 in

theorem walk (a0 : Option Addr) (len0 cap0 : Nat) (z0 : List Int) (a1 : Option Addr) (len1 cap1 : Nat) (z1 : List Int) (w : World) (w0 : IsRow .u8 w a0 len0 cap0 z0) (w1 : IsRow .u8 w a1 len1 cap1 z1) (hL : laidMetH Tryz.prog Rows.fnCataloguesRow.laid w) (hSh : w.ShapedOpen Tryz.prog) :
    Calls Tryz.prog 3 #[.slice a0 len0 cap0, .slice a1 len1 cap1] w fun e w' => e = .returned (.bool true) ∧ Below w.heap.size w w' := by
  have hp := pow_of hL
  obtain ⟨ea, hE⟩ := errn_of (laidMetH.filter (fun x => x.1 == "loop.example/g01026/impl.errNoName") hL)
  clear hL
  have hb0 := LstB.of_row w0
  have hb1 := LstB.of_row w1
  clear w0 w1
  cases hlong : (decide (3000 < (len0 : Int)) || decide (3000 < (len1 : Int)))
  case true =>
    have HL := Lib.hid hlong
    clear hlong
    go_enter Tryz.func3, Tryz.ntmps3
    go_wp2_with fail
    refine (a2Long_any _ _ _ _ _ _ _).mono ?_
    rintro e w' ⟨rfl, rfl⟩
    rw [HL.out]
    go_wp2
    go_ret
    exact ⟨rfl, Below.refl _ _⟩
  have HL := Lib.hid hlong
  have hl0 : len0 ≤ 3000 := by simp at hlong; omega
  have hl1 : len1 ≤ 3000 := by simp at hlong; omega
  clear hlong
  go_enter Tryz.func3, Tryz.ntmps3
  go_wp2_with fail
  refine (a2Long_any _ _ _ _ _ _ _).mono ?_
  rintro e w' ⟨rfl, rfl⟩
  rw [HL.out]
  go_wp2_with fail
  refine (A2Stars_any a0 len0 cap0 w hb0 (by omega)).mono ?_
  rintro e w1 ⟨a, n, c, xs, rfl, hL1, hok, hn6, hB1⟩
  have hb1' := hb1.below hB1
  have hz1 := hB1.size
  have hb1'' : LstB w1 w1.heap.size a1 len1 := fun i hi => by
    obtain ⟨b, off, v, e, hlt, hc, h0, h1⟩ := hb1' i hi
    exact ⟨b, off, v, e, by omega, hc, h0, h1⟩
  go_wp2_with fail
  refine (A2Star_any a1 len1 cap1 w1 hb1'' (by omega)).mono ?_
  rintro e w2 ⟨nm, x1, x2, x3, x4, rfl, hst, hB2'⟩
  have hL2 := hL1.mono hB2'
  have hB2 := belowCall hB1 hB2'
  have hz2 := hB2.size
  clear hb0 hb1 hb1' hb1'' hL1 hB1 hB2'
  have hX := StC.fresh w2 27 nm x1 x2 x3 x4
  have hB3 : Below w.heap.size w (w2.alloc (.cells #[.string nm, .int .i64 x1, .int .i64 x2, .int .i64 x3, .int .i64 x4] 27)) := by (repeat (first | assumption | exact Below.refl _ _ | refine belowDN ?_ _ | refine Below.drew ?_ | refine Below.setCell ?_ (by first | omega | (simp <;> omega)) _ | refine Below.alloc ?_ (by first | omega | (simp <;> omega)) _ | refine belowCall ?_ (by assumption)))
  have hL3 : StL (w2.alloc (.cells #[.string nm, .int .i64 x1, .int .i64 x2, .int .i64 x3, .int .i64 x4] 27)) a n xs := hL2.mono ((Below.refl _ _).alloc (Nat.le_refl _) _)
  go_wp2_with fail
  generalize (w2.alloc (.cells #[.string nm, .int .i64 x1, .int .i64 x2, .int .i64 x3, .int .i64 x4] 27)) = w3 at hX hB3 hL3 ⊢
  generalize w2.heap.size = X at hX hz2 ⊢
  clear hL2 hB2
  have hnm := nm_max hst
  have HN := Lib.hid hL3.1
  refine (iAddStar_any a n c xs nm x1 x2 x3 x4 ea w3 hL3 (by omega) hnm (hE.mono hB3)).mono ?_
  rintro e w4 ⟨hadd, hB4'⟩
  have hX4 := hX.mono hB4'
  have hL4 := hL3.mono hB4'
  have hB4 := belowCall hB3 hB4'
  clear hX hL3 hB3 hB4'
  rcases hadd with ⟨h0, g, c', rfl, hown⟩ | ⟨h0, rfl⟩
  · have hnf : ¬ findS xs nm < xs.length := fun h => by
      rw [addC_has (x := (nm, x1, x2, x3, x4)) hok hst h] at h0
      omega
    have hyok := addL_ok hok hst hnf (by rw [HN.out]; omega)
    obtain ⟨hf1, hf2⟩ := addL_find (x := (nm, x1, x2, x3, x4)) hok hnf
    have hyl : (addL xs (nm, x1, x2, x3, x4)).length = n + 1 := by rw [addL_len (none_ne hnf), HN.out]
    have hY4 := StL.of_own hown rfl
    rw [hyl] at hY4 ⊢
    rw [hyl] at hf1
    clear hown h0 hnf
    generalize addL xs (nm, x1, x2, x3, x4) = ys at hyok hf1 hf2 hyl hY4
    have HSN := Lib.hid (snV_at (xs := ys) (nm := nm) hyok (by rw [hyl]; exact hf1))
    have HYL := Lib.hid hyl
    have HYOK := Lib.hid hyok
    obtain ⟨_, q0, -, -, -, -⟩ := hX4.parts
    clear hyl hyok
    go_wp2_with fail
    refine (iStarNamed_any _ (n + 1) c' ys nm ea w4 hY4 (by omega) hnm (hE.mono hB4)).mono ?_
    rintro e w5 ⟨rfl, hB5'⟩
    rw [HSN.out]
    have hX5 := hX4.mono hB5'
    have hL5 := hL4.mono hB5'
    have hY5 := hY4.mono hB5'
    have hB5 := belowCall hB4 hB5'
    clear q0 hX4 hL4 hY4 hB4 hB5' HSN
    generalize findS ys nm = k at hf1 hf2
    obtain ⟨b1, o1, e1, hyc⟩ := hY5.2 k hf1
    cases e1
    rw [hf2] at hyc
    obtain ⟨hXl, q0, q1, q2, q3, q4⟩ := hX5.parts
    rw [Nat.zero_add] at q1 q2 q3 q4
    obtain ⟨hYl, r0, r1, r2, r3, r4⟩ := hyc.parts
    rw [Nat.zero_add] at r0 r1 r2 r3 r4
    have hNE := neq_star nm nm x1 x1 x2 x2 x3 x3 x4 x4
    rw [stE_self] at hNE
    have hk0 : ¬ ((k : Nat) : Int) < 0 := by omega
    have hk1 : ((k : Nat) : Int) < (n : Int) + 1 := by omega
    have hnn : (((n : Int) + 1) != ((n : Int) + 1)) = false := by simp
    have hnn2 : (((n + 1 : Nat) : Int) != ((n : Int) + 1)) = false := by simp
    have hwn : IntKind.i64.wrap ((n : Int) + 1) = (n : Int) + 1 := by simp only [IntKind.wrap_i64]; omega
    have hnn3 : (((n : Int) + 1) != IntKind.i64.wrap ((n : Int) + 1)) = false := by rw [hwn]; simp
    have hnn4 : (((n + 1 : Nat) : Int) != IntKind.i64.wrap ((n : Int) + 1)) = false := by rw [hwn]; simp
    have hd0 : decide ((k : Int) < 0) = false := by simp
    have hd1 : decide ((n : Int) + 1 ≤ (k : Int)) = false := by simp; omega
    have hd2 : decide (((n + 1 : Nat) : Int) ≤ (k : Int)) = false := by simp; omega
    clear hf1 hf2 hyc
    go_wp2
    go_region_held3 (fun W' => W'.cell? ⟨X, 0, none⟩ = some (.string nm) ∧ W'.cell? ⟨X, 1, none⟩ = some (.int .i64 x1) ∧ W'.cell? ⟨X, 2, none⟩ = some (.int .i64 x2) ∧ W'.cell? ⟨X, 3, none⟩ = some (.int .i64 x3) ∧ W'.cell? ⟨X, 4, none⟩ = some (.int .i64 x4) ∧ W'.cell? ⟨g, k * 5, none⟩ = some (.string nm) ∧ W'.cell? ⟨g, k * 5 + 1, none⟩ = some (.int .i64 x1) ∧ W'.cell? ⟨g, k * 5 + 2, none⟩ = some (.int .i64 x2) ∧ W'.cell? ⟨g, k * 5 + 3, none⟩ = some (.int .i64 x3) ∧ W'.cell? ⟨g, k * 5 + 4, none⟩ = some (.int .i64 x4)) (refine ⟨?_, ?_, ?_, ?_, ?_, ?_, ?_, ?_, ?_, ?_⟩ <;> first | assumption | exact ((show Below w5.heap.size w5 _ by (repeat (first | assumption | exact Below.refl _ _ | refine belowDN ?_ _ | refine Below.drew ?_ | refine Below.setCell ?_ (by first | omega | (simp <;> omega)) _ | refine Below.alloc ?_ (by first | omega | (simp <;> omega)) _ | refine belowCall ?_ (by assumption)))).cell (p := ⟨X, 0, none⟩) hXl).trans q0 | exact ((show Below w5.heap.size w5 _ by (repeat (first | assumption | exact Below.refl _ _ | refine belowDN ?_ _ | refine Below.drew ?_ | refine Below.setCell ?_ (by first | omega | (simp <;> omega)) _ | refine Below.alloc ?_ (by first | omega | (simp <;> omega)) _ | refine belowCall ?_ (by assumption)))).cell (p := ⟨X, 1, none⟩) hXl).trans q1 | exact ((show Below w5.heap.size w5 _ by (repeat (first | assumption | exact Below.refl _ _ | refine belowDN ?_ _ | refine Below.drew ?_ | refine Below.setCell ?_ (by first | omega | (simp <;> omega)) _ | refine Below.alloc ?_ (by first | omega | (simp <;> omega)) _ | refine belowCall ?_ (by assumption)))).cell (p := ⟨X, 2, none⟩) hXl).trans q2 | exact ((show Below w5.heap.size w5 _ by (repeat (first | assumption | exact Below.refl _ _ | refine belowDN ?_ _ | refine Below.drew ?_ | refine Below.setCell ?_ (by first | omega | (simp <;> omega)) _ | refine Below.alloc ?_ (by first | omega | (simp <;> omega)) _ | refine belowCall ?_ (by assumption)))).cell (p := ⟨X, 3, none⟩) hXl).trans q3 | exact ((show Below w5.heap.size w5 _ by (repeat (first | assumption | exact Below.refl _ _ | refine belowDN ?_ _ | refine Below.drew ?_ | refine Below.setCell ?_ (by first | omega | (simp <;> omega)) _ | refine Below.alloc ?_ (by first | omega | (simp <;> omega)) _ | refine belowCall ?_ (by assumption)))).cell (p := ⟨X, 4, none⟩) hXl).trans q4 | exact ((show Below w5.heap.size w5 _ by (repeat (first | assumption | exact Below.refl _ _ | refine belowDN ?_ _ | refine Below.drew ?_ | refine Below.setCell ?_ (by first | omega | (simp <;> omega)) _ | refine Below.alloc ?_ (by first | omega | (simp <;> omega)) _ | refine belowCall ?_ (by assumption)))).cell (p := ⟨g, k * 5, none⟩) hYl).trans r0 | exact ((show Below w5.heap.size w5 _ by (repeat (first | assumption | exact Below.refl _ _ | refine belowDN ?_ _ | refine Below.drew ?_ | refine Below.setCell ?_ (by first | omega | (simp <;> omega)) _ | refine Below.alloc ?_ (by first | omega | (simp <;> omega)) _ | refine belowCall ?_ (by assumption)))).cell (p := ⟨g, k * 5 + 1, none⟩) hYl).trans r1 | exact ((show Below w5.heap.size w5 _ by (repeat (first | assumption | exact Below.refl _ _ | refine belowDN ?_ _ | refine Below.drew ?_ | refine Below.setCell ?_ (by first | omega | (simp <;> omega)) _ | refine Below.alloc ?_ (by first | omega | (simp <;> omega)) _ | refine belowCall ?_ (by assumption)))).cell (p := ⟨g, k * 5 + 2, none⟩) hYl).trans r2 | exact ((show Below w5.heap.size w5 _ by (repeat (first | assumption | exact Below.refl _ _ | refine belowDN ?_ _ | refine Below.drew ?_ | refine Below.setCell ?_ (by first | omega | (simp <;> omega)) _ | refine Below.alloc ?_ (by first | omega | (simp <;> omega)) _ | refine belowCall ?_ (by assumption)))).cell (p := ⟨g, k * 5 + 3, none⟩) hYl).trans r3 | exact ((show Below w5.heap.size w5 _ by (repeat (first | assumption | exact Below.refl _ _ | refine belowDN ?_ _ | refine Below.drew ?_ | refine Below.setCell ?_ (by first | omega | (simp <;> omega)) _ | refine Below.alloc ?_ (by first | omega | (simp <;> omega)) _ | refine belowCall ?_ (by assumption)))).cell (p := ⟨g, k * 5 + 4, none⟩) hYl).trans r4) (first | (go_at_call 10; refine (sVS_any _ (n + 1) c' ys _ (hY5.mono (by (repeat (first | assumption | exact Below.refl _ _ | refine belowDN ?_ _ | refine Below.drew ?_ | refine Below.setCell ?_ (by first | omega | (simp <;> omega)) _ | refine Below.alloc ?_ (by first | omega | (simp <;> omega)) _ | refine belowCall ?_ (by assumption))))) (by omega) HYOK.out).mono ?_; rintro e w6a ⟨rfl, b6a⟩; have b6 : Below w5.heap.size w5 w6a := belowCall (by (repeat (first | assumption | exact Below.refl _ _ | refine belowDN ?_ _ | refine Below.drew ?_ | refine Below.setCell ?_ (by first | omega | (simp <;> omega)) _ | refine Below.alloc ?_ (by first | omega | (simp <;> omega)) _ | refine belowCall ?_ (by assumption)))) b6a) | (go_at_call 11; refine (iValidStars_any _ (n + 1) c' ys _ (hY5.mono (by (repeat (first | assumption | exact Below.refl _ _ | refine belowDN ?_ _ | refine Below.drew ?_ | refine Below.setCell ?_ (by first | omega | (simp <;> omega)) _ | refine Below.alloc ?_ (by first | omega | (simp <;> omega)) _ | refine belowCall ?_ (by assumption))))) (by omega)).mono ?_; rintro e w6 ⟨rfl, b7a⟩; rw [HYOK.out]; have b7 : Below w5.heap.size w5 w6 := belowCall (by (repeat (first | assumption | exact Below.refl _ _ | refine belowDN ?_ _ | refine Below.drew ?_ | refine Below.setCell ?_ (by first | omega | (simp <;> omega)) _ | refine Below.alloc ?_ (by first | omega | (simp <;> omega)) _ | refine belowCall ?_ (by assumption)))) b7a))
    all_goals
      have hB6 := belowCall hB5 b7
      have hL6 := hL5.mono b7
      clear q0 q1 q2 q3 q4 r0 r1 r2 r3 r4 hX5 hL5 hY5 hB5 b7 b6 hNE hnn hnn2 hnn3 hnn4 hwn hd0 hd1 hd2 hk0 hk1 hXl hYl
      have hp6 : Pow w6 := hp.mono hB6
      go_wp2_with fail
      refine (iByAmp_any a n c xs w6 hL6 (by omega)).mono ?_
      rintro e w7 ⟨hch, hB7'⟩
      rcases hch with ⟨_, v7, rfl, hown⟩ | ⟨hbad, _⟩
      rotate_left
      · rw [hok] at hbad; cases hbad
      rw [ampL_len] at hown
      obtain ⟨an, cn, rfl, hN7, hnc⟩ := own_cap hown (ampL_len xs n)
      have hL7 := hL6.mono hB7'
      have hB7 := belowCall hB6 hB7'
      have hp7 := hp6.mono hB7'
      have hnn0 : ((n : Int) != (n : Int)) = false := by simp
      have HOK := Lib.hid hok
      clear hown hL6 hB6 hB7' hp6 hok
      go_wp2
      go_loopw [13] (fun i wr => ∃ k : Nat, k ≤ n ∧ i = .int .i64 k ∧ Below w7.heap.size w7 wr) (fun i _ => n - (Go.RowKit.intOf i).toNat)
      case atStart => exact ⟨0, Nat.zero_le _, rfl, Below.refl _ _⟩
      case round =>
        obtain ⟨k, hk, rfl, hBr⟩ := hrel
        by_cases hlt : k < n
        · have hNr := hN7.mono hBr
          have hLr := hL7.mono hBr
          have hpr := hp7.mono hBr
          obtain ⟨y, hy1, hy2, hy3, hy4⟩ := ampL_facts (xs := xs) hlt
          obtain ⟨b1, o1, rfl, hb1, hc1⟩ := hNr.2 k hlt
          rw [hy2] at hc1
          obtain ⟨b2, o2, rfl, hc2⟩ := hLr.2 y hy1
          obtain ⟨⟨ny, y1, y2, y3, y4⟩, hyx⟩ : ∃ s, xs[y]?.getD st0 = s := ⟨_, rfl⟩
          have hsy := okS_ix HN.out HOK.out y hy1
          rw [hyx] at hc2 hsy
          obtain ⟨-, -, -, -, -, s1, s2, s3⟩ := star_bd hsy
          obtain ⟨p, p0, p1, p2, p3, p4⟩ := hc2.parts
          have HM := Lib.hid (sel_vis hy1 hyx s2)
          have HYX := Lib.hid hyx
          have HY4 := Lib.hid hy4
          obtain ⟨sp, hsp, hspe⟩ := posV_some hsy
          have HSP := Lib.hid hsp
          have hLt := lst_take hNr hk
          have hyn : (y : Int) < (n : Int) := by omega
          have hkk : (k : Int) < (n : Int) := by omega
          have hkcn : (k : Int) ≤ (cn : Int) := by omega
          have d1 : decide ((y : Int) < 0) = false := by simp
          have d2 : decide ((n : Int) ≤ (y : Int)) = false := by simp; omega
          have d2n : decide (n ≤ y) = false := by simp; omega
          have hmg : magB y4 = true := magB_iff.2 ⟨by omega, s3⟩
          clear hyx hy2 hy4 hsp hc2 hnn0
          by_cases hk0 : 0 < k
          · have hk0' : (0 : Int) < (k : Int) := by omega
            obtain ⟨k', hk'⟩ : ∃ k', k = k' + 1 := ⟨k - 1, by omega⟩
            obtain ⟨z, hz1, hz2, -, hz4⟩ := ampL_facts (xs := xs) (n := n) (i := k') (by omega)
            obtain ⟨b1', o1', e1, hb1', hd1⟩ := hNr.2 k' (by omega)
            cases e1
            rw [hz2] at hd1
            obtain ⟨b2', o2', e2, hd2⟩ := hLr.2 z hz1
            cases e2
            obtain ⟨⟨nz, z1, z2, z3, z4⟩, hzx⟩ : ∃ s, xs[z]?.getD st0 = s := ⟨_, rfl⟩
            have hsz := okS_ix HN.out HOK.out z hz1
            rw [hzx] at hd2 hsz
            obtain ⟨-, -, -, -, -, t1, t2, t3⟩ := star_bd hsz
            obtain ⟨-, u0, u1, u2, u3, u4⟩ := hd2.parts
            have hfl : ¬ (z4 - z3 < y4 - y3) := by
              have h9 := ampL_falls (xs := xs) (n := n) (i := k') (by omega)
              rw [← hk', HY4.out, hz4, ampV, ampV, HYX.out, hzx] at h9
              have h10 : y4 - y3 ≤ z4 - z3 := h9
              omega
            have s1k : (k : Int) - 1 = (k' : Int) := by omega
            have s3k : (k' : Int) < (n : Int) := by omega
            have hzn : (z : Int) < (n : Int) := by omega
            clear hk' hz2 hz4 hzx hd2 hsz
            go_wp2
            go_big_quiet (first | (go_at_call 13; refine Calls.quiet_of_same (a2Has_no _ k cn _ (y : Int) _ (hLt.mono (belowDN (Below.refl _ _) _)) (by omega) hy3)))
            have hBq : Below wr.heap.size wr (wr.drewN nq) := belowDN (Below.refl _ _) nq
            generalize wr.drewN nq = wq at hBq ⊢
            have hc1q := (hBq.cell (p := ⟨b1, o1 + k, none⟩) hb1).trans hc1
            have hd1q := (hBq.cell (p := ⟨b1, o1 + k', none⟩) hb1').trans hd1
            have p0q := (hBq.cell (p := ⟨b2, o2 + y * 5, none⟩) p).trans p0
            have p1q := (hBq.cell (p := ⟨b2, o2 + y * 5 + 1, none⟩) p).trans p1
            have p2q := (hBq.cell (p := ⟨b2, o2 + y * 5 + 2, none⟩) p).trans p2
            have p3q := (hBq.cell (p := ⟨b2, o2 + y * 5 + 3, none⟩) p).trans p3
            have p4q := (hBq.cell (p := ⟨b2, o2 + y * 5 + 4, none⟩) p).trans p4
            have u0q := (hBq.cell (p := ⟨b2, o2 + z * 5, none⟩) p).trans u0
            have u1q := (hBq.cell (p := ⟨b2, o2 + z * 5 + 1, none⟩) p).trans u1
            have u2q := (hBq.cell (p := ⟨b2, o2 + z * 5 + 2, none⟩) p).trans u2
            have u3q := (hBq.cell (p := ⟨b2, o2 + z * 5 + 3, none⟩) p).trans u3
            have u4q := (hBq.cell (p := ⟨b2, o2 + z * 5 + 4, none⟩) p).trans u4
            have hqz := hBq.size
            have m1 : b1 < wq.heap.size := by omega
            have m2 : b2 < wq.heap.size := by omega
            have m3 : b1 ≠ wq.heap.size := by omega
            have m4 : b2 ≠ wq.heap.size := by omega
            have m5 : b1 ≠ wq.heap.size + 1 := by omega
            have m6 : b2 ≠ wq.heap.size + 1 := by omega
            go_wp2_with fail
            refine (iVisibleAt_any (some ⟨b2, o2, none⟩) n c xs y4 _ (hLr.mono (by (repeat (first | assumption | exact Below.refl _ _ | refine belowDN ?_ _ | refine Below.drew ?_ | refine Below.setCell ?_ (by first | omega | (simp <;> omega)) _ | refine Below.alloc ?_ (by first | omega | (simp <;> omega)) _ | refine belowCall ?_ (by assumption))))) (by omega)).mono ?_
            rintro e w8 ⟨hch, b8'⟩
            have b8 : Below wr.heap.size wr w8 := belowCall (by (repeat (first | assumption | exact Below.refl _ _ | refine belowDN ?_ _ | refine Below.drew ?_ | refine Below.setCell ?_ (by first | omega | (simp <;> omega)) _ | refine Below.alloc ?_ (by first | omega | (simp <;> omega)) _ | refine belowCall ?_ (by assumption)))) b8'
            rcases hch with ⟨_, v8, rfl, hown⟩ | ⟨hbad, _⟩
            rotate_left
            · rw [HOK.out, hmg] at hbad; cases hbad
            obtain ⟨sa, sc, rfl, hS8⟩ := own_lst hown rfl
            have hc8 := (b8.cell (p := ⟨b1, o1 + k, none⟩) hb1).trans hc1
            have r0 := (b8.cell (p := ⟨b2, o2 + y * 5, none⟩) p).trans p0
            have r1 := (b8.cell (p := ⟨b2, o2 + y * 5 + 1, none⟩) p).trans p1
            have r2 := (b8.cell (p := ⟨b2, o2 + y * 5 + 2, none⟩) p).trans p2
            have r3 := (b8.cell (p := ⟨b2, o2 + y * 5 + 3, none⟩) p).trans p3
            have r4 := (b8.cell (p := ⟨b2, o2 + y * 5 + 4, none⟩) p).trans p4
            have hp8 := hpr.mono b8
            have hsl := selL_len (visP y4) xs n
            have HB8 := Lib.hid b8
            clear hown b8' b8 hNr hLr hpr hLt
            go_wp2_with (first | (go_at_call 13; refine (a2Has_any sa _ sc _ (y : Int) w8 hS8 (by omega)).mono ?_; rintro e w8b ⟨rfl, rfl⟩; rw [HM.out]) | (go_at_call 15; refine (iPos_any ny y1 y2 y3 y4 _ hp8).mono ?_; rintro e w9 ⟨rfl, b9⟩; rw [HSP.out]))
            go_roundw
            case rel => exact ⟨k + 1, by omega, by go_num, belowCall hBr (belowCall HB8.out b9)⟩
            case measure => simp [Go.RowKit.intOf]; omega
          · have hk0' : ¬ (0 : Int) < (k : Int) := by omega
            go_wp2
            go_big_quiet (first | (go_at_call 13; refine Calls.quiet_of_same (a2Has_no _ k cn _ (y : Int) _ (hLt.mono (belowDN (Below.refl _ _) _)) (by omega) hy3)))
            go_wp2_with fail
            refine (iVisibleAt_any (some ⟨b2, o2, none⟩) n c xs y4 _ (hLr.mono (by (repeat (first | assumption | exact Below.refl _ _ | refine belowDN ?_ _ | refine Below.drew ?_ | refine Below.setCell ?_ (by first | omega | (simp <;> omega)) _ | refine Below.alloc ?_ (by first | omega | (simp <;> omega)) _ | refine belowCall ?_ (by assumption))))) (by omega)).mono ?_
            rintro e w8 ⟨hch, b8'⟩
            have b8 : Below wr.heap.size wr w8 := belowCall (by (repeat (first | assumption | exact Below.refl _ _ | refine belowDN ?_ _ | refine Below.drew ?_ | refine Below.setCell ?_ (by first | omega | (simp <;> omega)) _ | refine Below.alloc ?_ (by first | omega | (simp <;> omega)) _ | refine belowCall ?_ (by assumption)))) b8'
            rcases hch with ⟨_, v8, rfl, hown⟩ | ⟨hbad, _⟩
            rotate_left
            · rw [HOK.out, hmg] at hbad; cases hbad
            obtain ⟨sa, sc, rfl, hS8⟩ := own_lst hown rfl
            have hc8 := (b8.cell (p := ⟨b1, o1 + k, none⟩) hb1).trans hc1
            have r0 := (b8.cell (p := ⟨b2, o2 + y * 5, none⟩) p).trans p0
            have r1 := (b8.cell (p := ⟨b2, o2 + y * 5 + 1, none⟩) p).trans p1
            have r2 := (b8.cell (p := ⟨b2, o2 + y * 5 + 2, none⟩) p).trans p2
            have r3 := (b8.cell (p := ⟨b2, o2 + y * 5 + 3, none⟩) p).trans p3
            have r4 := (b8.cell (p := ⟨b2, o2 + y * 5 + 4, none⟩) p).trans p4
            have hp8 := hpr.mono b8
            have hsl := selL_len (visP y4) xs n
            have HB8 := Lib.hid b8
            clear hown b8' b8 hNr hLr hpr hLt
            go_wp2_with (first | (go_at_call 13; refine (a2Has_any sa _ sc _ (y : Int) w8 hS8 (by omega)).mono ?_; rintro e w8b ⟨rfl, rfl⟩; rw [HM.out]) | (go_at_call 15; refine (iPos_any ny y1 y2 y3 y4 _ hp8).mono ?_; rintro e w9 ⟨rfl, b9⟩; rw [HSP.out]))
            go_roundw
            case rel => exact ⟨k + 1, by omega, by go_num, belowCall hBr (belowCall HB8.out b9)⟩
            case measure => simp [Go.RowKit.intOf]; omega
        · obtain rfl : k = n := by omega
          go_wp2
          go_ret
          exact ⟨rfl, belowCall hB7 hBr⟩
  · have hc4 : addC xs (nm, x1, x2, x3, x4) = 4 := by
      by_cases hf : findS xs nm < xs.length
      · exact addC_has (x := (nm, x1, x2, x3, x4)) hok hst hf
      · exact absurd (addC_zero (x := (nm, x1, x2, x3, x4)) hok hst hf (by rw [HN.out]; omega)) h0
    rw [hc4]
    clear h0 hc4
    have hB6 := hB4
    have hL6 := hL4
    generalize w4 = w6 at hB6 hL6 ⊢
    clear hX4 hL4 hB4
    have hp6 : Pow w6 := hp.mono hB6
    go_wp2_with fail
    refine (iByAmp_any a n c xs w6 hL6 (by omega)).mono ?_
    rintro e w7 ⟨hch, hB7'⟩
    rcases hch with ⟨_, v7, rfl, hown⟩ | ⟨hbad, _⟩
    rotate_left
    · rw [hok] at hbad; cases hbad
    rw [ampL_len] at hown
    obtain ⟨an, cn, rfl, hN7, hnc⟩ := own_cap hown (ampL_len xs n)
    have hL7 := hL6.mono hB7'
    have hB7 := belowCall hB6 hB7'
    have hp7 := hp6.mono hB7'
    have hnn0 : ((n : Int) != (n : Int)) = false := by simp
    have HOK := Lib.hid hok
    clear hown hL6 hB6 hB7' hp6 hok
    go_wp2
    go_loopw [13] (fun i wr => ∃ k : Nat, k ≤ n ∧ i = .int .i64 k ∧ Below w7.heap.size w7 wr) (fun i _ => n - (Go.RowKit.intOf i).toNat)
    case atStart => exact ⟨0, Nat.zero_le _, rfl, Below.refl _ _⟩
    case round =>
      obtain ⟨k, hk, rfl, hBr⟩ := hrel
      by_cases hlt : k < n
      · have hNr := hN7.mono hBr
        have hLr := hL7.mono hBr
        have hpr := hp7.mono hBr
        obtain ⟨y, hy1, hy2, hy3, hy4⟩ := ampL_facts (xs := xs) hlt
        obtain ⟨b1, o1, rfl, hb1, hc1⟩ := hNr.2 k hlt
        rw [hy2] at hc1
        obtain ⟨b2, o2, rfl, hc2⟩ := hLr.2 y hy1
        obtain ⟨⟨ny, y1, y2, y3, y4⟩, hyx⟩ : ∃ s, xs[y]?.getD st0 = s := ⟨_, rfl⟩
        have hsy := okS_ix HN.out HOK.out y hy1
        rw [hyx] at hc2 hsy
        obtain ⟨-, -, -, -, -, s1, s2, s3⟩ := star_bd hsy
        obtain ⟨p, p0, p1, p2, p3, p4⟩ := hc2.parts
        have HM := Lib.hid (sel_vis hy1 hyx s2)
        have HYX := Lib.hid hyx
        have HY4 := Lib.hid hy4
        obtain ⟨sp, hsp, hspe⟩ := posV_some hsy
        have HSP := Lib.hid hsp
        have hLt := lst_take hNr hk
        have hyn : (y : Int) < (n : Int) := by omega
        have hkk : (k : Int) < (n : Int) := by omega
        have hkcn : (k : Int) ≤ (cn : Int) := by omega
        have d1 : decide ((y : Int) < 0) = false := by simp
        have d2 : decide ((n : Int) ≤ (y : Int)) = false := by simp; omega
        have d2n : decide (n ≤ y) = false := by simp; omega
        have hmg : magB y4 = true := magB_iff.2 ⟨by omega, s3⟩
        clear hyx hy2 hy4 hsp hc2 hnn0
        by_cases hk0 : 0 < k
        · have hk0' : (0 : Int) < (k : Int) := by omega
          obtain ⟨k', hk'⟩ : ∃ k', k = k' + 1 := ⟨k - 1, by omega⟩
          obtain ⟨z, hz1, hz2, -, hz4⟩ := ampL_facts (xs := xs) (n := n) (i := k') (by omega)
          obtain ⟨b1', o1', e1, hb1', hd1⟩ := hNr.2 k' (by omega)
          cases e1
          rw [hz2] at hd1
          obtain ⟨b2', o2', e2, hd2⟩ := hLr.2 z hz1
          cases e2
          obtain ⟨⟨nz, z1, z2, z3, z4⟩, hzx⟩ : ∃ s, xs[z]?.getD st0 = s := ⟨_, rfl⟩
          have hsz := okS_ix HN.out HOK.out z hz1
          rw [hzx] at hd2 hsz
          obtain ⟨-, -, -, -, -, t1, t2, t3⟩ := star_bd hsz
          obtain ⟨-, u0, u1, u2, u3, u4⟩ := hd2.parts
          have hfl : ¬ (z4 - z3 < y4 - y3) := by
            have h9 := ampL_falls (xs := xs) (n := n) (i := k') (by omega)
            rw [← hk', HY4.out, hz4, ampV, ampV, HYX.out, hzx] at h9
            have h10 : y4 - y3 ≤ z4 - z3 := h9
            omega
          have s1k : (k : Int) - 1 = (k' : Int) := by omega
          have s3k : (k' : Int) < (n : Int) := by omega
          have hzn : (z : Int) < (n : Int) := by omega
          clear hk' hz2 hz4 hzx hd2 hsz
          go_wp2
          go_big_quiet (first | (go_at_call 13; refine Calls.quiet_of_same (a2Has_no _ k cn _ (y : Int) _ (hLt.mono (belowDN (Below.refl _ _) _)) (by omega) hy3)))
          have hBq : Below wr.heap.size wr (wr.drewN nq) := belowDN (Below.refl _ _) nq
          generalize wr.drewN nq = wq at hBq ⊢
          have hc1q := (hBq.cell (p := ⟨b1, o1 + k, none⟩) hb1).trans hc1
          have hd1q := (hBq.cell (p := ⟨b1, o1 + k', none⟩) hb1').trans hd1
          have p0q := (hBq.cell (p := ⟨b2, o2 + y * 5, none⟩) p).trans p0
          have p1q := (hBq.cell (p := ⟨b2, o2 + y * 5 + 1, none⟩) p).trans p1
          have p2q := (hBq.cell (p := ⟨b2, o2 + y * 5 + 2, none⟩) p).trans p2
          have p3q := (hBq.cell (p := ⟨b2, o2 + y * 5 + 3, none⟩) p).trans p3
          have p4q := (hBq.cell (p := ⟨b2, o2 + y * 5 + 4, none⟩) p).trans p4
          have u0q := (hBq.cell (p := ⟨b2, o2 + z * 5, none⟩) p).trans u0
          have u1q := (hBq.cell (p := ⟨b2, o2 + z * 5 + 1, none⟩) p).trans u1
          have u2q := (hBq.cell (p := ⟨b2, o2 + z * 5 + 2, none⟩) p).trans u2
          have u3q := (hBq.cell (p := ⟨b2, o2 + z * 5 + 3, none⟩) p).trans u3
          have u4q := (hBq.cell (p := ⟨b2, o2 + z * 5 + 4, none⟩) p).trans u4
          have hqz := hBq.size
          have m1 : b1 < wq.heap.size := by omega
          have m2 : b2 < wq.heap.size := by omega
          have m3 : b1 ≠ wq.heap.size := by omega
          have m4 : b2 ≠ wq.heap.size := by omega
          have m5 : b1 ≠ wq.heap.size + 1 := by omega
          have m6 : b2 ≠ wq.heap.size + 1 := by omega
          go_wp2_with fail
          refine (iVisibleAt_any (some ⟨b2, o2, none⟩) n c xs y4 _ (hLr.mono (by (repeat (first | assumption | exact Below.refl _ _ | refine belowDN ?_ _ | refine Below.drew ?_ | refine Below.setCell ?_ (by first | omega | (simp <;> omega)) _ | refine Below.alloc ?_ (by first | omega | (simp <;> omega)) _ | refine belowCall ?_ (by assumption))))) (by omega)).mono ?_
          rintro e w8 ⟨hch, b8'⟩
          have b8 : Below wr.heap.size wr w8 := belowCall (by (repeat (first | assumption | exact Below.refl _ _ | refine belowDN ?_ _ | refine Below.drew ?_ | refine Below.setCell ?_ (by first | omega | (simp <;> omega)) _ | refine Below.alloc ?_ (by first | omega | (simp <;> omega)) _ | refine belowCall ?_ (by assumption)))) b8'
          rcases hch with ⟨_, v8, rfl, hown⟩ | ⟨hbad, _⟩
          rotate_left
          · rw [HOK.out, hmg] at hbad; cases hbad
          obtain ⟨sa, sc, rfl, hS8⟩ := own_lst hown rfl
          have hc8 := (b8.cell (p := ⟨b1, o1 + k, none⟩) hb1).trans hc1
          have r0 := (b8.cell (p := ⟨b2, o2 + y * 5, none⟩) p).trans p0
          have r1 := (b8.cell (p := ⟨b2, o2 + y * 5 + 1, none⟩) p).trans p1
          have r2 := (b8.cell (p := ⟨b2, o2 + y * 5 + 2, none⟩) p).trans p2
          have r3 := (b8.cell (p := ⟨b2, o2 + y * 5 + 3, none⟩) p).trans p3
          have r4 := (b8.cell (p := ⟨b2, o2 + y * 5 + 4, none⟩) p).trans p4
          have hp8 := hpr.mono b8
          have hsl := selL_len (visP y4) xs n
          have HB8 := Lib.hid b8
          clear hown b8' b8 hNr hLr hpr hLt
          go_wp2_with (first | (go_at_call 13; refine (a2Has_any sa _ sc _ (y : Int) w8 hS8 (by omega)).mono ?_; rintro e w8b ⟨rfl, rfl⟩; rw [HM.out]) | (go_at_call 15; refine (iPos_any ny y1 y2 y3 y4 _ hp8).mono ?_; rintro e w9 ⟨rfl, b9⟩; rw [HSP.out]))
          go_roundw
          case rel => exact ⟨k + 1, by omega, by go_num, belowCall hBr (belowCall HB8.out b9)⟩
          case measure => simp [Go.RowKit.intOf]; omega
        · have hk0' : ¬ (0 : Int) < (k : Int) := by omega
          go_wp2
          go_big_quiet (first | (go_at_call 13; refine Calls.quiet_of_same (a2Has_no _ k cn _ (y : Int) _ (hLt.mono (belowDN (Below.refl _ _) _)) (by omega) hy3)))
          go_wp2_with fail
          refine (iVisibleAt_any (some ⟨b2, o2, none⟩) n c xs y4 _ (hLr.mono (by (repeat (first | assumption | exact Below.refl _ _ | refine belowDN ?_ _ | refine Below.drew ?_ | refine Below.setCell ?_ (by first | omega | (simp <;> omega)) _ | refine Below.alloc ?_ (by first | omega | (simp <;> omega)) _ | refine belowCall ?_ (by assumption))))) (by omega)).mono ?_
          rintro e w8 ⟨hch, b8'⟩
          have b8 : Below wr.heap.size wr w8 := belowCall (by (repeat (first | assumption | exact Below.refl _ _ | refine belowDN ?_ _ | refine Below.drew ?_ | refine Below.setCell ?_ (by first | omega | (simp <;> omega)) _ | refine Below.alloc ?_ (by first | omega | (simp <;> omega)) _ | refine belowCall ?_ (by assumption)))) b8'
          rcases hch with ⟨_, v8, rfl, hown⟩ | ⟨hbad, _⟩
          rotate_left
          · rw [HOK.out, hmg] at hbad; cases hbad
          obtain ⟨sa, sc, rfl, hS8⟩ := own_lst hown rfl
          have hc8 := (b8.cell (p := ⟨b1, o1 + k, none⟩) hb1).trans hc1
          have r0 := (b8.cell (p := ⟨b2, o2 + y * 5, none⟩) p).trans p0
          have r1 := (b8.cell (p := ⟨b2, o2 + y * 5 + 1, none⟩) p).trans p1
          have r2 := (b8.cell (p := ⟨b2, o2 + y * 5 + 2, none⟩) p).trans p2
          have r3 := (b8.cell (p := ⟨b2, o2 + y * 5 + 3, none⟩) p).trans p3
          have r4 := (b8.cell (p := ⟨b2, o2 + y * 5 + 4, none⟩) p).trans p4
          have hp8 := hpr.mono b8
          have hsl := selL_len (visP y4) xs n
          have HB8 := Lib.hid b8
          clear hown b8' b8 hNr hLr hpr hLt
          go_wp2_with (first | (go_at_call 13; refine (a2Has_any sa _ sc _ (y : Int) w8 hS8 (by omega)).mono ?_; rintro e w8b ⟨rfl, rfl⟩; rw [HM.out]) | (go_at_call 15; refine (iPos_any ny y1 y2 y3 y4 _ hp8).mono ?_; rintro e w9 ⟨rfl, b9⟩; rw [HSP.out]))
          go_roundw
          case rel => exact ⟨k + 1, by omega, by go_num, belowCall hBr (belowCall HB8.out b9)⟩
          case measure => simp [Go.RowKit.intOf]; omega
      · obtain rfl : k = n := by omega
        go_wp2
        go_ret
        exact ⟨rfl, belowCall hB7 hBr⟩

set_option maxRecDepth 100000 in
theorem contract (H : Type) (enc : TypeId × Value → H) (W : World) (base : Nat) (args : Array Value) (ds gs : List (DataW H)) (before : List MemPlace)
    (hval : ∀ (j : Nat) t v, Tryz.f3.params[j]? = some t → args[j]? = some v → Value.okWide Tryz.prog W .any base t v)
    (hW : DataW.Whole enc Tryz.prog Tryz.f3.params.toList Rows.fnCataloguesSpec.vars false W args.toList ds gs before) (hL : laidMetH Tryz.prog Rows.fnCataloguesRow.laid W) (hSh : W.ShapedOpen Tryz.prog) :
    Calls Tryz.prog 3 args W fun e W' => ∃ v, e = .returned v ∧ Rows.fnCataloguesSpec.post enc Tryz.prog Tryz.f3 false true false false W args v W' := by
  have hW' := hW
  obtain ⟨p, q, hA0, hV, rfl, hfz, hnd⟩ := hW
  have hA : DataW.TrodAll enc Tryz.prog W 0 (fun _ => true) true Tryz.f3.params.toList args.toList ds p := hA0
  rw [Tryz.params3] at hA hval
  obtain ⟨v0, vs0, d0, ds0, p0, q0, hargs, rfl, rfl, h0, r0⟩ := trodAll_cons hA
  obtain ⟨v1, vs1, d1, ds1, p1, q1, rfl, rfl, rfl, h1, r1⟩ := trodAll_cons r0
  obtain ⟨rfl, rfl, rfl⟩ := trodAll_nil r1
  obtain rfl : args = #[v0, v1] := by cases args; simp_all
  have hV2 := hV
  obtain ⟨gN, tN, csN, fuN, dN, pN, rfl, _, _, _, _, _⟩ := trodVars_one hV
  have k0 := h0
  have lt0 : ∀ x ∈ p0, x.block < W.heap.size := by obtain ⟨m, hm⟩ := k0; exact DataW.trod_lt m _ _ _ hm
  obtain ⟨a0, len0, cap0, rfl⟩ := okWide_slice Tryz.underlying22 (hval 0 22 v0 rfl rfl)
  obtain ⟨z0, w0⟩ : ∃ zs, IsRow .u8 W a0 len0 cap0 zs := by
    obtain ⟨fuel, hf⟩ := h0
    rcases open_ints Tryz.underlying22 Tryz.underlying5 (by kernel_rfl) hf with ⟨hcs, _⟩ | ⟨x, l, c, zs, hcs, _, hl, hm, hz, _, hcell, hwz⟩
    · simp [Value.cells] at hcs
      obtain ⟨rfl, rfl, rfl⟩ := hcs
      exact ⟨[], .inl ⟨rfl, rfl, rfl, rfl⟩⟩
    · simp [Value.cells] at hcs
      obtain ⟨rfl, rfl, rfl⟩ := hcs
      exact ⟨zs, .inr ⟨_, rfl, hl, hm, by simpa using hz, hcell, hwz⟩⟩
  have k1 := h1
  have lt1 : ∀ x ∈ p1, x.block < W.heap.size := by obtain ⟨m, hm⟩ := k1; exact DataW.trod_lt m _ _ _ hm
  obtain ⟨a1, len1, cap1, rfl⟩ := okWide_slice Tryz.underlying22 (hval 1 22 v1 rfl rfl)
  obtain ⟨z1, w1⟩ : ∃ zs, IsRow .u8 W a1 len1 cap1 zs := by
    obtain ⟨fuel, hf⟩ := h1
    rcases open_ints Tryz.underlying22 Tryz.underlying5 (by kernel_rfl) hf with ⟨hcs, _⟩ | ⟨x, l, c, zs, hcs, _, hl, hm, hz, _, hcell, hwz⟩
    · simp [Value.cells] at hcs
      obtain ⟨rfl, rfl, rfl⟩ := hcs
      exact ⟨[], .inl ⟨rfl, rfl, rfl, rfl⟩⟩
    · simp [Value.cells] at hcs
      obtain ⟨rfl, rfl, rfl⟩ := hcs
      exact ⟨zs, .inr ⟨_, rfl, hl, hm, by simpa using hz, hcell, hwz⟩⟩
  clear hA0
  refine (walk a0 len0 cap0 z0 a1 len1 cap1 z1 W w0 w1 hL hSh).mono fun e W' ⟨he, bel⟩ => ?_
  subst he
  exact ⟨_, rfl, _, _, _, [], _, _, hW', trodAll_mk1 (shut_bool Tryz.underlying4 _), (trodAll_cons_mk (Below.trod laidOut (by kernel_rfl) (of_decide_eq_true (by kernel_rfl)) k0 bel lt0) (trodAll_cons_mk (Below.trod laidOut (by kernel_rfl) (of_decide_eq_true (by kernel_rfl)) k1 bel lt1) trodAll_mk0)), Below.trodVars laidOut bel (by kernel_rfl) hV2, bel.frame _, fun h => by cases h⟩
noncomputable def low : Nat := (World.holding Tryz.prog default ⟨#[], #[], []⟩).heap.size
/-- a world for the witness: the settled one, the listed variables holding what their initialisers lay -/
noncomputable def laidCells : Nat → Obj → Obj
  | 7, .cells _ t frozen => .cells #[.int .u8 0, .int .u8 1, .int .u8 28, .int .u8 2, .int .u8 29, .int .u8 14, .int .u8 24, .int .u8 3, .int .u8 30, .int .u8 22, .int .u8 20, .int .u8 15, .int .u8 25, .int .u8 17, .int .u8 4, .int .u8 8, .int .u8 31, .int .u8 27, .int .u8 13, .int .u8 23, .int .u8 21, .int .u8 19, .int .u8 16, .int .u8 7, .int .u8 26, .int .u8 12, .int .u8 18, .int .u8 6, .int .u8 11, .int .u8 5, .int .u8 10, .int .u8 9] t frozen
  | 8, .cells _ t frozen => .cells #[.int .u8 0, .int .u8 1, .int .u8 56, .int .u8 2, .int .u8 57, .int .u8 49, .int .u8 28, .int .u8 3, .int .u8 61, .int .u8 58, .int .u8 42, .int .u8 50, .int .u8 38, .int .u8 29, .int .u8 17, .int .u8 4, .int .u8 62, .int .u8 47, .int .u8 59, .int .u8 36, .int .u8 45, .int .u8 43, .int .u8 51, .int .u8 22, .int .u8 53, .int .u8 39, .int .u8 33, .int .u8 30, .int .u8 24, .int .u8 18, .int .u8 12, .int .u8 5, .int .u8 63, .int .u8 55, .int .u8 48, .int .u8 27, .int .u8 60, .int .u8 41, .int .u8 37, .int .u8 16, .int .u8 46, .int .u8 35, .int .u8 44, .int .u8 21, .int .u8 52, .int .u8 32, .int .u8 23, .int .u8 11, .int .u8 54, .int .u8 26, .int .u8 40, .int .u8 15, .int .u8 34, .int .u8 20, .int .u8 31, .int .u8 10, .int .u8 25, .int .u8 14, .int .u8 19, .int .u8 9, .int .u8 13, .int .u8 8, .int .u8 7, .int .u8 6] t frozen
  | 6, .cells _ t frozen => .cells #[.int .u64 1, .int .u64 10, .int .u64 100, .int .u64 1000, .int .u64 10000, .int .u64 100000, .int .u64 1000000, .int .u64 10000000, .int .u64 100000000, .int .u64 1000000000, .int .u64 10000000000, .int .u64 100000000000, .int .u64 1000000000000, .int .u64 10000000000000, .int .u64 100000000000000, .int .u64 1000000000000000, .int .u64 10000000000000000, .int .u64 100000000000000000, .int .u64 1000000000000000000, .int .u64 10000000000000000000] t frozen
  | 0, .cells _ t frozen => .cells #[.iface 199 (.pointer (some ⟨low + 0, 0, none⟩))] t frozen
  | _, o => o
noncomputable def laidWorld (os : Os) : World :=
  { World.holding Tryz.prog os ⟨#[.cells #[.string ⟨#[110, 111, 32, 101, 110, 116, 114, 121, 32, 104, 97, 115, 32, 116, 104, 101, 32, 110, 97, 109, 101]⟩] 201], #[], []⟩ with heap := (World.holding Tryz.prog os ⟨#[.cells #[.string ⟨#[110, 111, 32, 101, 110, 116, 114, 121, 32, 104, 97, 115, 32, 116, 104, 101, 32, 110, 97, 109, 101]⟩] 201], #[], []⟩).heap.mapIdx laidCells }
set_option maxRecDepth 100000 in
theorem laid_met (os : Os) : laidMet Tryz.prog Rows.fnCataloguesRow.laid ((laidWorld os).forCall (fun _ _ => 0) ⟨#[], #[.slice none 0 0, .slice none 0 0], []⟩).memory :=
  laidMet_of_run' 8 (by kernel_rfl) (by kernel_rfl)
set_option maxRecDepth 100000 in
theorem reads (os : Os) {H : Type} (enc : TypeId × Value → H) : ∃ places, DataW.whole enc Tryz.prog ((laidWorld os).forCall (fun _ _ => 0) ⟨#[], #[.slice none 0 0, .slice none 0 0], []⟩).memory Tryz.f3.params.toList Rows.fnCataloguesSpec.vars false (#[.slice none 0 0, .slice none 0 0] : Array Value).toList 8 = some ([.nil, .nil], [.held (enc (199, .pointer (some ⟨low + 0, 0, none⟩)))], places) :=
  ⟨((DataW.whole enc Tryz.prog ((laidWorld os).forCall (fun _ _ => 0) ⟨#[], #[.slice none 0 0, .slice none 0 0], []⟩).memory Tryz.f3.params.toList Rows.fnCataloguesSpec.vars false (#[.slice none 0 0, .slice none 0 0] : Array Value).toList 8).getD ([], [], [])).2.2, by kernel_rfl⟩
set_option maxRecDepth 100000 in
theorem lifted (os : Os) (started : os.Started) (H : Type) (enc : TypeId × Value → H) (F : Stop.Interp) :
    ReturnsInHanded {} Tryz.checked os 3 .any ((OpenSpec.ofChange Rows.fnCataloguesSpec).preRow enc Tryz.prog Tryz.f3 Rows.fnCataloguesRow.domain false Rows.fnCataloguesRow.laid) (((OpenSpec.ofChange Rows.fnCataloguesSpec).at F).post enc Tryz.prog Tryz.f3 false true false false) := by
  obtain ⟨places, hx⟩ := reads os enc
  refine returnsInHanded_of_row (C := Tryz.checked) (s := OpenSpec.ofChange Rows.fnCataloguesSpec) own started (by kernel_rfl) Tryz.func3
    (witness_row_at (enc := enc) (C := Tryz.checked) false (laidWorld os) #[.slice none 0 0, .slice none 0 0] rfl (by kernel_rfl) (by kernel_rfl) (by kernel_rfl)
      (OpenSpec.preRow_of_cond 8 hx (by kernel_rfl) (fun k hk => by cases hk) (by kernel_rfl) (laid_met os))) ?_
  intro W base args ds gs before hval hW _ _ _ hL hSh _
  exact contract H enc W base args ds gs before hval hW hL hSh
theorem said : Rows.FnCataloguesSaid :=
  OpenClaim.holds_of_cond 3 Tryz.f3 rfl rfl rfl rfl rfl rfl rfl ⟨rfl, rfl, rfl, rfl, rfl⟩ rfl rfl rfl rfl rfl (by kernel_rfl) Tryz.func3 (by kernel_rfl)
    (of_decide_eq_true (by kernel_rfl)) (by unfold Func.isWrapper; first | (rw [if_pos (by decide +kernel)]; kernel_rfl) | (rw [if_neg (by decide +kernel)]; exact ⟨rfl, rfl⟩))
    (fun os started H enc _ F => by rw [OpenClaim.pre_eq_preRow]; exact lifted os started H enc F)
theorem plain (f : FuncId) (fn : Func) (hf : Tryz.pinned.checked.prog.funcNamed "loop.example/g01026/laws.FnCatalogues" = some f) (hfn : Tryz.pinned.checked.prog.funcs[f]? = some fn) :
    true = Tryz.pinned.checked.prog.looks [] ∧ ∀ (j : Nat) t, fn.params[j]? = some t → Tryz.pinned.checked.prog.wantsStandIn t = false := by
  obtain rfl : f = 3 := Option.some.inj ((show Tryz.prog.funcNamed "loop.example/g01026/laws.FnCatalogues" = some 3 by kernel_rfl).symm.trans hf) |>.symm
  obtain rfl : fn = Tryz.f3 := (Option.some.inj (Tryz.func3.symm.trans hfn)).symm
  refine ⟨by kernel_rfl, fun j t ht => ?_⟩
  rw [Tryz.params3] at ht
  have hm := Array.mem_of_getElem? ht
  simp at hm
  subst hm
  exact (show Tryz.prog.wantsStandIn 22 = false by kernel_rfl)
theorem proved : Rows.FnCataloguesCardSaid :=
  Claim7.holds_tied_plain_at .later [] _ _ _ _ said (fun _ h => by cases h) (by kernel_rfl) (fun _ h => by cases h) fnCatalogues_row_tie rfl ⟨rfl, rfl⟩ (by kernel_rfl) rfl plain (by kernel_rfl)
#print axioms proved
end Go.Proofs.YtfnjndbnogeddaaGreatDoor.fnCatalogues
