/- FnCatalogues: for every input the law returns true: a star that is added is found in a valid catalogue, and stars are ordered by their ranges. The card: the library's tables that its road names stand as their initialisers lay them. The arguments read behind the call as before. -/
import Derived.Test.YtlbphdbcjhggjaaDoorB1
import Derived.Test.YtlbphdbcjhggjaaDoorK3
import Derived.Test.YtlbphdbcjhggjaaDoorC1
import Derived.Test.YtlbphdbcjhggjaaDoorS9
import Derived.Test.YtlbphdbcjhggjaaDoorA4
import Derived.Test.YtlbphdbcjhggjaaDoorI3
import Derived.Test.YtlbphdbcjhggjaaDoorV3
import Derived.Test.YtlbphdbcjhggjaaDoorP1
import Derived.Test.YtlbphdbcjhggjaaDoorCards
import Derived.Test.YtlbphdbcjhggjaaDoorTie
import Derived.Deep.DeepHandedRow
import Derived.Lib.LaidTab
import Derived.ChangeOld
import Derived.Lib.SmallJoins
import Derived.LaidSub
import Derived.Deep.RegionHeld3
import Derived.BigQuiet
namespace Go.Proofs.YtlbphdbcjhggjaaDoor.fnCatalogues
open Go.ChangeShapes Go.WideShapes Go.ChangeAt Go.RowKit
open Go.ChangeMaps (open_string shut_string)
set_option linter.unusedVariables false

theorem own : ownKnob Tryd.prog.godebug = none := by kernel_rfl
theorem laidOut : laidOutB Tryd.prog = true := by kernel_rfl
theorem pow_of {W : World} (h : laidMetH Tryd.prog Rows.fnCataloguesRow.laid W) : Pow W := by
  have h' : laidMetH Tryd.prog [("internal/strconv.uint64pow10", Rows.laid_internal_strconv_uint64pow10)] W := laidMetH.filter (fun x => x.1 == "internal/strconv.uint64pow10") h
  exact Lib.tabIs_of_head (rest := []) pow_global pow_type Tryd.underlying124 Tryd.underlying74 (by kernel_rfl) (by kernel_rfl) h'
theorem a2Has_no (a : Option Addr) (n c : Nat) (zs : List Int) (m : Int) (w : World) (h : Lst w a n zs) (hn : n ≤ 1048576) (hm : decide (m ∈ zs) = false) :
    Calls Tryd.prog 12 #[.slice a n c, .int .i64 m] w fun e w' => e = .returned (.bool false) ∧ w' = w :=
  (a2Has_any a n c zs m w h hn).mono fun e w' hh => ⟨by rw [hh.1, hm], hh.2.symm⟩
theorem lst_take {w : World} {a : Option Addr} {n k : Nat} {zs : List Int} (h : Lst w a n zs) (hk : k ≤ n) : Lst w a k (zs.take k) :=
  ⟨by rw [List.length_take, h.1]; omega, fun j hj => by
    obtain ⟨b, o, e, h1, h2⟩ := h.2 j (by omega)
    exact ⟨b, o, e, h1, by rw [h2]; simp [hj]⟩⟩
theorem posV_some {x : St} (h : starB x = true) : ∃ s : ByteArray, posV x = .string s ∧ (s.toList == []) = false := by
  refine ⟨⟨(posP x.2.1 x.2.2.1).toArray⟩, by simp [posV, h, strV], ?_⟩
  rw [ByteArray.toList_eq]
  simp [posP, sixL]
theorem nm_max {nm : ByteArray} {a d u v : Int} (h : starB (nm, a, d, u, v) = true) : nm.size ≤ maxLen := by
  simp only [starB, Bool.and_eq_true] at h
  have h1 := h.1.1.1.1.1
  simp only [nameB, Bool.and_eq_true, decide_eq_true_eq] at h1
  unfold maxLen; omega
theorem own_cap {w : World} {B T n : Nat} {v : Value} {xs : List Int} (h : w.ownsRow B T 1 v n (xs.map (Value.int .i64))) (hn : xs.length = n) : ∃ a c, v = .slice a n c ∧ Lst w a n xs ∧ n ≤ c := by
  rcases h.2 with ⟨hv, h0⟩ | ⟨g, cap, cur, hv, _, _, hc, _⟩
  · exact ⟨none, 0, by rw [hv, h0], ⟨hn, fun i hi => absurd hi (by omega)⟩, by omega⟩
  · subst hv
    exact ⟨some ⟨g, 0, none⟩, cap, rfl, Lst.of_own h, hc⟩
theorem sel_vis {xs : List St} {n y : Nat} {ny : ByteArray} {y1 y2 y3 y4 : Int} (hy : y < n) (hx : xs[y]?.getD st0 = (ny, y1, y2, y3, y4)) (h : y3 ≤ y4) : decide ((y : Int) ∈ selL (visP y4) xs n) = true := by
  rw [decide_eq_true_eq]
  simp only [selL, List.mem_map, List.mem_filter, List.mem_range]
  exact ⟨y, ⟨hy, by rw [hx]; exact inB_iff.2 ⟨h, Int.le_refl _⟩⟩, rfl⟩
theorem okS_ix {xs : List St} {n : Nat} (hn : xs.length = n) (h : okS xs = true) (k : Nat) (hk : k < n) : starB (xs[k]?.getD st0) = true := by
  have := (okS_parts hn h).2 k hk
  simp only [okAt, Bool.and_eq_true] at this
  exact this.1
theorem sVS_any (a : Option Addr) (n c : Nat) (xs : List St) (w : World) (h : StL w a n xs) (hn : n ≤ 1048576) (hok : okS xs = true) :
    Calls Tryd.prog 9 #[.slice a n c] w fun e w' => e = .returned (.bool true) ∧ Below w.heap.size w w' := by
  go_enter Tryd.func9, Tryd.ntmps9
  go_wp2_with fail
  refine (l04Ok_any a n c xs w h hn).mono ?_
  rintro e w2 ⟨rfl, q, rfl⟩
  rw [hok]
  go_wp2
  go_ret
  exact ⟨rfl, belowDN (Below.refl _ _) _⟩
set_option maxRecDepth 100000 in
set_option maxHeartbeats 8000000 in

theorem walk (a0 : Option Addr) (len0 cap0 : Nat) (z0 : List Int) (a1 : Option Addr) (len1 cap1 : Nat) (z1 : List Int) (w : World) (w0 : IsRow .u8 w a0 len0 cap0 z0) (w1 : IsRow .u8 w a1 len1 cap1 z1) (hL : laidMetH Tryd.prog Rows.fnCataloguesRow.laid w) (hSh : w.ShapedOpen Tryd.prog) :
    Calls Tryd.prog 3 #[.slice a0 len0 cap0, .slice a1 len1 cap1] w fun e w' => e = .returned (.bool true) ∧ Below w.heap.size w w' := by
  have hp := pow_of hL
  clear hL
  have hb0 := LstB.of_row w0
  have hb1 := LstB.of_row w1
  clear w0 w1
  cases hlong : (decide (3000 < (len0 : Int)) || decide (3000 < (len1 : Int)))
  case true =>
    have HL := Lib.hid hlong
    clear hlong
    go_enter Tryd.func3, Tryd.ntmps3
    go_wp2_with fail
    refine (a2Long_any _ _ _ _ _ _ _).mono ?_
    rintro e w' ⟨rfl, rfl⟩
    rw [HL.out]
    go_wp2
    go_ret
    exact ⟨rfl, Below.refl _ _⟩
  have HL := Lib.hid hlong
  have hl0 : len0 ≤ 3000 := by simp at hlong; omega
  have hl1 : len1 ≤ 3000 := by simp at hlong; omega
  clear hlong
  go_enter Tryd.func3, Tryd.ntmps3
  go_wp2_with fail
  refine (a2Long_any _ _ _ _ _ _ _).mono ?_
  rintro e w' ⟨rfl, rfl⟩
  rw [HL.out]
  go_wp2_with fail
  refine (A2Stars_any a0 len0 cap0 w hb0 (by omega)).mono ?_
  rintro e w1 ⟨a, n, c, xs, rfl, hL1, hok, hn6, hB1⟩
  have hb1' := hb1.below hB1
  have hz1 := hB1.size
  have hb1'' : LstB w1 w1.heap.size a1 len1 := fun i hi => by
    obtain ⟨b, off, v, e, hlt, hc, h0, h1⟩ := hb1' i hi
    exact ⟨b, off, v, e, by omega, hc, h0, h1⟩
  go_wp2_with fail
  refine (A2Star_any a1 len1 cap1 w1 hb1'' (by omega)).mono ?_
  rintro e w2 ⟨nm, x1, x2, x3, x4, rfl, hst, hB2'⟩
  have hL2 := hL1.mono hB2'
  have hB2 := belowCall hB1 hB2'
  have hz2 := hB2.size
  clear hb0 hb1 hb1' hb1'' hL1 hB1 hB2'
  have hX := StC.fresh w2 27 nm x1 x2 x3 x4
  have hB3 : Below w.heap.size w (w2.alloc (.cells #[.string nm, .int .i64 x1, .int .i64 x2, .int .i64 x3, .int .i64 x4] 27)) := by (repeat (first | assumption | exact Below.refl _ _ | refine belowDN ?_ _ | refine Below.drew ?_ | refine Below.setCell ?_ (by first | omega | (simp <;> omega)) _ | refine Below.alloc ?_ (by first | omega | (simp <;> omega)) _ | refine belowCall ?_ (by assumption)))
  have hL3 : StL (w2.alloc (.cells #[.string nm, .int .i64 x1, .int .i64 x2, .int .i64 x3, .int .i64 x4] 27)) a n xs := hL2.mono ((Below.refl _ _).alloc (Nat.le_refl _) _)
  go_wp2_with fail
  generalize (w2.alloc (.cells #[.string nm, .int .i64 x1, .int .i64 x2, .int .i64 x3, .int .i64 x4] 27)) = w3 at hX hB3 hL3 ⊢
  generalize w2.heap.size = X at hX hz2 ⊢
  clear hL2 hB2
  have hnm := nm_max hst
  have HN := Lib.hid hL3.1
  refine (iAddStar_any a n c xs nm x1 x2 x3 x4 w3 hL3 (by omega) hnm).mono ?_
  rintro e w4 ⟨hadd, hB4'⟩
  have hX4 := hX.mono hB4'
  have hL4 := hL3.mono hB4'
  have hB4 := belowCall hB3 hB4'
  clear hX hL3 hB3 hB4'
  rcases hadd with ⟨h0, g, c', rfl, hown⟩ | ⟨h0, rfl⟩
  · have hnf : ¬ findS xs nm < xs.length := fun h => by
      rw [addC_has (x := (nm, x1, x2, x3, x4)) hok hst h] at h0
      omega
    have hyok := addL_ok hok hst hnf (by rw [HN.out]; omega)
    obtain ⟨hf1, hf2⟩ := addL_find (x := (nm, x1, x2, x3, x4)) hok hnf
    have hyl : (addL xs (nm, x1, x2, x3, x4)).length = n + 1 := by rw [addL_len (none_ne hnf), HN.out]
    have hY4 := StL.of_own hown rfl
    rw [hyl] at hY4 ⊢
    rw [hyl] at hf1
    clear hown h0 hnf
    generalize addL xs (nm, x1, x2, x3, x4) = ys at hyok hf1 hf2 hyl hY4
    have HSN := Lib.hid (snV_at (xs := ys) (nm := nm) hyok (by rw [hyl]; exact hf1))
    have HYL := Lib.hid hyl
    have HYOK := Lib.hid hyok
    obtain ⟨_, q0, -, -, -, -⟩ := hX4.parts
    clear hyl hyok
    go_wp2_with fail
    refine (iStarNamed_any _ (n + 1) c' ys nm w4 hY4 (by omega) hnm).mono ?_
    rintro e w5 ⟨rfl, hB5'⟩
    rw [HSN.out]
    have hX5 := hX4.mono hB5'
    have hL5 := hL4.mono hB5'
    have hY5 := hY4.mono hB5'
    have hB5 := belowCall hB4 hB5'
    clear q0 hX4 hL4 hY4 hB4 hB5' HSN
    generalize findS ys nm = k at hf1 hf2
    obtain ⟨b1, o1, e1, hyc⟩ := hY5.2 k hf1
    cases e1
    rw [hf2] at hyc
    obtain ⟨hXl, q0, q1, q2, q3, q4⟩ := hX5.parts
    rw [Nat.zero_add] at q1 q2 q3 q4
    obtain ⟨hYl, r0, r1, r2, r3, r4⟩ := hyc.parts
    rw [Nat.zero_add] at r0 r1 r2 r3 r4
    have hNE := neq_star nm nm x1 x1 x2 x2 x3 x3 x4 x4
    rw [stE_self] at hNE
    have hk0 : ¬ ((k : Nat) : Int) < 0 := by omega
    have hk1 : ((k : Nat) : Int) < (n : Int) + 1 := by omega
    have hnn : (((n : Int) + 1) != ((n : Int) + 1)) = false := by simp
    have hnn2 : (((n + 1 : Nat) : Int) != ((n : Int) + 1)) = false := by simp
    have hwn : IntKind.i64.wrap ((n : Int) + 1) = (n : Int) + 1 := by simp only [IntKind.wrap_i64]; omega
    have hnn3 : (((n : Int) + 1) != IntKind.i64.wrap ((n : Int) + 1)) = false := by rw [hwn]; simp
    have hnn4 : (((n + 1 : Nat) : Int) != IntKind.i64.wrap ((n : Int) + 1)) = false := by rw [hwn]; simp
    have hd0 : decide ((k : Int) < 0) = false := by simp
    have hd1 : decide ((n : Int) + 1 ≤ (k : Int)) = false := by simp; omega
    have hd2 : decide (((n + 1 : Nat) : Int) ≤ (k : Int)) = false := by simp; omega
    clear hf1 hf2 hyc
    go_wp2
    go_region_held3 (fun W' => W'.cell? ⟨X, 0, none⟩ = some (.string nm) ∧ W'.cell? ⟨X, 1, none⟩ = some (.int .i64 x1) ∧ W'.cell? ⟨X, 2, none⟩ = some (.int .i64 x2) ∧ W'.cell? ⟨X, 3, none⟩ = some (.int .i64 x3) ∧ W'.cell? ⟨X, 4, none⟩ = some (.int .i64 x4) ∧ W'.cell? ⟨g, k * 5, none⟩ = some (.string nm) ∧ W'.cell? ⟨g, k * 5 + 1, none⟩ = some (.int .i64 x1) ∧ W'.cell? ⟨g, k * 5 + 2, none⟩ = some (.int .i64 x2) ∧ W'.cell? ⟨g, k * 5 + 3, none⟩ = some (.int .i64 x3) ∧ W'.cell? ⟨g, k * 5 + 4, none⟩ = some (.int .i64 x4)) (refine ⟨?_, ?_, ?_, ?_, ?_, ?_, ?_, ?_, ?_, ?_⟩ <;> first | assumption | exact ((show Below w5.heap.size w5 _ by (repeat (first | assumption | exact Below.refl _ _ | refine belowDN ?_ _ | refine Below.drew ?_ | refine Below.setCell ?_ (by first | omega | (simp <;> omega)) _ | refine Below.alloc ?_ (by first | omega | (simp <;> omega)) _ | refine belowCall ?_ (by assumption)))).cell (p := ⟨X, 0, none⟩) hXl).trans q0 | exact ((show Below w5.heap.size w5 _ by (repeat (first | assumption | exact Below.refl _ _ | refine belowDN ?_ _ | refine Below.drew ?_ | refine Below.setCell ?_ (by first | omega | (simp <;> omega)) _ | refine Below.alloc ?_ (by first | omega | (simp <;> omega)) _ | refine belowCall ?_ (by assumption)))).cell (p := ⟨X, 1, none⟩) hXl).trans q1 | exact ((show Below w5.heap.size w5 _ by (repeat (first | assumption | exact Below.refl _ _ | refine belowDN ?_ _ | refine Below.drew ?_ | refine Below.setCell ?_ (by first | omega | (simp <;> omega)) _ | refine Below.alloc ?_ (by first | omega | (simp <;> omega)) _ | refine belowCall ?_ (by assumption)))).cell (p := ⟨X, 2, none⟩) hXl).trans q2 | exact ((show Below w5.heap.size w5 _ by (repeat (first | assumption | exact Below.refl _ _ | refine belowDN ?_ _ | refine Below.drew ?_ | refine Below.setCell ?_ (by first | omega | (simp <;> omega)) _ | refine Below.alloc ?_ (by first | omega | (simp <;> omega)) _ | refine belowCall ?_ (by assumption)))).cell (p := ⟨X, 3, none⟩) hXl).trans q3 | exact ((show Below w5.heap.size w5 _ by (repeat (first | assumption | exact Below.refl _ _ | refine belowDN ?_ _ | refine Below.drew ?_ | refine Below.setCell ?_ (by first | omega | (simp <;> omega)) _ | refine Below.alloc ?_ (by first | omega | (simp <;> omega)) _ | refine belowCall ?_ (by assumption)))).cell (p := ⟨X, 4, none⟩) hXl).trans q4 | exact ((show Below w5.heap.size w5 _ by (repeat (first | assumption | exact Below.refl _ _ | refine belowDN ?_ _ | refine Below.drew ?_ | refine Below.setCell ?_ (by first | omega | (simp <;> omega)) _ | refine Below.alloc ?_ (by first | omega | (simp <;> omega)) _ | refine belowCall ?_ (by assumption)))).cell (p := ⟨g, k * 5, none⟩) hYl).trans r0 | exact ((show Below w5.heap.size w5 _ by (repeat (first | assumption | exact Below.refl _ _ | refine belowDN ?_ _ | refine Below.drew ?_ | refine Below.setCell ?_ (by first | omega | (simp <;> omega)) _ | refine Below.alloc ?_ (by first | omega | (simp <;> omega)) _ | refine belowCall ?_ (by assumption)))).cell (p := ⟨g, k * 5 + 1, none⟩) hYl).trans r1 | exact ((show Below w5.heap.size w5 _ by (repeat (first | assumption | exact Below.refl _ _ | refine belowDN ?_ _ | refine Below.drew ?_ | refine Below.setCell ?_ (by first | omega | (simp <;> omega)) _ | refine Below.alloc ?_ (by first | omega | (simp <;> omega)) _ | refine belowCall ?_ (by assumption)))).cell (p := ⟨g, k * 5 + 2, none⟩) hYl).trans r2 | exact ((show Below w5.heap.size w5 _ by (repeat (first | assumption | exact Below.refl _ _ | refine belowDN ?_ _ | refine Below.drew ?_ | refine Below.setCell ?_ (by first | omega | (simp <;> omega)) _ | refine Below.alloc ?_ (by first | omega | (simp <;> omega)) _ | refine belowCall ?_ (by assumption)))).cell (p := ⟨g, k * 5 + 3, none⟩) hYl).trans r3 | exact ((show Below w5.heap.size w5 _ by (repeat (first | assumption | exact Below.refl _ _ | refine belowDN ?_ _ | refine Below.drew ?_ | refine Below.setCell ?_ (by first | omega | (simp <;> omega)) _ | refine Below.alloc ?_ (by first | omega | (simp <;> omega)) _ | refine belowCall ?_ (by assumption)))).cell (p := ⟨g, k * 5 + 4, none⟩) hYl).trans r4) (first | (go_at_call 9; refine (sVS_any _ (n + 1) c' ys _ (hY5.mono (by (repeat (first | assumption | exact Below.refl _ _ | refine belowDN ?_ _ | refine Below.drew ?_ | refine Below.setCell ?_ (by first | omega | (simp <;> omega)) _ | refine Below.alloc ?_ (by first | omega | (simp <;> omega)) _ | refine belowCall ?_ (by assumption))))) (by omega) HYOK.out).mono ?_; rintro e w6a ⟨rfl, b6a⟩; have b6 : Below w5.heap.size w5 w6a := belowCall (by (repeat (first | assumption | exact Below.refl _ _ | refine belowDN ?_ _ | refine Below.drew ?_ | refine Below.setCell ?_ (by first | omega | (simp <;> omega)) _ | refine Below.alloc ?_ (by first | omega | (simp <;> omega)) _ | refine belowCall ?_ (by assumption)))) b6a) | (go_at_call 10; refine (iValidStars_any _ (n + 1) c' ys _ (hY5.mono (by (repeat (first | assumption | exact Below.refl _ _ | refine belowDN ?_ _ | refine Below.drew ?_ | refine Below.setCell ?_ (by first | omega | (simp <;> omega)) _ | refine Below.alloc ?_ (by first | omega | (simp <;> omega)) _ | refine belowCall ?_ (by assumption))))) (by omega)).mono ?_; rintro e w6 ⟨rfl, b7a⟩; rw [HYOK.out]; have b7 : Below w5.heap.size w5 w6 := belowCall (by (repeat (first | assumption | exact Below.refl _ _ | refine belowDN ?_ _ | refine Below.drew ?_ | refine Below.setCell ?_ (by first | omega | (simp <;> omega)) _ | refine Below.alloc ?_ (by first | omega | (simp <;> omega)) _ | refine belowCall ?_ (by assumption)))) b7a))
    all_goals
      have hB6 := belowCall hB5 b7
      have hL6 := hL5.mono b7
      clear q0 q1 q2 q3 q4 r0 r1 r2 r3 r4 hX5 hL5 hY5 hB5 b7 b6 hNE hnn hnn2 hnn3 hnn4 hwn hd0 hd1 hd2 hk0 hk1 hXl hYl
      have hp6 : Pow w6 := hp.mono hB6
      go_wp2_with fail
      refine (iByAmp_any a n c xs w6 hL6 (by omega)).mono ?_
      rintro e w7 ⟨hch, hB7'⟩
      rcases hch with ⟨_, v7, rfl, hown⟩ | ⟨hbad, _⟩
      rotate_left
      · rw [hok] at hbad; cases hbad
      rw [ampL_len] at hown
      obtain ⟨an, cn, rfl, hN7, hnc⟩ := own_cap hown (ampL_len xs n)
      have hL7 := hL6.mono hB7'
      have hB7 := belowCall hB6 hB7'
      have hp7 := hp6.mono hB7'
      have hnn0 : ((n : Int) != (n : Int)) = false := by simp
      have HOK := Lib.hid hok
      clear hown hL6 hB6 hB7' hp6 hok
      go_wp2
      go_loopw [13] (fun i wr => ∃ k : Nat, k ≤ n ∧ i = .int .i64 k ∧ Below w7.heap.size w7 wr) (fun i _ => n - (Go.RowKit.intOf i).toNat)
      case atStart => exact ⟨0, Nat.zero_le _, rfl, Below.refl _ _⟩
      case round =>
        obtain ⟨k, hk, rfl, hBr⟩ := hrel
        by_cases hlt : k < n
        · have hNr := hN7.mono hBr
          have hLr := hL7.mono hBr
          have hpr := hp7.mono hBr
          obtain ⟨y, hy1, hy2, hy3, hy4⟩ := ampL_facts (xs := xs) hlt
          obtain ⟨b1, o1, rfl, hb1, hc1⟩ := hNr.2 k hlt
          rw [hy2] at hc1
          obtain ⟨b2, o2, rfl, hc2⟩ := hLr.2 y hy1
          obtain ⟨⟨ny, y1, y2, y3, y4⟩, hyx⟩ : ∃ s, xs[y]?.getD st0 = s := ⟨_, rfl⟩
          have hsy := okS_ix HN.out HOK.out y hy1
          rw [hyx] at hc2 hsy
          obtain ⟨-, -, -, -, -, s1, s2, s3⟩ := star_bd hsy
          obtain ⟨p, p0, p1, p2, p3, p4⟩ := hc2.parts
          have HM := Lib.hid (sel_vis hy1 hyx s2)
          have HYX := Lib.hid hyx
          have HY4 := Lib.hid hy4
          obtain ⟨sp, hsp, hspe⟩ := posV_some hsy
          have HSP := Lib.hid hsp
          have hLt := lst_take hNr hk
          have hyn : (y : Int) < (n : Int) := by omega
          have hkk : (k : Int) < (n : Int) := by omega
          have hkcn : (k : Int) ≤ (cn : Int) := by omega
          have d1 : decide ((y : Int) < 0) = false := by simp
          have d2 : decide ((n : Int) ≤ (y : Int)) = false := by simp; omega
          have d2n : decide (n ≤ y) = false := by simp; omega
          have hmg : magB y4 = true := magB_iff.2 ⟨by omega, s3⟩
          clear hyx hy2 hy4 hsp hc2 hnn0
          by_cases hk0 : 0 < k
          · have hk0' : (0 : Int) < (k : Int) := by omega
            obtain ⟨k', hk'⟩ : ∃ k', k = k' + 1 := ⟨k - 1, by omega⟩
            obtain ⟨z, hz1, hz2, -, hz4⟩ := ampL_facts (xs := xs) (n := n) (i := k') (by omega)
            obtain ⟨b1', o1', e1, hb1', hd1⟩ := hNr.2 k' (by omega)
            cases e1
            rw [hz2] at hd1
            obtain ⟨b2', o2', e2, hd2⟩ := hLr.2 z hz1
            cases e2
            obtain ⟨⟨nz, z1, z2, z3, z4⟩, hzx⟩ : ∃ s, xs[z]?.getD st0 = s := ⟨_, rfl⟩
            have hsz := okS_ix HN.out HOK.out z hz1
            rw [hzx] at hd2 hsz
            obtain ⟨-, -, -, -, -, t1, t2, t3⟩ := star_bd hsz
            obtain ⟨-, u0, u1, u2, u3, u4⟩ := hd2.parts
            have hfl : ¬ (z4 - z3 < y4 - y3) := by
              have h9 := ampL_falls (xs := xs) (n := n) (i := k') (by omega)
              rw [← hk', HY4.out, hz4, ampV, ampV, HYX.out, hzx] at h9
              have h10 : y4 - y3 ≤ z4 - z3 := h9
              omega
            have s1k : (k : Int) - 1 = (k' : Int) := by omega
            have s3k : (k' : Int) < (n : Int) := by omega
            have hzn : (z : Int) < (n : Int) := by omega
            clear hk' hz2 hz4 hzx hd2 hsz
            go_wp2
            go_big_quiet (first | (go_at_call 12; refine Calls.quiet_of_same (a2Has_no _ k cn _ (y : Int) _ (hLt.mono (belowDN (Below.refl _ _) _)) (by omega) hy3)))
            have hBq : Below wr.heap.size wr (wr.drewN nq) := belowDN (Below.refl _ _) nq
            generalize wr.drewN nq = wq at hBq ⊢
            have hc1q := (hBq.cell (p := ⟨b1, o1 + k, none⟩) hb1).trans hc1
            have hd1q := (hBq.cell (p := ⟨b1, o1 + k', none⟩) hb1').trans hd1
            have p0q := (hBq.cell (p := ⟨b2, o2 + y * 5, none⟩) p).trans p0
            have p1q := (hBq.cell (p := ⟨b2, o2 + y * 5 + 1, none⟩) p).trans p1
            have p2q := (hBq.cell (p := ⟨b2, o2 + y * 5 + 2, none⟩) p).trans p2
            have p3q := (hBq.cell (p := ⟨b2, o2 + y * 5 + 3, none⟩) p).trans p3
            have p4q := (hBq.cell (p := ⟨b2, o2 + y * 5 + 4, none⟩) p).trans p4
            have u0q := (hBq.cell (p := ⟨b2, o2 + z * 5, none⟩) p).trans u0
            have u1q := (hBq.cell (p := ⟨b2, o2 + z * 5 + 1, none⟩) p).trans u1
            have u2q := (hBq.cell (p := ⟨b2, o2 + z * 5 + 2, none⟩) p).trans u2
            have u3q := (hBq.cell (p := ⟨b2, o2 + z * 5 + 3, none⟩) p).trans u3
            have u4q := (hBq.cell (p := ⟨b2, o2 + z * 5 + 4, none⟩) p).trans u4
            have hqz := hBq.size
            have m1 : b1 < wq.heap.size := by omega
            have m2 : b2 < wq.heap.size := by omega
            have m3 : b1 ≠ wq.heap.size := by omega
            have m4 : b2 ≠ wq.heap.size := by omega
            have m5 : b1 ≠ wq.heap.size + 1 := by omega
            have m6 : b2 ≠ wq.heap.size + 1 := by omega
            go_wp2_with fail
            refine (iVisibleAt_any (some ⟨b2, o2, none⟩) n c xs y4 _ (hLr.mono (by (repeat (first | assumption | exact Below.refl _ _ | refine belowDN ?_ _ | refine Below.drew ?_ | refine Below.setCell ?_ (by first | omega | (simp <;> omega)) _ | refine Below.alloc ?_ (by first | omega | (simp <;> omega)) _ | refine belowCall ?_ (by assumption))))) (by omega)).mono ?_
            rintro e w8 ⟨hch, b8'⟩
            have b8 : Below wr.heap.size wr w8 := belowCall (by (repeat (first | assumption | exact Below.refl _ _ | refine belowDN ?_ _ | refine Below.drew ?_ | refine Below.setCell ?_ (by first | omega | (simp <;> omega)) _ | refine Below.alloc ?_ (by first | omega | (simp <;> omega)) _ | refine belowCall ?_ (by assumption)))) b8'
            rcases hch with ⟨_, v8, rfl, hown⟩ | ⟨hbad, _⟩
            rotate_left
            · rw [HOK.out, hmg] at hbad; cases hbad
            obtain ⟨sa, sc, rfl, hS8⟩ := own_lst hown rfl
            have hc8 := (b8.cell (p := ⟨b1, o1 + k, none⟩) hb1).trans hc1
            have r0 := (b8.cell (p := ⟨b2, o2 + y * 5, none⟩) p).trans p0
            have r1 := (b8.cell (p := ⟨b2, o2 + y * 5 + 1, none⟩) p).trans p1
            have r2 := (b8.cell (p := ⟨b2, o2 + y * 5 + 2, none⟩) p).trans p2
            have r3 := (b8.cell (p := ⟨b2, o2 + y * 5 + 3, none⟩) p).trans p3
            have r4 := (b8.cell (p := ⟨b2, o2 + y * 5 + 4, none⟩) p).trans p4
            have hp8 := hpr.mono b8
            have hsl := selL_len (visP y4) xs n
            have HB8 := Lib.hid b8
            clear hown b8' b8 hNr hLr hpr hLt
            go_wp2_with (first | (go_at_call 12; refine (a2Has_any sa _ sc _ (y : Int) w8 hS8 (by omega)).mono ?_; rintro e w8b ⟨rfl, rfl⟩; rw [HM.out]) | (go_at_call 14; refine (iPos_any ny y1 y2 y3 y4 _ hp8).mono ?_; rintro e w9 ⟨rfl, b9⟩; rw [HSP.out]))
            go_roundw
            case rel => exact ⟨k + 1, by omega, by go_num, belowCall hBr (belowCall HB8.out b9)⟩
            case measure => simp [Go.RowKit.intOf]; omega
          · have hk0' : ¬ (0 : Int) < (k : Int) := by omega
            go_wp2
            go_big_quiet (first | (go_at_call 12; refine Calls.quiet_of_same (a2Has_no _ k cn _ (y : Int) _ (hLt.mono (belowDN (Below.refl _ _) _)) (by omega) hy3)))
            go_wp2_with fail
            refine (iVisibleAt_any (some ⟨b2, o2, none⟩) n c xs y4 _ (hLr.mono (by (repeat (first | assumption | exact Below.refl _ _ | refine belowDN ?_ _ | refine Below.drew ?_ | refine Below.setCell ?_ (by first | omega | (simp <;> omega)) _ | refine Below.alloc ?_ (by first | omega | (simp <;> omega)) _ | refine belowCall ?_ (by assumption))))) (by omega)).mono ?_
            rintro e w8 ⟨hch, b8'⟩
            have b8 : Below wr.heap.size wr w8 := belowCall (by (repeat (first | assumption | exact Below.refl _ _ | refine belowDN ?_ _ | refine Below.drew ?_ | refine Below.setCell ?_ (by first | omega | (simp <;> omega)) _ | refine Below.alloc ?_ (by first | omega | (simp <;> omega)) _ | refine belowCall ?_ (by assumption)))) b8'
            rcases hch with ⟨_, v8, rfl, hown⟩ | ⟨hbad, _⟩
            rotate_left
            · rw [HOK.out, hmg] at hbad; cases hbad
            obtain ⟨sa, sc, rfl, hS8⟩ := own_lst hown rfl
            have hc8 := (b8.cell (p := ⟨b1, o1 + k, none⟩) hb1).trans hc1
            have r0 := (b8.cell (p := ⟨b2, o2 + y * 5, none⟩) p).trans p0
            have r1 := (b8.cell (p := ⟨b2, o2 + y * 5 + 1, none⟩) p).trans p1
            have r2 := (b8.cell (p := ⟨b2, o2 + y * 5 + 2, none⟩) p).trans p2
            have r3 := (b8.cell (p := ⟨b2, o2 + y * 5 + 3, none⟩) p).trans p3
            have r4 := (b8.cell (p := ⟨b2, o2 + y * 5 + 4, none⟩) p).trans p4
            have hp8 := hpr.mono b8
            have hsl := selL_len (visP y4) xs n
            have HB8 := Lib.hid b8
            clear hown b8' b8 hNr hLr hpr hLt
            go_wp2_with (first | (go_at_call 12; refine (a2Has_any sa _ sc _ (y : Int) w8 hS8 (by omega)).mono ?_; rintro e w8b ⟨rfl, rfl⟩; rw [HM.out]) | (go_at_call 14; refine (iPos_any ny y1 y2 y3 y4 _ hp8).mono ?_; rintro e w9 ⟨rfl, b9⟩; rw [HSP.out]))
            go_roundw
            case rel => exact ⟨k + 1, by omega, by go_num, belowCall hBr (belowCall HB8.out b9)⟩
            case measure => simp [Go.RowKit.intOf]; omega
        · obtain rfl : k = n := by omega
          go_wp2
          go_ret
          exact ⟨rfl, belowCall hB7 hBr⟩
  · have hc4 : addC xs (nm, x1, x2, x3, x4) = 4 := by
      by_cases hf : findS xs nm < xs.length
      · exact addC_has (x := (nm, x1, x2, x3, x4)) hok hst hf
      · exact absurd (addC_zero (x := (nm, x1, x2, x3, x4)) hok hst hf (by rw [HN.out]; omega)) h0
    rw [hc4]
    clear h0 hc4
    have hB6 := hB4
    have hL6 := hL4
    generalize w4 = w6 at hB6 hL6 ⊢
    clear hX4 hL4 hB4
    have hp6 : Pow w6 := hp.mono hB6
    go_wp2_with fail
    refine (iByAmp_any a n c xs w6 hL6 (by omega)).mono ?_
    rintro e w7 ⟨hch, hB7'⟩
    rcases hch with ⟨_, v7, rfl, hown⟩ | ⟨hbad, _⟩
    rotate_left
    · rw [hok] at hbad; cases hbad
    rw [ampL_len] at hown
    obtain ⟨an, cn, rfl, hN7, hnc⟩ := own_cap hown (ampL_len xs n)
    have hL7 := hL6.mono hB7'
    have hB7 := belowCall hB6 hB7'
    have hp7 := hp6.mono hB7'
    have hnn0 : ((n : Int) != (n : Int)) = false := by simp
    have HOK := Lib.hid hok
    clear hown hL6 hB6 hB7' hp6 hok
    go_wp2
    go_loopw [13] (fun i wr => ∃ k : Nat, k ≤ n ∧ i = .int .i64 k ∧ Below w7.heap.size w7 wr) (fun i _ => n - (Go.RowKit.intOf i).toNat)
    case atStart => exact ⟨0, Nat.zero_le _, rfl, Below.refl _ _⟩
    case round =>
      obtain ⟨k, hk, rfl, hBr⟩ := hrel
      by_cases hlt : k < n
      · have hNr := hN7.mono hBr
        have hLr := hL7.mono hBr
        have hpr := hp7.mono hBr
        obtain ⟨y, hy1, hy2, hy3, hy4⟩ := ampL_facts (xs := xs) hlt
        obtain ⟨b1, o1, rfl, hb1, hc1⟩ := hNr.2 k hlt
        rw [hy2] at hc1
        obtain ⟨b2, o2, rfl, hc2⟩ := hLr.2 y hy1
        obtain ⟨⟨ny, y1, y2, y3, y4⟩, hyx⟩ : ∃ s, xs[y]?.getD st0 = s := ⟨_, rfl⟩
        have hsy := okS_ix HN.out HOK.out y hy1
        rw [hyx] at hc2 hsy
        obtain ⟨-, -, -, -, -, s1, s2, s3⟩ := star_bd hsy
        obtain ⟨p, p0, p1, p2, p3, p4⟩ := hc2.parts
        have HM := Lib.hid (sel_vis hy1 hyx s2)
        have HYX := Lib.hid hyx
        have HY4 := Lib.hid hy4
        obtain ⟨sp, hsp, hspe⟩ := posV_some hsy
        have HSP := Lib.hid hsp
        have hLt := lst_take hNr hk
        have hyn : (y : Int) < (n : Int) := by omega
        have hkk : (k : Int) < (n : Int) := by omega
        have hkcn : (k : Int) ≤ (cn : Int) := by omega
        have d1 : decide ((y : Int) < 0) = false := by simp
        have d2 : decide ((n : Int) ≤ (y : Int)) = false := by simp; omega
        have d2n : decide (n ≤ y) = false := by simp; omega
        have hmg : magB y4 = true := magB_iff.2 ⟨by omega, s3⟩
        clear hyx hy2 hy4 hsp hc2 hnn0
        by_cases hk0 : 0 < k
        · have hk0' : (0 : Int) < (k : Int) := by omega
          obtain ⟨k', hk'⟩ : ∃ k', k = k' + 1 := ⟨k - 1, by omega⟩
          obtain ⟨z, hz1, hz2, -, hz4⟩ := ampL_facts (xs := xs) (n := n) (i := k') (by omega)
          obtain ⟨b1', o1', e1, hb1', hd1⟩ := hNr.2 k' (by omega)
          cases e1
          rw [hz2] at hd1
          obtain ⟨b2', o2', e2, hd2⟩ := hLr.2 z hz1
          cases e2
          obtain ⟨⟨nz, z1, z2, z3, z4⟩, hzx⟩ : ∃ s, xs[z]?.getD st0 = s := ⟨_, rfl⟩
          have hsz := okS_ix HN.out HOK.out z hz1
          rw [hzx] at hd2 hsz
          obtain ⟨-, -, -, -, -, t1, t2, t3⟩ := star_bd hsz
          obtain ⟨-, u0, u1, u2, u3, u4⟩ := hd2.parts
          have hfl : ¬ (z4 - z3 < y4 - y3) := by
            have h9 := ampL_falls (xs := xs) (n := n) (i := k') (by omega)
            rw [← hk', HY4.out, hz4, ampV, ampV, HYX.out, hzx] at h9
            have h10 : y4 - y3 ≤ z4 - z3 := h9
            omega
          have s1k : (k : Int) - 1 = (k' : Int) := by omega
          have s3k : (k' : Int) < (n : Int) := by omega
          have hzn : (z : Int) < (n : Int) := by omega
          clear hk' hz2 hz4 hzx hd2 hsz
          go_wp2
          go_big_quiet (first | (go_at_call 12; refine Calls.quiet_of_same (a2Has_no _ k cn _ (y : Int) _ (hLt.mono (belowDN (Below.refl _ _) _)) (by omega) hy3)))
          have hBq : Below wr.heap.size wr (wr.drewN nq) := belowDN (Below.refl _ _) nq
          generalize wr.drewN nq = wq at hBq ⊢
          have hc1q := (hBq.cell (p := ⟨b1, o1 + k, none⟩) hb1).trans hc1
          have hd1q := (hBq.cell (p := ⟨b1, o1 + k', none⟩) hb1').trans hd1
          have p0q := (hBq.cell (p := ⟨b2, o2 + y * 5, none⟩) p).trans p0
          have p1q := (hBq.cell (p := ⟨b2, o2 + y * 5 + 1, none⟩) p).trans p1
          have p2q := (hBq.cell (p := ⟨b2, o2 + y * 5 + 2, none⟩) p).trans p2
          have p3q := (hBq.cell (p := ⟨b2, o2 + y * 5 + 3, none⟩) p).trans p3
          have p4q := (hBq.cell (p := ⟨b2, o2 + y * 5 + 4, none⟩) p).trans p4
          have u0q := (hBq.cell (p := ⟨b2, o2 + z * 5, none⟩) p).trans u0
          have u1q := (hBq.cell (p := ⟨b2, o2 + z * 5 + 1, none⟩) p).trans u1
          have u2q := (hBq.cell (p := ⟨b2, o2 + z * 5 + 2, none⟩) p).trans u2
          have u3q := (hBq.cell (p := ⟨b2, o2 + z * 5 + 3, none⟩) p).trans u3
          have u4q := (hBq.cell (p := ⟨b2, o2 + z * 5 + 4, none⟩) p).trans u4
          have hqz := hBq.size
          have m1 : b1 < wq.heap.size := by omega
          have m2 : b2 < wq.heap.size := by omega
          have m3 : b1 ≠ wq.heap.size := by omega
          have m4 : b2 ≠ wq.heap.size := by omega
          have m5 : b1 ≠ wq.heap.size + 1 := by omega
          have m6 : b2 ≠ wq.heap.size + 1 := by omega
          go_wp2_with fail
          refine (iVisibleAt_any (some ⟨b2, o2, none⟩) n c xs y4 _ (hLr.mono (by (repeat (first | assumption | exact Below.refl _ _ | refine belowDN ?_ _ | refine Below.drew ?_ | refine Below.setCell ?_ (by first | omega | (simp <;> omega)) _ | refine Below.alloc ?_ (by first | omega | (simp <;> omega)) _ | refine belowCall ?_ (by assumption))))) (by omega)).mono ?_
          rintro e w8 ⟨hch, b8'⟩
          have b8 : Below wr.heap.size wr w8 := belowCall (by (repeat (first | assumption | exact Below.refl _ _ | refine belowDN ?_ _ | refine Below.drew ?_ | refine Below.setCell ?_ (by first | omega | (simp <;> omega)) _ | refine Below.alloc ?_ (by first | omega | (simp <;> omega)) _ | refine belowCall ?_ (by assumption)))) b8'
          rcases hch with ⟨_, v8, rfl, hown⟩ | ⟨hbad, _⟩
          rotate_left
          · rw [HOK.out, hmg] at hbad; cases hbad
          obtain ⟨sa, sc, rfl, hS8⟩ := own_lst hown rfl
          have hc8 := (b8.cell (p := ⟨b1, o1 + k, none⟩) hb1).trans hc1
          have r0 := (b8.cell (p := ⟨b2, o2 + y * 5, none⟩) p).trans p0
          have r1 := (b8.cell (p := ⟨b2, o2 + y * 5 + 1, none⟩) p).trans p1
          have r2 := (b8.cell (p := ⟨b2, o2 + y * 5 + 2, none⟩) p).trans p2
          have r3 := (b8.cell (p := ⟨b2, o2 + y * 5 + 3, none⟩) p).trans p3
          have r4 := (b8.cell (p := ⟨b2, o2 + y * 5 + 4, none⟩) p).trans p4
          have hp8 := hpr.mono b8
          have hsl := selL_len (visP y4) xs n
          have HB8 := Lib.hid b8
          clear hown b8' b8 hNr hLr hpr hLt
          go_wp2_with (first | (go_at_call 12; refine (a2Has_any sa _ sc _ (y : Int) w8 hS8 (by omega)).mono ?_; rintro e w8b ⟨rfl, rfl⟩; rw [HM.out]) | (go_at_call 14; refine (iPos_any ny y1 y2 y3 y4 _ hp8).mono ?_; rintro e w9 ⟨rfl, b9⟩; rw [HSP.out]))
          go_roundw
          case rel => exact ⟨k + 1, by omega, by go_num, belowCall hBr (belowCall HB8.out b9)⟩
          case measure => simp [Go.RowKit.intOf]; omega
        · have hk0' : ¬ (0 : Int) < (k : Int) := by omega
          go_wp2
          go_big_quiet (first | (go_at_call 12; refine Calls.quiet_of_same (a2Has_no _ k cn _ (y : Int) _ (hLt.mono (belowDN (Below.refl _ _) _)) (by omega) hy3)))
          go_wp2_with fail
          refine (iVisibleAt_any (some ⟨b2, o2, none⟩) n c xs y4 _ (hLr.mono (by (repeat (first | assumption | exact Below.refl _ _ | refine belowDN ?_ _ | refine Below.drew ?_ | refine Below.setCell ?_ (by first | omega | (simp <;> omega)) _ | refine Below.alloc ?_ (by first | omega | (simp <;> omega)) _ | refine belowCall ?_ (by assumption))))) (by omega)).mono ?_
          rintro e w8 ⟨hch, b8'⟩
          have b8 : Below wr.heap.size wr w8 := belowCall (by (repeat (first | assumption | exact Below.refl _ _ | refine belowDN ?_ _ | refine Below.drew ?_ | refine Below.setCell ?_ (by first | omega | (simp <;> omega)) _ | refine Below.alloc ?_ (by first | omega | (simp <;> omega)) _ | refine belowCall ?_ (by assumption)))) b8'
          rcases hch with ⟨_, v8, rfl, hown⟩ | ⟨hbad, _⟩
          rotate_left
          · rw [HOK.out, hmg] at hbad; cases hbad
          obtain ⟨sa, sc, rfl, hS8⟩ := own_lst hown rfl
          have hc8 := (b8.cell (p := ⟨b1, o1 + k, none⟩) hb1).trans hc1
          have r0 := (b8.cell (p := ⟨b2, o2 + y * 5, none⟩) p).trans p0
          have r1 := (b8.cell (p := ⟨b2, o2 + y * 5 + 1, none⟩) p).trans p1
          have r2 := (b8.cell (p := ⟨b2, o2 + y * 5 + 2, none⟩) p).trans p2
          have r3 := (b8.cell (p := ⟨b2, o2 + y * 5 + 3, none⟩) p).trans p3
          have r4 := (b8.cell (p := ⟨b2, o2 + y * 5 + 4, none⟩) p).trans p4
          have hp8 := hpr.mono b8
          have hsl := selL_len (visP y4) xs n
          have HB8 := Lib.hid b8
          clear hown b8' b8 hNr hLr hpr hLt
          go_wp2_with (first | (go_at_call 12; refine (a2Has_any sa _ sc _ (y : Int) w8 hS8 (by omega)).mono ?_; rintro e w8b ⟨rfl, rfl⟩; rw [HM.out]) | (go_at_call 14; refine (iPos_any ny y1 y2 y3 y4 _ hp8).mono ?_; rintro e w9 ⟨rfl, b9⟩; rw [HSP.out]))
          go_roundw
          case rel => exact ⟨k + 1, by omega, by go_num, belowCall hBr (belowCall HB8.out b9)⟩
          case measure => simp [Go.RowKit.intOf]; omega
      · obtain rfl : k = n := by omega
        go_wp2
        go_ret
        exact ⟨rfl, belowCall hB7 hBr⟩

set_option maxRecDepth 100000 in
theorem contract (H : Type) (enc : TypeId × Value → H) (W : World) (base : Nat) (args : Array Value) (ds gs : List (DataW H)) (before : List MemPlace)
    (hval : ∀ (j : Nat) t v, Tryd.f3.params[j]? = some t → args[j]? = some v → Value.okWide Tryd.prog W .any base t v)
    (hW : DataW.Whole enc Tryd.prog Tryd.f3.params.toList Rows.fnCataloguesSpec.vars false W args.toList ds gs before) (hL : laidMetH Tryd.prog Rows.fnCataloguesRow.laid W) (hSh : W.ShapedOpen Tryd.prog) :
    Calls Tryd.prog 3 args W fun e W' => ∃ v, e = .returned v ∧ Rows.fnCataloguesSpec.post enc Tryd.prog Tryd.f3 false true false false W args v W' := by
  have hW' := hW
  obtain ⟨p, q, hA0, hV, rfl, hfz, hnd⟩ := hW
  have hA : DataW.TrodAll enc Tryd.prog W 0 (fun _ => true) true Tryd.f3.params.toList args.toList ds p := hA0
  rw [Tryd.params3] at hA hval
  obtain ⟨v0, vs0, d0, ds0, p0, q0, hargs, rfl, rfl, h0, r0⟩ := trodAll_cons hA
  obtain ⟨v1, vs1, d1, ds1, p1, q1, rfl, rfl, rfl, h1, r1⟩ := trodAll_cons r0
  obtain ⟨rfl, rfl, rfl⟩ := trodAll_nil r1
  obtain rfl : args = #[v0, v1] := by cases args; simp_all
  obtain ⟨rfl, rfl⟩ := trodVars_none hV
  have k0 := h0
  have lt0 : ∀ x ∈ p0, x.block < W.heap.size := by obtain ⟨m, hm⟩ := k0; exact DataW.trod_lt m _ _ _ hm
  obtain ⟨a0, len0, cap0, rfl⟩ := okWide_slice Tryd.underlying22 (hval 0 22 v0 rfl rfl)
  obtain ⟨z0, w0⟩ : ∃ zs, IsRow .u8 W a0 len0 cap0 zs := by
    obtain ⟨fuel, hf⟩ := h0
    rcases open_ints Tryd.underlying22 Tryd.underlying5 (by kernel_rfl) hf with ⟨hcs, _⟩ | ⟨x, l, c, zs, hcs, _, hl, hm, hz, _, hcell, hwz⟩
    · simp [Value.cells] at hcs
      obtain ⟨rfl, rfl, rfl⟩ := hcs
      exact ⟨[], .inl ⟨rfl, rfl, rfl, rfl⟩⟩
    · simp [Value.cells] at hcs
      obtain ⟨rfl, rfl, rfl⟩ := hcs
      exact ⟨zs, .inr ⟨_, rfl, hl, hm, by simpa using hz, hcell, hwz⟩⟩
  have k1 := h1
  have lt1 : ∀ x ∈ p1, x.block < W.heap.size := by obtain ⟨m, hm⟩ := k1; exact DataW.trod_lt m _ _ _ hm
  obtain ⟨a1, len1, cap1, rfl⟩ := okWide_slice Tryd.underlying22 (hval 1 22 v1 rfl rfl)
  obtain ⟨z1, w1⟩ : ∃ zs, IsRow .u8 W a1 len1 cap1 zs := by
    obtain ⟨fuel, hf⟩ := h1
    rcases open_ints Tryd.underlying22 Tryd.underlying5 (by kernel_rfl) hf with ⟨hcs, _⟩ | ⟨x, l, c, zs, hcs, _, hl, hm, hz, _, hcell, hwz⟩
    · simp [Value.cells] at hcs
      obtain ⟨rfl, rfl, rfl⟩ := hcs
      exact ⟨[], .inl ⟨rfl, rfl, rfl, rfl⟩⟩
    · simp [Value.cells] at hcs
      obtain ⟨rfl, rfl, rfl⟩ := hcs
      exact ⟨zs, .inr ⟨_, rfl, hl, hm, by simpa using hz, hcell, hwz⟩⟩
  clear hA0
  refine (walk a0 len0 cap0 z0 a1 len1 cap1 z1 W w0 w1 hL hSh).mono fun e W' ⟨he, bel⟩ => ?_
  subst he
  exact ⟨_, rfl, _, _, _, [], _, [], hW', trodAll_mk1 (shut_bool Tryd.underlying4 _), (trodAll_cons_mk (Below.trod laidOut (by kernel_rfl) (of_decide_eq_true (by kernel_rfl)) k0 bel lt0) (trodAll_cons_mk (Below.trod laidOut (by kernel_rfl) (of_decide_eq_true (by kernel_rfl)) k1 bel lt1) trodAll_mk0)), rfl, bel.frame _, fun h => by cases h⟩
noncomputable def low : Nat := (World.holding Tryd.prog default ⟨#[], #[], []⟩).heap.size
/-- a world for the witness: the settled one, the listed variables holding what their initialisers lay -/
noncomputable def laidCells : Nat → Obj → Obj
  | 2, .cells _ t frozen => .cells #[.int .u8 0, .int .u8 1, .int .u8 28, .int .u8 2, .int .u8 29, .int .u8 14, .int .u8 24, .int .u8 3, .int .u8 30, .int .u8 22, .int .u8 20, .int .u8 15, .int .u8 25, .int .u8 17, .int .u8 4, .int .u8 8, .int .u8 31, .int .u8 27, .int .u8 13, .int .u8 23, .int .u8 21, .int .u8 19, .int .u8 16, .int .u8 7, .int .u8 26, .int .u8 12, .int .u8 18, .int .u8 6, .int .u8 11, .int .u8 5, .int .u8 10, .int .u8 9] t frozen
  | 3, .cells _ t frozen => .cells #[.int .u8 0, .int .u8 1, .int .u8 56, .int .u8 2, .int .u8 57, .int .u8 49, .int .u8 28, .int .u8 3, .int .u8 61, .int .u8 58, .int .u8 42, .int .u8 50, .int .u8 38, .int .u8 29, .int .u8 17, .int .u8 4, .int .u8 62, .int .u8 47, .int .u8 59, .int .u8 36, .int .u8 45, .int .u8 43, .int .u8 51, .int .u8 22, .int .u8 53, .int .u8 39, .int .u8 33, .int .u8 30, .int .u8 24, .int .u8 18, .int .u8 12, .int .u8 5, .int .u8 63, .int .u8 55, .int .u8 48, .int .u8 27, .int .u8 60, .int .u8 41, .int .u8 37, .int .u8 16, .int .u8 46, .int .u8 35, .int .u8 44, .int .u8 21, .int .u8 52, .int .u8 32, .int .u8 23, .int .u8 11, .int .u8 54, .int .u8 26, .int .u8 40, .int .u8 15, .int .u8 34, .int .u8 20, .int .u8 31, .int .u8 10, .int .u8 25, .int .u8 14, .int .u8 19, .int .u8 9, .int .u8 13, .int .u8 8, .int .u8 7, .int .u8 6] t frozen
  | 1, .cells _ t frozen => .cells #[.int .u64 1, .int .u64 10, .int .u64 100, .int .u64 1000, .int .u64 10000, .int .u64 100000, .int .u64 1000000, .int .u64 10000000, .int .u64 100000000, .int .u64 1000000000, .int .u64 10000000000, .int .u64 100000000000, .int .u64 1000000000000, .int .u64 10000000000000, .int .u64 100000000000000, .int .u64 1000000000000000, .int .u64 10000000000000000, .int .u64 100000000000000000, .int .u64 1000000000000000000, .int .u64 10000000000000000000] t frozen
  | _, o => o
noncomputable def laidWorld (os : Os) : World :=
  { World.holding Tryd.prog os ⟨#[], #[], []⟩ with heap := (World.holding Tryd.prog os ⟨#[], #[], []⟩).heap.mapIdx laidCells }
set_option maxRecDepth 100000 in
theorem laid_met (os : Os) : laidMet Tryd.prog Rows.fnCataloguesRow.laid ((laidWorld os).forCall (fun _ _ => 0) ⟨#[], #[.slice none 0 0, .slice none 0 0], []⟩).memory :=
  laidMet_of_run' 8 (by kernel_rfl) (by kernel_rfl)
set_option maxRecDepth 100000 in
theorem reads (os : Os) {H : Type} (enc : TypeId × Value → H) : ∃ places, DataW.whole enc Tryd.prog ((laidWorld os).forCall (fun _ _ => 0) ⟨#[], #[.slice none 0 0, .slice none 0 0], []⟩).memory Tryd.f3.params.toList Rows.fnCataloguesSpec.vars false (#[.slice none 0 0, .slice none 0 0] : Array Value).toList 8 = some ([.nil, .nil], [], places) :=
  ⟨[], by kernel_rfl⟩
set_option maxRecDepth 100000 in
theorem lifted (os : Os) (started : os.Started) (H : Type) (enc : TypeId × Value → H) (F : Stop.Interp) :
    ReturnsInHanded {} Tryd.checked os 3 .any ((OpenSpec.ofChange Rows.fnCataloguesSpec).preRow enc Tryd.prog Tryd.f3 Rows.fnCataloguesRow.domain false Rows.fnCataloguesRow.laid) (((OpenSpec.ofChange Rows.fnCataloguesSpec).at F).post enc Tryd.prog Tryd.f3 false true false false) := by
  obtain ⟨places, hx⟩ := reads os enc
  refine returnsInHanded_of_row (C := Tryd.checked) (s := OpenSpec.ofChange Rows.fnCataloguesSpec) own started (by kernel_rfl) Tryd.func3
    (witness_row_at (enc := enc) (C := Tryd.checked) false (laidWorld os) #[.slice none 0 0, .slice none 0 0] rfl (by kernel_rfl) (by kernel_rfl) (by kernel_rfl)
      (OpenSpec.preRow_of_cond 8 hx (by kernel_rfl) (fun k hk => by cases hk) (by kernel_rfl) (laid_met os))) ?_
  intro W base args ds gs before hval hW _ _ _ hL hSh _
  exact contract H enc W base args ds gs before hval hW hL hSh
theorem said : Rows.FnCataloguesSaid :=
  OpenClaim.holds_of_cond 3 Tryd.f3 rfl rfl rfl rfl rfl rfl rfl ⟨rfl, rfl, rfl, rfl, rfl⟩ rfl rfl rfl rfl rfl (by kernel_rfl) Tryd.func3 (by kernel_rfl)
    (of_decide_eq_true (by kernel_rfl)) (by unfold Func.isWrapper; first | (rw [if_pos (by decide +kernel)]; kernel_rfl) | (rw [if_neg (by decide +kernel)]; exact ⟨rfl, rfl⟩))
    (fun os started H enc _ F => by rw [OpenClaim.pre_eq_preRow]; exact lifted os started H enc F)
theorem plain (f : FuncId) (fn : Func) (hf : Tryd.pinned.checked.prog.funcNamed "loop.example/g01026/laws.FnCatalogues" = some f) (hfn : Tryd.pinned.checked.prog.funcs[f]? = some fn) :
    false = Tryd.pinned.checked.prog.looks [] ∧ ∀ (j : Nat) t, fn.params[j]? = some t → Tryd.pinned.checked.prog.wantsStandIn t = false := by
  obtain rfl : f = 3 := Option.some.inj ((show Tryd.prog.funcNamed "loop.example/g01026/laws.FnCatalogues" = some 3 by kernel_rfl).symm.trans hf) |>.symm
  obtain rfl : fn = Tryd.f3 := (Option.some.inj (Tryd.func3.symm.trans hfn)).symm
  refine ⟨by kernel_rfl, fun j t ht => ?_⟩
  rw [Tryd.params3] at ht
  have hm := Array.mem_of_getElem? ht
  simp at hm
  subst hm
  exact (show Tryd.prog.wantsStandIn 22 = false by kernel_rfl)
theorem proved : Rows.FnCataloguesCardSaid :=
  Claim7.holds_tied_plain_at .later [] _ _ _ _ said (fun _ h => by cases h) (by kernel_rfl) (fun _ h => by cases h) fnCatalogues_row_tie rfl ⟨rfl, rfl⟩ (by kernel_rfl) rfl plain (by kernel_rfl)
#print axioms proved
end Go.Proofs.YtlbphdbcjhggjaaDoor.fnCatalogues
