/- FnSkies: for every input the law returns true: a star is in the box around it, and the others of a catalogue are in it just if they are near. The arguments read behind the call as before. -/
import Derived.Test.YtiogffjhhhpolabB1
import Derived.Test.YtiogffjhhhpolabK4
import Derived.ChangeOld
import Derived.Lib.SmallJoins
namespace Go.Proofs.Ytiogffjhhhpolab.fnSkies
open Go.ChangeShapes Go.WideShapes Go.ChangeAt Go.RowKit
open Go.ChangeMaps (open_string shut_string)
set_option linter.unusedVariables false

theorem own : ownKnob Try.prog.godebug = none := by kernel_rfl
theorem laidOut : laidOutB Try.prog = true := by kernel_rfl
theorem quiet_sum {P : Program} {f : FuncId} {args : Array Value} {w : World} {q n : Nat} {v : Value} (h : Calls P f args (w.drewN (q + n)) fun e w' => e = .returned v ∧ w' = w.drewN (q + n)) : Calls P f args (w.drewN (q + n)) fun e w'' => e = .returned v ∧ ∃ m, w'' = w.drewN (q + m) :=
  h.mono fun _ _ hh => ⟨hh.1, n, hh.2⟩
set_option maxRecDepth 100000 in
set_option maxHeartbeats 8000000 in

theorem walk (a0 : Option Addr) (len0 cap0 : Nat) (z0 : List Int) (a1 : Option Addr) (len1 cap1 : Nat) (z1 : List Int) (w : World) (w0 : IsRow .u8 w a0 len0 cap0 z0) (w1 : IsRow .u8 w a1 len1 cap1 z1) :
    Calls Try.prog 12 #[.slice a0 len0 cap0, .slice a1 len1 cap1] w fun e w' => e = .returned (.bool true) ∧ Below w.heap.size w w' := by
  have hb0 := LstB.of_row w0
  have hb1 := LstB.of_row w1
  clear w0 w1
  cases hlong : (decide (3000 < (len0 : Int)) || decide (3000 < (len1 : Int)))
  case true =>
    have HL := Lib.hid hlong
    clear hlong
    go_enter Try.func12, Try.ntmps12
    go_wp2_with fail
    refine (a2Long_any _ _ _ _ _ _ _).mono ?_
    rintro e w' ⟨rfl, rfl⟩
    rw [HL.out]
    go_wp2
    go_ret
    exact ⟨rfl, Below.refl _ _⟩
  have HL := Lib.hid hlong
  have hl0 : len0 ≤ 3000 := by simp at hlong; omega
  have hl1 : len1 ≤ 3000 := by simp at hlong; omega
  clear hlong
  go_enter Try.func12, Try.ntmps12
  go_wp2_with fail
  refine (a2Long_any _ _ _ _ _ _ _).mono ?_
  rintro e w' ⟨rfl, rfl⟩
  rw [HL.out]
  go_wp2_with fail
  refine (A2Stars_any a0 len0 cap0 w hb0 (by omega)).mono ?_
  rintro e w1 ⟨a, n, c, xs, rfl, hL1, hok, hn6, hB1⟩
  have hb1' := hb1.below hB1
  have hz1 := hB1.size
  have hb1'' : LstB w1 w1.heap.size a1 len1 := fun i hi => by
    obtain ⟨b, off, v, e, hlt, hc, h0, h1⟩ := hb1' i hi
    exact ⟨b, off, v, e, by omega, hc, h0, h1⟩
  go_wp2_with fail
  refine (A2Star_any a1 len1 cap1 w1 hb1'' (by omega)).mono ?_
  rintro e w2 ⟨nm, x1, x2, x3, x4, rfl, hst, hB2'⟩
  have hL2 := hL1.mono hB2'
  have hB2 := belowCall hB1 hB2'
  have hb2 := hb1'.below (hB2'.mono hz1)
  have hz2 := hB2.size
  clear hb0 hb1 hb1' hb1'' hL1 hB1 hB2'
  have hX := StC.fresh w2 71 nm x1 x2 x3 x4
  have hB3 : Below w.heap.size w (w2.alloc (.cells #[.string nm, .int .i64 x1, .int .i64 x2, .int .i64 x3, .int .i64 x4] 71)) := by (repeat (first | assumption | exact Below.refl _ _ | refine belowDN ?_ _ | refine Below.drew ?_ | refine Below.setCell ?_ (by first | omega | (simp <;> omega)) _ | refine Below.alloc ?_ (by first | omega | (simp <;> omega)) _ | refine belowCall ?_ (by assumption)))
  have hL3 : StL (w2.alloc (.cells #[.string nm, .int .i64 x1, .int .i64 x2, .int .i64 x3, .int .i64 x4] 71)) a n xs := hL2.mono ((Below.refl _ _).alloc (Nat.le_refl _) _)
  have hb3 : LstB (w2.alloc (.cells #[.string nm, .int .i64 x1, .int .i64 x2, .int .i64 x3, .int .i64 x4] 71)) w.heap.size a1 len1 := hb2.below ((Below.refl _ _).alloc hz2 _)
  go_wp2_with fail
  generalize (w2.alloc (.cells #[.string nm, .int .i64 x1, .int .i64 x2, .int .i64 x3, .int .i64 x4] 71)) = w3 at hX hB3 hL3 hb3 ⊢
  generalize w2.heap.size = X at hX hz2 ⊢
  clear hL2 hb2 hB2
  refine (a2At_any w.heap.size a1 len1 cap1 0 256 w3 hb3 (by omega) (by omega) (by omega)).mono ?_
  rintro e w3' ⟨v, rfl, v0, v1, rfl⟩
  obtain ⟨hXl, q0, q1, q2, q3, q4⟩ := hX.parts
  clear hb3
  go_wp2_with fail
  have hw0 : 0 ≤ 40 * v := by omega
  have hw1 : 40 * v ≤ 10200 := by omega
  generalize 40 * v = wd at hw0 hw1 ⊢
  clear v0 v1
  have HBX := Lib.hid (barV_yes hst (show inB wd 0 40000 = true from inB_iff.2 ⟨hw0, by omega⟩))
  obtain ⟨-, s1, s2, s3, s4, s5, s6, s7⟩ := star_bd hst
  refine (iBox_any nm x1 x2 x3 x4 wd w3).mono ?_
  rintro e w4 ⟨rfl, hB4'⟩
  rw [HBX.out]
  have hbo := box_good (a := x1) (wd := wd) s3 s4 hw0
  obtain ⟨fa, hfa⟩ : ∃ y, (x1 - wd) % 86400 = y := ⟨_, rfl⟩
  obtain ⟨ta, hta⟩ : ∃ y, (x1 + wd) % 86400 = y := ⟨_, rfl⟩
  obtain ⟨fd, hfd⟩ : ∃ y, boxL x2 wd = y := ⟨_, rfl⟩
  obtain ⟨td, htd⟩ : ∃ y, boxU x2 wd = y := ⟨_, rfl⟩
  have HP : Hid (∀ (y : St), starB y = true → inP fa ta fd td y = (decide (apartN x1 y.2.1 ≤ wd) && decide (y.2.2.1 - x2 ≤ 15 * wd) && decide (-15 * wd ≤ y.2.2.1 - x2))) := Lib.hid (by
    rintro ⟨nm', y1, y2, y3, y4⟩ hy
    obtain ⟨-, t1, t2, t3, t4, -⟩ := star_bd hy
    rw [← hfa, ← hta, ← hfd, ← htd]
    exact near_is s1 s2 t1 t2 t3 t4 hw0 (by omega))
  rw [hfa, hta, hfd, htd] at hbo ⊢
  clear hfa hta hfd htd HBX
  have hX4 := hX.mono hB4'
  have hL4 := hL3.mono hB4'
  have hB4 := belowCall hB3 hB4'
  have hbx := BxC.fresh w4 58 fa ta fd td
  have hX5 := hX4.mono ((Below.refl _ w4).alloc (Nat.le_refl _) (.cells #[.int .i64 fa, .int .i64 ta, .int .i64 fd, .int .i64 td] 58))
  have hL5 := hL4.mono ((Below.refl _ w4).alloc (Nat.le_refl _) (.cells #[.int .i64 fa, .int .i64 ta, .int .i64 fd, .int .i64 td] 58))
  have hB5 := hB4.alloc hB4.size (.cells #[.int .i64 fa, .int .i64 ta, .int .i64 fd, .int .i64 td] 58)
  clear q0 q1 q2 q3 q4 hXl hX hL3 hB3 hX4 hL4 hB4 hB4'
  go_wp2_with fail
  generalize (w4.alloc (.cells #[.int .i64 fa, .int .i64 ta, .int .i64 fd, .int .i64 td] 58)) = w5 at hbx hX5 hL5 hB5 ⊢
  generalize w4.heap.size = Bx at hbx ⊢
  refine (iInBox_any a n c xs fa ta fd td w5 hL5 (by omega)).mono ?_
  rintro e w6 ⟨hch, hB6'⟩
  rcases hch with ⟨_, v6, rfl, hown⟩ | ⟨hbad, _⟩
  rotate_left
  · rw [hok, hbo] at hbad; cases hbad
  obtain ⟨an, cn, rfl, hN6⟩ := lst_of_own hown rfl
  have hX6 := hX5.mono hB6'
  have hL6 := hL5.mono hB6'
  have hbx6 := hbx.mono hB6'
  have hB6 := belowCall hB5 hB6'
  have hzs := selL_len (inP fa ta fd td) xs n
  obtain ⟨_, q0, q1, q2, q3, q4⟩ := hX6.parts
  obtain ⟨_, k0, k1, k2, k3⟩ := id hbx6
  clear hown hX5 hL5 hbx hB5 hB6'
  have hS7 := StL.one w6 71 nm x1 x2 x3 x4
  have hX7 := hX6.mono ((Below.refl _ w6).alloc (Nat.le_refl _) (.cells #[.string nm, .int .i64 x1, .int .i64 x2, .int .i64 x3, .int .i64 x4] 71))
  have hL7 := hL6.mono ((Below.refl _ w6).alloc (Nat.le_refl _) (.cells #[.string nm, .int .i64 x1, .int .i64 x2, .int .i64 x3, .int .i64 x4] 71))
  have hN7 := hN6.mono ((Below.refl _ w6).alloc (Nat.le_refl _) (.cells #[.string nm, .int .i64 x1, .int .i64 x2, .int .i64 x3, .int .i64 x4] 71))
  have hB7 := hB6.alloc hB6.size (.cells #[.string nm, .int .i64 x1, .int .i64 x2, .int .i64 x3, .int .i64 x4] 71)
  go_wp2_with fail
  generalize (w6.alloc (.cells #[.string nm, .int .i64 x1, .int .i64 x2, .int .i64 x3, .int .i64 x4] 71)) = w7 at hS7 hX7 hL7 hN7 hB7 ⊢
  generalize w6.heap.size = Sx at hS7 ⊢
  clear q0 q1 q2 q3 q4 k0 k1 k2 k3 hX6 hL6 hbx6 hB6 hN6
  refine (iInBox_any _ 1 1 [(nm, x1, x2, x3, x4)] fa ta fd td w7 hS7 (by omega)).mono ?_
  rintro e w8 ⟨hch, hB8'⟩
  have hok1 : okS [(nm, x1, x2, x3, x4)] = true := okS_snoc (xs := []) okS_nil (by decide) hst (.inl rfl)
  rcases hch with ⟨_, v8, rfl, hown⟩ | ⟨hbad, _⟩
  rotate_left
  · rw [hok1, hbo] at hbad; cases hbad
  have hself : inP fa ta fd td (nm, x1, x2, x3, x4) = true := by
    rw [HP.out _ hst, apartN_self]
    simp
    omega
  have hone : selL (inP fa ta fd td) [(nm, x1, x2, x3, x4)] 1 = [0] := by
    rw [selL_yes (k := 0) (x := (nm, x1, x2, x3, x4)) rfl hself]; rfl
  rw [hone] at hown
  obtain ⟨ao, co, rfl, -⟩ := lst_of_own hown rfl
  have hX8 := hX7.mono hB8'
  have hL8 := hL7.mono hB8'
  have hN8 := hN7.mono hB8'
  have hB8 := belowCall hB7 hB8'
  clear hown hone hself hok1 hS7 hX7 hL7 hN7 hB7 hB8' hbo
  have HOK := Lib.hid hok
  clear hok
  have HZ : Hid (∀ k : Nat, decide ((k : Int) ∈ selL (inP fa ta fd td) xs n) = (decide (k < n) && inP fa ta fd td (xs[k]?.getD st0))) := Lib.hid (fun k => by
    rw [Bool.eq_iff_iff, decide_eq_true_eq, selL_mem, Bool.and_eq_true, decide_eq_true_eq])
  have hr : ∀ j, j < (selL (inP fa ta fd td) xs n).length → 0 ≤ (selL (inP fa ta fd td) xs n)[j]?.getD 0 ∧ (selL (inP fa ta fd td) xs n)[j]?.getD 0 < n := fun j hj => selL_bd (at_mem hj)
  have hp : ∀ j, j + 1 < (selL (inP fa ta fd td) xs n).length → (selL (inP fa ta fd td) xs n)[j]?.getD 0 < (selL (inP fa ta fd td) xs n)[j + 1]?.getD 0 := fun j hj => pair_step (selL_pair _ _ _) hj
  generalize selL (inP fa ta fd td) xs n = zs at hzs hN8 HZ hr hp ⊢
  have HR := Lib.hid hr
  have HPP := Lib.hid hp
  clear hr hp
  go_wp2_with fail
  refine (a2Rises_any an zs.length cn zs n w8 hN8 (by omega) (by omega) HR.out HPP.out).mono ?_
  rintro e w9 ⟨rfl, q, rfl⟩
  clear HR HPP
  have hX9 : StC (w8.drewN q) X 0 (nm, x1, x2, x3, x4) := hX8.mono (belowDN (Below.refl _ _) _)
  have hL9 : StL (w8.drewN q) a n xs := hL8.mono (belowDN (Below.refl _ _) _)
  have hN9 : Lst (w8.drewN q) an zs.length zs := hN8.mono (belowDN (Below.refl _ _) _)
  have hB9 : Below w.heap.size w (w8.drewN q) := belowDN hB8 q
  generalize w8.drewN q = wz at hX9 hL9 hN9 hB9 ⊢
  clear hX8 hL8 hN8 hB8
  have hxa : ascB x1 = true := inB_iff.2 ⟨s1, s2⟩
  have hl : (n : Int) ≤ 6 := by omega
  have HL9 := Lib.hid hL9.1
  go_wp2
  go_loopw [14] (fun i wr => ∃ k q : Nat, k ≤ n ∧ i = .int .i64 k ∧ wr = wz.drewN q) (fun i _ => n - (intOf i).toNat)
  case atStart => exact ⟨0, 0, Nat.zero_le _, rfl, rfl⟩
  case round =>
    obtain ⟨k, q, hk, rfl, rfl⟩ := hrel
    by_cases hlt : k < n
    · obtain ⟨b1, o1, rfl, hc⟩ := hL9.2 k hlt
      obtain ⟨⟨nm', y1, y2, y3, y4⟩, hy⟩ : ∃ y, xs[k]?.getD st0 = y := ⟨_, rfl⟩
      have hys := okS_star HL9.out HOK.out k hlt
      rw [hy] at hc hys
      obtain ⟨-, t1, t2, t3, t4, -⟩ := star_bd hys
      have hya : ascB y1 = true := inB_iff.2 ⟨t1, t2⟩
      obtain ⟨ap, hap⟩ : ∃ ap, apartN x1 y1 = ap := ⟨_, rfl⟩
      have hab := apartN_bd s1 s2 t1 t2
      have hap' : apartN y1 x1 = ap := by rw [apartN_symm]; exact hap
      rw [hap] at hab
      have hM := HZ.out k
      rw [hy, HP.out _ hys, hap, decide_eq_true hlt, Bool.true_and] at hM
      have HM := Lib.hid hM
      clear hM hys hy
      obtain ⟨_, q0, q1, q2, -, -⟩ := hX9.parts
      obtain ⟨p, p0, p1, p2, -, -⟩ := hc.parts
      clear hc q0 p0
      rw [Nat.zero_add] at q1 q2
      have n1 : (ap != ap) = false := by simp
      have n2 : decide (ap < 0) = false := by simp; omega
      have n3 : decide (43200 < ap) = false := by simp; omega
      have hkk : (k : Int) < (n : Int) := by omega
      go_wp2
      go_big_quiet (first | (go_at_call 53; refine quiet_sum (apart_yes _ _ ap _ hxa hya hap)))
      go_wp2
      go_big_quiet (first | (go_at_call 53; refine quiet_sum (apart_yes _ _ ap _ hya hxa hap')))
      go_wp2
      go_big_quiet (fail)
      cases c1 : decide (ap ≤ wd)
      · rw [c1] at HM
        (go_wp2_with (first | (go_at_call 54; refine (a2Has_any an zs.length cn zs (k : Int) _ (hN9.mono (by (repeat (first | assumption | exact Below.refl _ _ | refine belowDN ?_ _ | refine Below.drew ?_ | refine Below.setCell ?_ (by first | omega | (simp <;> omega)) _ | refine Below.alloc ?_ (by first | omega | (simp <;> omega)) _ | refine belowCall ?_ (by assumption))))) (by omega)).mono ?_; rintro e w' ⟨rfl, rfl⟩; rw [HM.out])); go_roundw; (case rel => exact ⟨k + 1, _, by omega, by go_num, rfl⟩); (case measure => simp [intOf]; omega))
      cases c2 : decide (y2 - x2 ≤ 15 * wd)
      · rw [c1, c2] at HM
        (go_wp2_with (first | (go_at_call 54; refine (a2Has_any an zs.length cn zs (k : Int) _ (hN9.mono (by (repeat (first | assumption | exact Below.refl _ _ | refine belowDN ?_ _ | refine Below.drew ?_ | refine Below.setCell ?_ (by first | omega | (simp <;> omega)) _ | refine Below.alloc ?_ (by first | omega | (simp <;> omega)) _ | refine belowCall ?_ (by assumption))))) (by omega)).mono ?_; rintro e w' ⟨rfl, rfl⟩; rw [HM.out])); go_roundw; (case rel => exact ⟨k + 1, _, by omega, by go_num, rfl⟩); (case measure => simp [intOf]; omega))
      cases c3 : decide (-15 * wd ≤ y2 - x2)
      · rw [c1, c2, c3] at HM
        (go_wp2_with (first | (go_at_call 54; refine (a2Has_any an zs.length cn zs (k : Int) _ (hN9.mono (by (repeat (first | assumption | exact Below.refl _ _ | refine belowDN ?_ _ | refine Below.drew ?_ | refine Below.setCell ?_ (by first | omega | (simp <;> omega)) _ | refine Below.alloc ?_ (by first | omega | (simp <;> omega)) _ | refine belowCall ?_ (by assumption))))) (by omega)).mono ?_; rintro e w' ⟨rfl, rfl⟩; rw [HM.out])); go_roundw; (case rel => exact ⟨k + 1, _, by omega, by go_num, rfl⟩); (case measure => simp [intOf]; omega))
      · rw [c1, c2, c3] at HM
        (go_wp2_with (first | (go_at_call 54; refine (a2Has_any an zs.length cn zs (k : Int) _ (hN9.mono (by (repeat (first | assumption | exact Below.refl _ _ | refine belowDN ?_ _ | refine Below.drew ?_ | refine Below.setCell ?_ (by first | omega | (simp <;> omega)) _ | refine Below.alloc ?_ (by first | omega | (simp <;> omega)) _ | refine belowCall ?_ (by assumption))))) (by omega)).mono ?_; rintro e w' ⟨rfl, rfl⟩; rw [HM.out])); go_roundw; (case rel => exact ⟨k + 1, _, by omega, by go_num, rfl⟩); (case measure => simp [intOf]; omega))
    · obtain rfl : k = n := by omega
      go_wp2
      go_ret
      exact ⟨rfl, belowDN hB9 q⟩

set_option maxRecDepth 100000 in
theorem lifted (os : Os) (started : os.Started) (H : Type) (enc : TypeId × Value → H) :
    ReturnsInHanded {} Try.checked os 12 .any (Rows.fnSkiesSpec.pre6 enc Try.prog Try.f12 Rows.fnSkiesRow.domain false) (Rows.fnSkiesSpec.post enc Try.prog Try.f12 false true false false) := by
  refine returnsInHanded_of_change (C := Try.checked) own started (by kernel_rfl) Try.func12
    (ChangeSpec.witness6 (enc := enc) (C := Try.checked) false ⟨#[], #[.slice none 0 0, .slice none 0 0], []⟩ 8 (by kernel_rfl) (by kernel_rfl) (by kernel_rfl) (by kernel_rfl)) ?_
  intro W base args ds gs before hval0 hW hcnd _
  have hval : ∀ (j : Nat) t v, Try.f12.params[j]? = some t → args[j]? = some v → Value.okWide Try.prog W .any base t v := hval0
  have hW' := hW
  obtain ⟨p, q, hA0, hV, rfl, hfz, hnd⟩ := hW
  have hA : DataW.TrodAll enc Try.prog W 0 (fun _ => true) true Try.f12.params.toList args.toList ds p := hA0
  rw [Try.params12] at hA hval
  obtain ⟨v0, vs0, d0, ds0, p0, q0, hargs, rfl, rfl, h0, r0⟩ := trodAll_cons hA
  obtain ⟨v1, vs1, d1, ds1, p1, q1, rfl, rfl, rfl, h1, r1⟩ := trodAll_cons r0
  obtain ⟨rfl, rfl, rfl⟩ := trodAll_nil r1
  obtain rfl : args = #[v0, v1] := by cases args; simp_all
  obtain ⟨rfl, rfl⟩ := trodVars_none hV
  have k0 := h0
  have lt0 : ∀ x ∈ p0, x.block < W.heap.size := by obtain ⟨m, hm⟩ := k0; exact DataW.trod_lt m _ _ _ hm
  obtain ⟨a0, len0, cap0, rfl⟩ := okWide_slice Try.underlying67 (hval 0 67 v0 rfl rfl)
  obtain ⟨z0, w0⟩ : ∃ zs, IsRow .u8 W a0 len0 cap0 zs := by
    obtain ⟨fuel, hf⟩ := h0
    rcases open_ints Try.underlying67 Try.underlying5 (by kernel_rfl) hf with ⟨hcs, _⟩ | ⟨x, l, c, zs, hcs, _, hl, hm, hz, _, hcell, hwz⟩
    · simp [Value.cells] at hcs
      obtain ⟨rfl, rfl, rfl⟩ := hcs
      exact ⟨[], .inl ⟨rfl, rfl, rfl, rfl⟩⟩
    · simp [Value.cells] at hcs
      obtain ⟨rfl, rfl, rfl⟩ := hcs
      exact ⟨zs, .inr ⟨_, rfl, hl, hm, by simpa using hz, hcell, hwz⟩⟩
  have k1 := h1
  have lt1 : ∀ x ∈ p1, x.block < W.heap.size := by obtain ⟨m, hm⟩ := k1; exact DataW.trod_lt m _ _ _ hm
  obtain ⟨a1, len1, cap1, rfl⟩ := okWide_slice Try.underlying67 (hval 1 67 v1 rfl rfl)
  obtain ⟨z1, w1⟩ : ∃ zs, IsRow .u8 W a1 len1 cap1 zs := by
    obtain ⟨fuel, hf⟩ := h1
    rcases open_ints Try.underlying67 Try.underlying5 (by kernel_rfl) hf with ⟨hcs, _⟩ | ⟨x, l, c, zs, hcs, _, hl, hm, hz, _, hcell, hwz⟩
    · simp [Value.cells] at hcs
      obtain ⟨rfl, rfl, rfl⟩ := hcs
      exact ⟨[], .inl ⟨rfl, rfl, rfl, rfl⟩⟩
    · simp [Value.cells] at hcs
      obtain ⟨rfl, rfl, rfl⟩ := hcs
      exact ⟨zs, .inr ⟨_, rfl, hl, hm, by simpa using hz, hcell, hwz⟩⟩
  clear hA0 hval0
  refine (walk a0 len0 cap0 z0 a1 len1 cap1 z1 W w0 w1).mono fun e W' ⟨he, bel⟩ => ?_
  subst he
  exact ⟨_, rfl, _, _, _, [], _, [], hW', trodAll_mk1 (shut_bool Try.underlying4 _), (trodAll_cons_mk (Below.trod laidOut (by kernel_rfl) (of_decide_eq_true (by kernel_rfl)) k0 bel lt0) (trodAll_cons_mk (Below.trod laidOut (by kernel_rfl) (of_decide_eq_true (by kernel_rfl)) k1 bel lt1) trodAll_mk0)), rfl, bel.frame _, fun h => by cases h⟩

theorem over : Rows.fnSkiesRow.holds Try.pinned (OpenSpec.ofChange Rows.fnSkiesSpec) :=
  OpenClaim.holds_of_wide 12 Try.f12 rfl rfl rfl rfl rfl rfl rfl ⟨rfl, rfl, rfl, rfl, rfl⟩ rfl rfl rfl rfl rfl (by kernel_rfl) Try.func12 (by kernel_rfl)
    (of_decide_eq_true (by kernel_rfl)) (by unfold Func.isWrapper; first | (rw [if_pos (by decide +kernel)]; kernel_rfl) | (rw [if_neg (by decide +kernel)]; exact ⟨rfl, rfl⟩))
    (fun os started H enc _ => lifted os started H enc)

theorem proved : Rows.FnSkiesSaid := over
#print axioms proved
end Go.Proofs.Ytiogffjhhhpolab.fnSkies
