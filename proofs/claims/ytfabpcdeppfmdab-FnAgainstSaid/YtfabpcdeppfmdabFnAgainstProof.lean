/- FnAgainst: for every input the law returns true: more of a difference asked has no more contradictions, a longer time no fewer. -/
import Derived.Test.YtfabpcdeppfmdabB1
import Derived.Test.YtfabpcdeppfmdabK7
import Derived.ChangeOld
import Derived.Lib.SmallJoins
namespace Go.Proofs.Ytfabpcdeppfmdab.fnAgainst
open Go.ChangeShapes Go.WideShapes Go.ChangeAt Go.RowKit
open Go.ChangeMaps (open_string shut_string)
set_option linter.unusedVariables false

theorem own : ownKnob Try.prog.godebug = none := by kernel_rfl
theorem laidOut : laidOutB Try.prog = true := by kernel_rfl
theorem cellTo {wr w6 : World} {q : Nat} {p : Addr} {v : Option Value} (h : wr.cell? p = v) (e : w6 = wr.drewN q) : w6.cell? p = v := by subst e; exact h
set_option maxRecDepth 100000 in
set_option maxHeartbeats 8000000 in

theorem walk (a0 : Option Addr) (len0 cap0 : Nat) (z0 : List Int) (a1 : Option Addr) (len1 cap1 : Nat) (z1 : List Int) (w : World) (w0 : IsRow .u8 w a0 len0 cap0 z0) (w1 : IsRow .u8 w a1 len1 cap1 z1) :
    Calls Try.prog 4 #[.slice a0 len0 cap0, .slice a1 len1 cap1] w fun e w' => e = .returned (.bool true) ∧ Below w.heap.size w w' := by
  have hb0 := LstB.of_row w0
  have hb1 := LstB.of_row w1
  clear w0 w1
  cases hlong : (decide (3000 < (len0 : Int)) || decide (3000 < (len1 : Int)))
  case true =>
    have HL := Lib.hid hlong
    clear hlong
    go_enter Try.func4, Try.ntmps4
    go_wp2_with fail
    refine (a2Long_any _ _ _ _ _ _ _).mono ?_
    rintro e w' ⟨rfl, rfl⟩
    rw [HL.out]
    go_wp2
    go_ret
    exact ⟨rfl, Below.refl _ _⟩
  have HL := Lib.hid hlong
  have hl0 : len0 ≤ 3000 := by simp at hlong; omega
  have hl1 : len1 ≤ 3000 := by simp at hlong; omega
  clear hlong
  go_enter Try.func4, Try.ntmps4
  go_wp2_with fail
  refine (a2Long_any _ _ _ _ _ _ _).mono ?_
  rintro e w' ⟨rfl, rfl⟩
  rw [HL.out]
  go_wp2_with fail
  refine (A2Es_any a0 len0 cap0 w hb0 (by omega)).mono ?_
  rintro e w1 ⟨a, n, c, xs, rfl, hL1, hok, hn12, hB1⟩
  have hb1' := hb1.below hB1
  clear hb0 hb1
  go_wp2_with fail
  refine (a2At_any w.heap.size a1 len1 cap1 0 256 w1 hb1' (by omega) (by omega) (by omega)).mono ?_
  rintro e w1' ⟨ap, rfl, v0, v1, rfl⟩
  go_wp2_with fail
  refine (a2At_any w.heap.size a1 len1 cap1 1 256 w1 hb1' (by omega) (by omega) (by omega)).mono ?_
  rintro e w1' ⟨bb, rfl, u0, u1, rfl⟩
  clear hb1'
  go_wp2_with fail
  have hp0 : 0 ≤ 100 * ap ∧ 100 * ap ≤ 25500 := by omega
  have hq0 : 1 ≤ 1 + 5 * bb ∧ 1 + 5 * bb ≤ 1276 := by omega
  generalize 100 * ap = tA at hp0 ⊢
  generalize 1 + 5 * bb = dB at hq0 ⊢
  clear v0 v1 u0 u1
  obtain ⟨p0, p1⟩ := hp0
  obtain ⟨q0, q1⟩ := hq0
  have E1 := Lib.hid (cn_0 (ap := tA) (b := dB) hok (by simp only [inB, Bool.and_eq_true, decide_eq_true_eq]; omega))
  have E2 := Lib.hid (cn_0 (ap := tA) (b := dB + 100) hok (by simp only [inB, Bool.and_eq_true, decide_eq_true_eq]; omega))
  have E3 := Lib.hid (cn_0 (ap := tA + 500) (b := dB) hok (by simp only [inB, Bool.and_eq_true, decide_eq_true_eq]; omega))
  have m2 := cnP_mono (xs := xs) (ap := tA) (ap' := tA) (b := dB + 100) (b' := dB) (by omega) (by omega) xs.length xs.length
  have m3 := cnP_mono (xs := xs) (ap := tA) (ap' := tA + 500) (b := dB) (b' := dB) (by omega) (by omega) xs.length xs.length
  have ml := cnL_len xs tA dB
  rw [← E1.out.2, ← E2.out.2] at m2
  rw [← E1.out.2, ← E3.out.2] at m3
  have HM := Lib.hid (fun p (hp : p ∈ cnL xs tA dB) => cnP_mem (xs := xs) (by rw [← E1.out.2]; exact hp))
  have HBD := Lib.hid (fun k (hk : k < n) x0 x1 x2 x3 x4 hx => (okE_bd (x0 := x0) (x1 := x1) (x2 := x2) (x3 := x3) (x4 := x4) hL1.1 hok hk hx).1)
  have HLEN := Lib.hid hL1.1
  refine (iContra_any a n c xs tA dB w1 hL1 (by omega)).mono ?_
  rintro e w2 ⟨⟨ra, rc, rfl, hQ2⟩, hB2⟩
  rw [E1.out.1]
  have hQ := (hQ2 1).toL
  have hL2 := hL1.mono hB2
  have hC2 := belowCall hB1 hB2
  clear hQ2 hB2 hL1 hB1
  go_wp2_with fail
  refine (iContra_any a n c xs tA (dB + 100) w2 hL2 (by omega)).mono ?_
  rintro e w3 ⟨⟨sa, sc, rfl, -⟩, hB3⟩
  rw [E2.out.1]
  have hQ3 : QqL w3 ra _ _ := (hQ.toB.below hB3 (Nat.le_refl _)).toL
  have hL3 := hL2.mono hB3
  have hC3 := belowCall hC2 hB3
  clear hQ hL2 hC2 hB3
  go_wp2_with fail
  refine (iContra_any a n c xs (tA + 500) dB w3 hL3 (by omega)).mono ?_
  rintro e w4 ⟨⟨ta, tc, rfl, -⟩, hB4⟩
  rw [E3.out.1]
  have hQ4 : QqL w4 ra _ _ := (hQ3.toB.below hB4 (Nat.le_refl _)).toL
  have hL4 := hL3.mono hB4
  have hC4 := belowCall hC3 hB4
  clear hQ3 hL3 hC3 hB4
  go_wp2_with fail
  refine (sContra_any a n c xs tA dB w4 hL4 (by omega)).mono ?_
  rintro e w5 ⟨⟨ka, kc, rfl, -⟩, hB5⟩
  rw [E1.out.1]
  have hQ5 : QqL w5 ra _ _ := (hQ4.toB.below hB5 (Nat.le_refl _)).toL
  have hL5 := hL4.mono hB5
  have hC5 := belowCall hC4 hB5
  clear hQ4 hL4 hC4 hB5 E1 E2 E3
  generalize (cnL xs tA (dB + 100)).length = n2 at m2 ⊢
  generalize (cnL xs (tA + 500) dB).length = n3 at m3 ⊢
  obtain ⟨L, hLL⟩ : ∃ L, cnL xs tA dB = L := ⟨_, rfl⟩
  rw [hLL] at hQ5 HM m2 m3 ml ⊢
  clear hLL
  obtain ⟨n1, hn1⟩ : ∃ n1, L.length = n1 := ⟨_, rfl⟩
  rw [hn1] at hQ5 m2 m3 ml ⊢
  have HN1 := Lib.hid hn1
  clear hn1
  have d1 : decide ((n1 : Int) < (n2 : Int)) = false := by simp; omega
  have d2 : decide ((n3 : Int) < (n1 : Int)) = false := by simp; omega
  have e2 : ¬ n1 < n2 := by omega
  have e3 : ¬ n3 < n1 := by omega
  go_wp2
  clear d1 d2 m2 m3 e2 e3
  go_loopw [16] (fun i wr => ∃ k : Nat, k ≤ n1 ∧ i = .int .i64 (k : Int) ∧ Below w5.heap.size w5 wr) (fun i _ => n1 - (Go.RowKit.intOf i).toNat)
  case atStart => exact ⟨0, Nat.zero_le _, rfl, Below.refl _ _⟩
  case round =>
    obtain ⟨k, hk, rfl, hBr⟩ := hrel
    have hQr : QqL wr ra _ _ := (hQ5.toB.below hBr (Nat.le_refl _)).toL
    have hLr := hL5.mono hBr
    have hk00 : (0 : Int) ≤ (k : Int) := by omega
    by_cases hlt : k < n1
    · have hkk : (k : Int) < (n1 : Int) := by omega
      obtain ⟨b, off, r, rc', rfl, -, hb, -, hr, hc, hx, hy⟩ := hQr.2 k hlt
      obtain ⟨i', j', hp, hij, hjn, hcon⟩ := HM.out (L[k]?.getD (0, 0)) (by have := HN1.out; rw [List.getElem?_eq_getElem (by omega)]; exact List.getElem_mem _)
      rw [HLEN.out] at hjn
      rw [hp] at hx hy
      clear hp hQ5 hQr
      obtain ⟨⟨x0, x1, x2, x3, x4⟩, hX⟩ : ∃ x, xs[i']?.getD es0 = x := ⟨_, rfl⟩
      obtain ⟨⟨y0, y1, y2, y3, y4⟩, hY⟩ : ∃ x, xs[j']?.getD es0 = x := ⟨_, rfl⟩
      rw [hX, hY] at hcon
      obtain ⟨rfl, hti, hfa⟩ := con_parts hcon
      obtain ⟨x00, x01⟩ := HBD.out i' (by omega) _ _ _ _ _ hX
      obtain ⟨y00, y01⟩ := HBD.out j' hjn _ _ _ _ _ hY
      have HX := Lib.hid hX
      have HY := Lib.hid hY
      clear hcon hX hY
      have hlr := lst_two hr hx hy
      obtain ⟨ab, ao, rfl, hX⟩ := hLr.2 i' (by omega)
      obtain ⟨ab', ao', he, hY⟩ := hLr.2 j' hjn
      cases he
      rw [HX.out] at hX
      rw [HY.out] at hY
      clear HX HY
      obtain ⟨hbl, c0, c1, c2, c3, c4⟩ := hX.parts
      obtain ⟨-, d0, d1, d2, d3, d4⟩ := hY.parts
      have HR1 := Lib.hid (show ∀ j, j < 2 → 0 ≤ ([(i' : Int), (j' : Int)] : List Int)[j]?.getD 0 ∧ ([(i' : Int), (j' : Int)] : List Int)[j]?.getD 0 < (n : Int) from fun j hj => by
        match j, hj with
        | 0, _ => exact ⟨by simp, by simp; omega⟩
        | 1, _ => exact ⟨by simp, by simp; omega⟩)
      have HR2 := Lib.hid (show ∀ j, j + 1 < 2 → ([(i' : Int), (j' : Int)] : List Int)[j]?.getD 0 < ([(i' : Int), (j' : Int)] : List Int)[j + 1]?.getD 0 from fun j hj => by
        match j, hj with
        | 0, _ => simp; omega)
      have HFA := Lib.hid hfa
      have i0 : (0 : Int) ≤ (i' : Int) := by omega
      have i1 : (i' : Int) < (n : Int) := by omega
      have j0 : (0 : Int) ≤ (j' : Int) := by omega
      have j1 : (j' : Int) < (n : Int) := by omega
      have t0 : decide (tA < y0 - x0) = false := by simp; omega
      have t1 : ¬ tA < y0 - x0 := by omega
      clear hfa hX hY hL5
      cases x4 <;> cases y4
      case true.true => exact absurd (HFA.out rfl rfl) id
      all_goals
        go_wp2_with fail
        refine (a2RisesE_any _ 2 rc' [(i' : Int), (j' : Int)] n wr hlr (by omega) (by omega) HR1.out HR2.out).mono ?_
        rintro e w6 ⟨rfl, q, hw6⟩
        have hB6 : Below w5.heap.size w5 w6 := by rw [hw6]; exact belowDN hBr q
        replace hc := cellTo hc hw6
        replace hx := cellTo hx hw6
        replace hy := cellTo hy hw6
        replace c0 := cellTo c0 hw6
        replace c1 := cellTo c1 hw6
        replace c2 := cellTo c2 hw6
        replace c3 := cellTo c3 hw6
        replace c4 := cellTo c4 hw6
        replace d0 := cellTo d0 hw6
        replace d1 := cellTo d1 hw6
        replace d2 := cellTo d2 hw6
        replace d3 := cellTo d3 hw6
        replace d4 := cellTo d4 hw6
        have hzz : w6.heap.size = wr.heap.size := by rw [hw6]; rfl
        rw [← hzz] at hb hr hbl
        clear hw6 hlr hLr hBr hzz
        have hz6 := hB6.size
        go_wp2
        go_roundw
        case rel => exact ⟨k + 1, by omega, by go_num, by (repeat (first | assumption | exact Below.refl _ _ | refine belowDN ?_ _ | refine Below.drew ?_ | refine Below.setCell ?_ (by first | omega | (simp <;> omega)) _ | refine Below.alloc ?_ (by first | omega | (simp <;> omega)) _ | refine belowCall ?_ (by assumption)))⟩
        case measure => simp [Go.RowKit.intOf]; omega
    · obtain rfl : k = n1 := by omega
      go_wp2
      go_ret
      exact ⟨rfl, by (repeat (first | assumption | exact Below.refl _ _ | refine belowDN ?_ _ | refine Below.drew ?_ | refine Below.setCell ?_ (by first | omega | (simp <;> omega)) _ | refine Below.alloc ?_ (by first | omega | (simp <;> omega)) _ | refine belowCall ?_ (by assumption)))⟩

set_option maxRecDepth 100000 in
theorem lifted (os : Os) (started : os.Started) (H : Type) (enc : TypeId × Value → H) :
    ReturnsInHanded {} Try.checked os 4 .any (Rows.fnAgainstSpec.pre6 enc Try.prog Try.f4 Rows.fnAgainstRow.domain false) (Rows.fnAgainstSpec.post enc Try.prog Try.f4 false true false false) := by
  refine returnsInHanded_of_change (C := Try.checked) own started (by kernel_rfl) Try.func4
    (ChangeSpec.witness6 (enc := enc) (C := Try.checked) false ⟨#[], #[.slice none 0 0, .slice none 0 0], []⟩ 8 (by kernel_rfl) (by kernel_rfl) (by kernel_rfl) (by kernel_rfl)) ?_
  intro W base args ds gs before hval0 hW hcnd _
  have hval : ∀ (j : Nat) t v, Try.f4.params[j]? = some t → args[j]? = some v → Value.okWide Try.prog W .any base t v := hval0
  have hW' := hW
  obtain ⟨p, q, hA0, hV, rfl, hfz, hnd⟩ := hW
  have hA : DataW.TrodAll enc Try.prog W 0 (fun _ => true) true Try.f4.params.toList args.toList ds p := hA0
  rw [Try.params4] at hA hval
  obtain ⟨v0, vs0, d0, ds0, p0, q0, hargs, rfl, rfl, h0, r0⟩ := trodAll_cons hA
  obtain ⟨v1, vs1, d1, ds1, p1, q1, rfl, rfl, rfl, h1, r1⟩ := trodAll_cons r0
  obtain ⟨rfl, rfl, rfl⟩ := trodAll_nil r1
  obtain rfl : args = #[v0, v1] := by cases args; simp_all
  obtain ⟨rfl, rfl⟩ := trodVars_none hV
  have k0 := h0
  have lt0 : ∀ x ∈ p0, x.block < W.heap.size := by obtain ⟨m, hm⟩ := k0; exact DataW.trod_lt m _ _ _ hm
  obtain ⟨a0, len0, cap0, rfl⟩ := okWide_slice Try.underlying34 (hval 0 34 v0 rfl rfl)
  obtain ⟨z0, w0⟩ : ∃ zs, IsRow .u8 W a0 len0 cap0 zs := by
    obtain ⟨fuel, hf⟩ := h0
    rcases open_ints Try.underlying34 Try.underlying5 (by kernel_rfl) hf with ⟨hcs, _⟩ | ⟨x, l, c, zs, hcs, _, hl, hm, hz, _, hcell, hwz⟩
    · simp [Value.cells] at hcs
      obtain ⟨rfl, rfl, rfl⟩ := hcs
      exact ⟨[], .inl ⟨rfl, rfl, rfl, rfl⟩⟩
    · simp [Value.cells] at hcs
      obtain ⟨rfl, rfl, rfl⟩ := hcs
      exact ⟨zs, .inr ⟨_, rfl, hl, hm, by simpa using hz, hcell, hwz⟩⟩
  have k1 := h1
  have lt1 : ∀ x ∈ p1, x.block < W.heap.size := by obtain ⟨m, hm⟩ := k1; exact DataW.trod_lt m _ _ _ hm
  obtain ⟨a1, len1, cap1, rfl⟩ := okWide_slice Try.underlying34 (hval 1 34 v1 rfl rfl)
  obtain ⟨z1, w1⟩ : ∃ zs, IsRow .u8 W a1 len1 cap1 zs := by
    obtain ⟨fuel, hf⟩ := h1
    rcases open_ints Try.underlying34 Try.underlying5 (by kernel_rfl) hf with ⟨hcs, _⟩ | ⟨x, l, c, zs, hcs, _, hl, hm, hz, _, hcell, hwz⟩
    · simp [Value.cells] at hcs
      obtain ⟨rfl, rfl, rfl⟩ := hcs
      exact ⟨[], .inl ⟨rfl, rfl, rfl, rfl⟩⟩
    · simp [Value.cells] at hcs
      obtain ⟨rfl, rfl, rfl⟩ := hcs
      exact ⟨zs, .inr ⟨_, rfl, hl, hm, by simpa using hz, hcell, hwz⟩⟩
  clear hA0 hval0
  refine (walk a0 len0 cap0 z0 a1 len1 cap1 z1 W w0 w1).mono fun e W' ⟨he, bel⟩ => ?_
  subst he
  exact ⟨_, rfl, _, _, _, [], _, [], hW', trodAll_mk1 (shut_bool Try.underlying4 _), (trodAll_cons_mk (Below.trod laidOut (by kernel_rfl) (of_decide_eq_true (by kernel_rfl)) k0 bel lt0) (trodAll_cons_mk (Below.trod laidOut (by kernel_rfl) (of_decide_eq_true (by kernel_rfl)) k1 bel lt1) trodAll_mk0)), rfl, bel.frame _, fun h => by cases h⟩

theorem over : Rows.fnAgainstRow.holds Try.pinned (OpenSpec.ofChange Rows.fnAgainstSpec) :=
  OpenClaim.holds_of_wide 4 Try.f4 rfl rfl rfl rfl rfl rfl rfl ⟨rfl, rfl, rfl, rfl, rfl⟩ rfl rfl rfl rfl rfl (by kernel_rfl) Try.func4 (by kernel_rfl)
    (of_decide_eq_true (by kernel_rfl)) (by unfold Func.isWrapper; first | (rw [if_pos (by decide +kernel)]; kernel_rfl) | (rw [if_neg (by decide +kernel)]; exact ⟨rfl, rfl⟩))
    (fun os started H enc _ => lifted os started H enc)

theorem proved : Rows.FnAgainstSaid := over
#print axioms proved
end Go.Proofs.Ytfabpcdeppfmdab.fnAgainst
