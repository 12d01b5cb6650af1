/- FnBetween: for every input the law returns true: the magnitude at a time is between those of the points before and behind it, and the longest gap is not shorter than any. -/
import Derived.Test.YtiogffjhhhpolaaB1
import Derived.Test.YtiogffjhhhpolaaKD
import Derived.ChangeOld
import Derived.Lib.SmallJoins
namespace Go.Proofs.Ytiogffjhhhpolaa.fnBetween
open Go.ChangeShapes Go.WideShapes Go.ChangeAt Go.RowKit
open Go.ChangeMaps (open_string shut_string)
set_option linter.unusedVariables false

theorem own : ownKnob Try.prog.godebug = none := by kernel_rfl
theorem laidOut : laidOutB Try.prog = true := by kernel_rfl
set_option maxRecDepth 100000 in
set_option maxHeartbeats 8000000 in

theorem walk (a0 : Option Addr) (len0 cap0 : Nat) (z0 : List Int) (w : World) (w0 : IsRow .u8 w a0 len0 cap0 z0) :
    Calls Try.prog 4 #[.slice a0 len0 cap0] w fun e w' => e = .returned (.bool true) ∧ Below w.heap.size w w' := by
  have hb0 := LstB.of_row w0
  clear w0
  cases hlong : (decide (3000 < (len0 : Int)) || decide (3000 < ((0 : Nat) : Int)))
  case true =>
    have HL := Lib.hid hlong
    clear hlong
    go_enter Try.func4, Try.ntmps4
    go_wp2_with fail
    refine (a2Long_any _ _ _ _ _ _ _).mono ?_
    rintro e w' ⟨rfl, rfl⟩
    rw [HL.out]
    go_wp2
    go_ret
    exact ⟨rfl, Below.refl _ _⟩
  have HL := Lib.hid hlong
  have hl0 : len0 ≤ 3000 := by simp at hlong; omega
  clear hlong
  go_enter Try.func4, Try.ntmps4
  go_wp2_with fail
  refine (a2Long_any _ _ _ _ _ _ _).mono ?_
  rintro e w' ⟨rfl, rfl⟩
  rw [HL.out]
  go_wp2_with fail
  refine (A2Curve_any a0 len0 cap0 w hb0 (by omega)).mono ?_
  rintro e w1 ⟨a, n, c, xs, rfl, hL1, hok, hn12, hnc, -, hB1⟩
  clear hb0
  have HN := Lib.hid hL1.1
  have HOK := Lib.hid hok
  obtain ⟨-, hbd, -⟩ := okP_num hL1.1 hok
  have HBD := Lib.hid hbd
  have HAT := Lib.hid (fun k (hk : k < n) => bet_at HN.out HOK.out hk)
  have HMID := Lib.hid (fun k x0 x1 y0 y1 (hk : k + 1 < n) hx hy => bet_mid (x0 := x0) (x1 := x1) (y0 := y0) (y1 := y1) HN.out HOK.out hk hx hy)
  have hnn : (n : Int) ≤ 12 := by omega
  clear hok hbd
  go_wp2_with fail
  go_loopw [4] (fun i wr => ∃ k : Nat, k ≤ n ∧ i = .int .i64 (k : Int) ∧ Below w1.heap.size w1 wr) (fun i _ => n - (Go.RowKit.intOf i).toNat)
  case atStart => exact ⟨0, Nat.zero_le _, rfl, Below.refl _ _⟩
  case round =>
    obtain ⟨k, hk, rfl, hB⟩ := hrel
    have hLr := hL1.mono hB
    by_cases hlt : k < n
    · have hkk : (k : Int) < (n : Int) := by omega
      obtain ⟨⟨y0, y1⟩, hy⟩ : ∃ x, xs[k]?.getD pt0 = x := ⟨_, rfl⟩
      have hat := HAT.out k hlt
      rw [hy] at hat
      have HA := Lib.hid hat
      have HY := Lib.hid hy
      have hby := HBD.out k hlt
      rw [hy] at hby
      obtain ⟨p0, p1⟩ := hLr.get hlt hy
      have hyy : (y1 != y1) = false := by simp
      clear hat hy
      go_wp2_with fail
      refine (iMagAt_any (some ⟨a, 0, none⟩) n c xs y0 wr hLr (by omega)).mono ?_
      rintro e w3 ⟨rfl, b3⟩
      rw [HA.out.1, HA.out.2]
      have B3 := belowCall hB b3
      obtain ⟨q0, q1⟩ := (hL1.mono B3).get hlt HY.out
      clear p0 p1
      by_cases hk0 : k = 0
      · subst hk0
        simp only [Nat.zero_mul] at q0 q1
        go_wp2
        go_roundw
        case rel => exact ⟨0 + 1, by omega, by go_num, B3⟩
        case measure => simp [Go.RowKit.intOf]; omega
      · obtain ⟨k', rfl⟩ : ∃ k', k = k' + 1 := ⟨k - 1, by omega⟩
        obtain ⟨⟨x0, x1⟩, hx⟩ : ∃ x, xs[k']?.getD pt0 = x := ⟨_, rfl⟩
        have hbx := HBD.out k' (by omega)
        have HX := Lib.hid hx
        rw [hx] at hbx
        obtain ⟨r0, r1⟩ := (hL1.mono B3).get (show k' < n by omega) hx
        have HM := Lib.hid (HMID.out k' x0 x1 y0 y1 hlt hx HY.out)
        have hki : (k' : Int) < (n : Int) := by omega
        have hkz : ((k' : Int) + 1 == 0) = false := by simp; omega
        have hq := tdiv_bd (x0 + y0) 2 20000000 (by omega) (by omega)
        clear hx hk0
        go_wp2
        go_big_quiet (fail)
        go_wp2_with fail
        refine (iMagAt_any (some ⟨a, 0, none⟩) n c xs ((x0 + y0).tdiv 2) _ (hLr.mono (by (repeat (first | assumption | exact Below.refl _ _ | refine belowDN ?_ _ | refine Below.drew ?_ | refine Below.setCell ?_ (by first | omega | (simp <;> omega)) _ | refine Below.alloc ?_ (by first | omega | (simp <;> omega)) _ | refine belowCall ?_ (by assumption))))) (by omega)).mono ?_
        rintro e w5 ⟨rfl, b5⟩
        rw [HM.out.1]
        have B5 := belowCall (show Below w1.heap.size w1 (w3.drewN nq) from belowDN B3 nq) b5
        obtain ⟨s0, s1⟩ := (hL1.mono B5).get hlt HY.out
        obtain ⟨u0, u1⟩ := (hL1.mono B5).get (show k' < n by omega) HX.out
        have m1 := HM.out.2.1
        have m2 := HM.out.2.2
        generalize maA xs ((x0 + y0).tdiv 2) = N at m1 m2 ⊢
        have d1 : decide (N < min x1 y1) = false := by simp; omega
        have d2 : decide (max x1 y1 < N) = false := by simp; omega
        clear q0 q1 r0 r1
        go_wp2
        go_big_quiet (fail)
        go_wp2
        go_roundw
        case rel => exact ⟨k' + 1 + 1, by omega, by go_num, belowDN B5 _⟩
        case measure => simp [Go.RowKit.intOf]; omega
    · obtain rfl : k = n := by omega
      by_cases hn2 : k < 2
      · have HG := Lib.hid (lg_3 HN.out HOK.out hn2)
        have hl2 : (k : Int) < 2 := by omega
        go_wp2_with fail
        refine (iGap_any (some ⟨a, 0, none⟩) k c xs wr hLr (by omega)).mono ?_
        rintro e w3 ⟨rfl, b3⟩
        rw [HG.out.1, HG.out.2.1, HG.out.2.2]
        go_wp2
        go_ret
        exact ⟨rfl, hB1.trans ((belowCall hB b3).mono hB1.size)⟩
      · have HG := Lib.hid (lg_0 HN.out HOK.out hn2)
        have hl2 : ¬ (k : Int) < 2 := by omega
        have HGM := Lib.hid (fun j x0 x1 y0 y1 (hj : j + 1 < k) hx hy => gap_max (x0 := x0) (x1 := x1) (y0 := y0) (y1 := y1) (xs := xs) (n := k) (by omega) hj hx hy)
        obtain ⟨g1, g2⟩ := g_bd HBD.out (Nat.le_refl k)
        go_wp2_with fail
        refine (iGap_any (some ⟨a, 0, none⟩) k c xs wr hLr (by omega)).mono ?_
        rintro e w3 ⟨rfl, b3⟩
        rw [HG.out.1, HG.out.2.1, HG.out.2.2]
        have B3 := belowCall hB b3
        generalize gfr xs k = F at g1 HGM ⊢
        generalize gto xs k = T at g2 HGM ⊢
        go_wp2
        go_loopw [13] (fun i wi => ∃ j : Nat, 1 ≤ j ∧ j ≤ k ∧ i = .int .i64 (j : Int) ∧ Below w1.heap.size w1 wi) (fun i _ => k - (Go.RowKit.intOf i).toNat)
        case atStart => exact ⟨1, by omega, by omega, rfl, B3⟩
        case round =>
          obtain ⟨j, hj1, hj, rfl, hBj⟩ := hrel
          by_cases hjk : j < k
          · obtain ⟨j', rfl⟩ : ∃ j', j = j' + 1 := ⟨j - 1, by omega⟩
            obtain ⟨⟨y0, y1⟩, hy⟩ : ∃ x, xs[j' + 1]?.getD pt0 = x := ⟨_, rfl⟩
            obtain ⟨⟨x0, x1⟩, hx⟩ : ∃ x, xs[j']?.getD pt0 = x := ⟨_, rfl⟩
            have hgm := HGM.out j' x0 x1 y0 y1 hjk hx hy
            have hby := HBD.out (j' + 1) hjk
            have hbx := HBD.out j' (by omega)
            rw [hy] at hby
            rw [hx] at hbx
            obtain ⟨p0, -⟩ := (hL1.mono hBj).get hjk hy
            obtain ⟨q0, -⟩ := (hL1.mono hBj).get (show j' < k by omega) hx
            have hkk : (j' : Int) + 1 < (k : Int) := by omega
            have hki : (j' : Int) < (k : Int) := by omega
            have hgd : decide (T - F < y0 - x0) = false := by simp; omega
            clear hx hy
            go_wp2
            go_big_quiet (fail)
            go_wp2
            go_roundw
            case rel => exact ⟨j' + 1 + 1, by omega, by omega, by go_num, belowDN hBj _⟩
            case measure => simp [Go.RowKit.intOf]; omega
          · obtain rfl : j = k := by omega
            go_wp2
            go_ret
            exact ⟨rfl, hB1.trans (hBj.mono hB1.size)⟩

set_option maxRecDepth 100000 in
theorem lifted (os : Os) (started : os.Started) (H : Type) (enc : TypeId × Value → H) :
    ReturnsInHanded {} Try.checked os 4 .any (Rows.fnBetweenSpec.pre6 enc Try.prog Try.f4 Rows.fnBetweenRow.domain false) (Rows.fnBetweenSpec.post enc Try.prog Try.f4 false true false false) := by
  refine returnsInHanded_of_change (C := Try.checked) own started (by kernel_rfl) Try.func4
    (ChangeSpec.witness6 (enc := enc) (C := Try.checked) false ⟨#[], #[.slice none 0 0], []⟩ 8 (by kernel_rfl) (by kernel_rfl) (by kernel_rfl) (by kernel_rfl)) ?_
  intro W base args ds gs before hval0 hW hcnd _
  have hval : ∀ (j : Nat) t v, Try.f4.params[j]? = some t → args[j]? = some v → Value.okWide Try.prog W .any base t v := hval0
  have hW' := hW
  obtain ⟨p, q, hA0, hV, rfl, hfz, hnd⟩ := hW
  have hA : DataW.TrodAll enc Try.prog W 0 (fun _ => true) true Try.f4.params.toList args.toList ds p := hA0
  rw [Try.params4] at hA hval
  obtain ⟨v0, vs0, d0, ds0, p0, q0, hargs, rfl, rfl, h0, r0⟩ := trodAll_cons hA
  obtain ⟨rfl, rfl, rfl⟩ := trodAll_nil r0
  obtain rfl : args = #[v0] := by cases args; simp_all
  obtain ⟨rfl, rfl⟩ := trodVars_none hV
  have k0 := h0
  have lt0 : ∀ x ∈ p0, x.block < W.heap.size := by obtain ⟨m, hm⟩ := k0; exact DataW.trod_lt m _ _ _ hm
  obtain ⟨a0, len0, cap0, rfl⟩ := okWide_slice Try.underlying22 (hval 0 22 v0 rfl rfl)
  obtain ⟨z0, w0⟩ : ∃ zs, IsRow .u8 W a0 len0 cap0 zs := by
    obtain ⟨fuel, hf⟩ := h0
    rcases open_ints Try.underlying22 Try.underlying5 (by kernel_rfl) hf with ⟨hcs, _⟩ | ⟨x, l, c, zs, hcs, _, hl, hm, hz, _, hcell, hwz⟩
    · simp [Value.cells] at hcs
      obtain ⟨rfl, rfl, rfl⟩ := hcs
      exact ⟨[], .inl ⟨rfl, rfl, rfl, rfl⟩⟩
    · simp [Value.cells] at hcs
      obtain ⟨rfl, rfl, rfl⟩ := hcs
      exact ⟨zs, .inr ⟨_, rfl, hl, hm, by simpa using hz, hcell, hwz⟩⟩
  clear hA0 hval0
  refine (walk a0 len0 cap0 z0 W w0).mono fun e W' ⟨he, bel⟩ => ?_
  subst he
  exact ⟨_, rfl, _, _, _, [], _, [], hW', trodAll_mk1 (shut_bool Try.underlying4 _), (trodAll_cons_mk (Below.trod laidOut (by kernel_rfl) (of_decide_eq_true (by kernel_rfl)) k0 bel lt0) trodAll_mk0), rfl, bel.frame _, fun h => by cases h⟩

theorem over : Rows.fnBetweenRow.holds Try.pinned (OpenSpec.ofChange Rows.fnBetweenSpec) :=
  OpenClaim.holds_of_wide 4 Try.f4 rfl rfl rfl rfl rfl rfl rfl ⟨rfl, rfl, rfl, rfl, rfl⟩ rfl rfl rfl rfl rfl (by kernel_rfl) Try.func4 (by kernel_rfl)
    (of_decide_eq_true (by kernel_rfl)) (by unfold Func.isWrapper; first | (rw [if_pos (by decide +kernel)]; kernel_rfl) | (rw [if_neg (by decide +kernel)]; exact ⟨rfl, rfl⟩))
    (fun os started H enc _ => lifted os started H enc)

theorem proved : Rows.FnBetweenSaid := over
#print axioms proved
end Go.Proofs.Ytiogffjhhhpolaa.fnBetween
