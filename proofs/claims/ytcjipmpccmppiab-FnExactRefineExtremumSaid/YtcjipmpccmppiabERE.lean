/- RefineExtremum, both sides. -/
import Derived.Test.YtcjipmpccmppiabEVS
namespace Go.Proofs.Ytcjipmpccmppiab
open Go.ChangeShapes Go.WideShapes Go.ChangeAt Go.RowKit Go.Deep

def reF (xs : List Pt) (i : Int) : Int × Int × Int := if okP xs then (if inB i 1 ((xs.length : Int) - 2) then vxF (xs[i.toNat - 1]?.getD pt0) (xs[i.toNat]?.getD pt0) (xs[i.toNat + 1]?.getD pt0) else (0, 0, 2)) else (0, 0, 1)
theorem re_1 {xs : List Pt} {i : Int} (h : okP xs = false) : reF xs i = (0, 0, 1) := by simp [reF, h]
theorem re_2 {xs : List Pt} {i : Int} {n : Nat} (hn : xs.length = n) (h : okP xs = true) (h2 : inB i 1 ((n : Int) - 2) = false) : reF xs i = (0, 0, 2) := by subst hn; simp [reF, h, h2]
theorem re_0 {xs : List Pt} {k n : Nat} {a b c : Pt} (hn : xs.length = n) (h : okP xs = true) (h2 : inB ((k + 1 : Nat) : Int) 1 ((n : Int) - 2) = true) (ha : xs[k]?.getD pt0 = a) (hb : xs[k + 1]?.getD pt0 = b) (hc : xs[k + 1 + 1]?.getD pt0 = c) : reF xs ((k + 1 : Nat) : Int) = vxF a b c := by
  subst hn
  rw [reF, if_pos h, if_pos h2, Int.toNat_natCast, Nat.add_sub_cancel, ha, hb, hc]
set_option maxRecDepth 100000 in
set_option maxHeartbeats 4000000 in
theorem iRfe_any (a : Option Addr) (n c : Nat) (xs : List Pt) (i : Int) (w : World) (h : PtL w a n xs) (hn : n ≤ 1048576) :
    Calls Try.prog 50 #[.slice a n c, .int .i64 i] w fun e w' => FrP (reF xs i) e ∧ Below w.heap.size w w' := by
  have B1 : Below w.heap.size w (w.alloc (.cells #[.int .i64 0, .int .i64 0] 37)) := (Below.refl _ w).alloc (Nat.le_refl _) _
  have h1 := h.mono B1
  have R1 := RF.fresh w 37
  have hl : (n : Int) ≤ 1048576 := by omega
  cases hok : okP xs
  · have HC := Lib.hid (re_1 (i := i) hok)
    go_enter Try.func50, Try.ntmps50
    go_wp2_with fail
    generalize w.alloc (.cells #[.int .i64 0, .int .i64 0] 37) = w1 at B1 h1 R1 ⊢
    refine (iValidCv_any a n c xs w1 h1 hn).mono ?_
    rintro e w2 ⟨rfl, b2⟩
    rw [hok]
    have R2 := R1.mono b2
    have B2 := belowCall B1 b2
    obtain ⟨⟨hBl, q0, q1⟩, z0, z1⟩ := R2.parts
    go_wp2
    obtain ⟨t0, t1⟩ := R2.stored 0 0 rfl
    exact bodyPost_ret (v := .tuple #[.agg #[.int .i64 0, .int .i64 0], .int .i64 1]) (by simp [results, Try.results50, go_sem, t0, t1]) rfl ⟨FrP.mk HC.out, (B2.setCell (Nat.le_refl _) _).setCell (Nat.le_refl _) _⟩
  cases hin : inB i 1 ((n : Int) - 2)
  · have HC := Lib.hid (re_2 h.1 hok hin)
    go_enter Try.func50, Try.ntmps50
    go_wp2_with fail
    generalize w.alloc (.cells #[.int .i64 0, .int .i64 0] 37) = w1 at B1 h1 R1 ⊢
    refine (iValidCv_any a n c xs w1 h1 hn).mono ?_
    rintro e w2 ⟨rfl, b2⟩
    rw [hok]
    have R2 := R1.mono b2
    have B2 := belowCall B1 b2
    obtain ⟨⟨hBl, q0, q1⟩, z0, z1⟩ := R2.parts
    go_wp2_with ((go_at_call 74; refine (inRange_any _ _ _ _).mono ?_; rintro x w' ⟨rfl, rfl⟩; (first | rw [hin2] | rw [hin])))
    obtain ⟨t0, t1⟩ := R2.stored 0 0 rfl
    exact bodyPost_ret (v := .tuple #[.agg #[.int .i64 0, .int .i64 0], .int .i64 2]) (by simp [results, Try.results50, go_sem, t0, t1]) rfl ⟨FrP.mk HC.out, (B2.setCell (Nat.le_refl _) _).setCell (Nat.le_refl _) _⟩
  obtain ⟨hi1, hi2⟩ := inB_iff.1 hin
  obtain ⟨k, rfl⟩ : ∃ k : Nat, i = ((k + 1 : Nat) : Int) := ⟨i.toNat - 1, by omega⟩
  have hk0 : k < n := by omega
  have hk1 : k + 1 < n := by omega
  have hk2 : k + 1 + 1 < n := by omega
  obtain ⟨⟨a0, a1⟩, ha⟩ : ∃ x, xs[k]?.getD pt0 = x := ⟨_, rfl⟩
  obtain ⟨⟨b0, b1⟩, hb⟩ : ∃ x, xs[k + 1]?.getD pt0 = x := ⟨_, rfl⟩
  obtain ⟨⟨c0, c1⟩, hcc⟩ : ∃ x, xs[k + 1 + 1]?.getD pt0 = x := ⟨_, rfl⟩
  have HC0 := re_0 h.1 hok hin ha hb hcc
  obtain ⟨X, Y, K, hv⟩ : ∃ X Y K, vxF (a0, a1) (b0, b1) (c0, c1) = (X, Y, K) := ⟨_, _, _, rfl⟩
  rw [hv] at HC0
  have HC := Lib.hid HC0
  have HV : ∀ W, Calls Try.prog 21 #[.agg #[.int .i64 a0, .int .i64 a1], .agg #[.int .i64 b0, .int .i64 b1], .agg #[.int .i64 c0, .int .i64 c1]] W fun e w' => e = .returned (.tuple #[.agg #[.int .i64 X, .int .i64 Y], .int .i64 K]) ∧ Below W.heap.size W w' := fun W => (iVtx_any a0 a1 b0 b1 c0 c1 W).mono (by rintro e w' ⟨⟨x, y, z, hq, rfl⟩, hb⟩; rw [hv] at hq; cases hq; exact ⟨rfl, hb⟩)
  obtain ⟨bb, o1, rfl, hA⟩ := h.2 k hk0
  obtain ⟨bb', o1', he, hB⟩ := h.2 (k + 1) hk1
  cases he
  obtain ⟨bb', o1', he, hCC⟩ := h.2 (k + 1 + 1) hk2
  cases he
  rw [ha] at hA
  rw [hb] at hB
  rw [hcc] at hCC
  have hkn : (k : Int) < (n : Int) := by omega
  have hkn1 : (k : Int) + 1 < (n : Int) := by omega
  have hkn2 : (k : Int) + 1 + 1 < (n : Int) := by omega
  have hsub : IntKind.i64.wrap ((k : Int) + 1 - 1) = (k : Int) := by rw [IntWalk.i64_in _ (by omega)]; omega
  have hadd : IntKind.i64.wrap ((k : Int) + 1 + 1) = (k : Int) + 1 + 1 := IntWalk.i64_in _ (by omega)
  have hw0 : IntKind.i64.wrap (k : Int) = (k : Int) := IntWalk.i64_in _ (by omega)
  have hz0 : (0 : Int) ≤ (k : Int) := by omega
  have htn : ((k : Int) + 1 + 1).toNat = k + 1 + 1 := by omega
  have hz1 : (0 : Int) ≤ (k : Int) + 1 := by omega
  have hz2 : (0 : Int) ≤ (k : Int) + 1 + 1 := by omega
  have hin2 : inB ((k : Int) + 1) 1 ((n : Int) - 2) = true := by rw [← hin]; simp
  clear ha hb hcc HC0 hv
  go_enter Try.func50, Try.ntmps50
  go_wp2_with fail
  generalize w.alloc (.cells #[.int .i64 0, .int .i64 0] 37) = w1 at B1 h1 R1 ⊢
  refine (iValidCv_any _ n c xs w1 h1 hn).mono ?_
  rintro e w2 ⟨rfl, b2⟩
  rw [hok]
  have R2 := R1.mono b2
  have B2 := belowCall B1 b2
  obtain ⟨hbb, p0', p1'⟩ := hA.parts
  obtain ⟨-, r0', r1'⟩ := hB.parts
  obtain ⟨-, s0', s1'⟩ := hCC.parts
  obtain ⟨-, p0, p1⟩ := (hA.mono B2).parts
  obtain ⟨-, r0, r1⟩ := (hB.mono B2).parts
  obtain ⟨-, s0, s1⟩ := (hCC.mono B2).parts
  go_wp2_with ((go_at_call 74; refine (inRange_any _ _ _ _).mono ?_; rintro x w' ⟨rfl, rfl⟩; (first | rw [hin2] | rw [hin])))
  go_region_held3 (fun W' => W'.cell? ⟨bb, o1 + k * 2, none⟩ = some (.int .i64 a0) ∧ W'.cell? ⟨bb, o1 + k * 2 + 1, none⟩ = some (.int .i64 a1) ∧ W'.cell? ⟨bb, o1 + (k + 1) * 2, none⟩ = some (.int .i64 b0) ∧ W'.cell? ⟨bb, o1 + (k + 1) * 2 + 1, none⟩ = some (.int .i64 b1) ∧ W'.cell? ⟨bb, o1 + (k + 1 + 1) * 2, none⟩ = some (.int .i64 c0) ∧ W'.cell? ⟨bb, o1 + (k + 1 + 1) * 2 + 1, none⟩ = some (.int .i64 c1)) (refine ⟨?_, ?_, ?_, ?_, ?_, ?_⟩ <;> first | assumption | exact ((show Below w.heap.size w _ by (repeat (first | assumption | exact Below.refl _ _ | refine belowDN ?_ _ | refine Below.drew ?_ | refine Below.setCell ?_ (by first | omega | (simp <;> omega)) _ | refine Below.alloc ?_ (by first | omega | (simp <;> omega)) _ | refine belowCall ?_ (by assumption)))).cell (p := ⟨bb, o1 + k * 2, none⟩) hbb).trans p0' | exact ((show Below w.heap.size w _ by (repeat (first | assumption | exact Below.refl _ _ | refine belowDN ?_ _ | refine Below.drew ?_ | refine Below.setCell ?_ (by first | omega | (simp <;> omega)) _ | refine Below.alloc ?_ (by first | omega | (simp <;> omega)) _ | refine belowCall ?_ (by assumption)))).cell (p := ⟨bb, o1 + k * 2 + 1, none⟩) hbb).trans p1' | exact ((show Below w.heap.size w _ by (repeat (first | assumption | exact Below.refl _ _ | refine belowDN ?_ _ | refine Below.drew ?_ | refine Below.setCell ?_ (by first | omega | (simp <;> omega)) _ | refine Below.alloc ?_ (by first | omega | (simp <;> omega)) _ | refine belowCall ?_ (by assumption)))).cell (p := ⟨bb, o1 + (k + 1) * 2, none⟩) hbb).trans r0' | exact ((show Below w.heap.size w _ by (repeat (first | assumption | exact Below.refl _ _ | refine belowDN ?_ _ | refine Below.drew ?_ | refine Below.setCell ?_ (by first | omega | (simp <;> omega)) _ | refine Below.alloc ?_ (by first | omega | (simp <;> omega)) _ | refine belowCall ?_ (by assumption)))).cell (p := ⟨bb, o1 + (k + 1) * 2 + 1, none⟩) hbb).trans r1' | exact ((show Below w.heap.size w _ by (repeat (first | assumption | exact Below.refl _ _ | refine belowDN ?_ _ | refine Below.drew ?_ | refine Below.setCell ?_ (by first | omega | (simp <;> omega)) _ | refine Below.alloc ?_ (by first | omega | (simp <;> omega)) _ | refine belowCall ?_ (by assumption)))).cell (p := ⟨bb, o1 + (k + 1 + 1) * 2, none⟩) hbb).trans s0' | exact ((show Below w.heap.size w _ by (repeat (first | assumption | exact Below.refl _ _ | refine belowDN ?_ _ | refine Below.drew ?_ | refine Below.setCell ?_ (by first | omega | (simp <;> omega)) _ | refine Below.alloc ?_ (by first | omega | (simp <;> omega)) _ | refine belowCall ?_ (by assumption)))).cell (p := ⟨bb, o1 + (k + 1 + 1) * 2 + 1, none⟩) hbb).trans s1') (first | (go_at_call 21; refine (HV _).mono ?_; rintro e wB ⟨rfl, bB⟩; have DB : Below w2.heap.size w2 wB := belowCall (by (repeat (first | assumption | exact Below.refl _ _ | refine belowDN ?_ _ | refine Below.drew ?_ | refine Below.setCell ?_ (by first | omega | (simp <;> omega)) _ | refine Below.alloc ?_ (by first | omega | (simp <;> omega)) _ | refine belowCall ?_ (by assumption)))) bB; have zB := DB.size; have BW := belowCall B2 DB; have RB := R2.mono DB; obtain ⟨⟨hBl, q0, q1⟩, z0, z1⟩ := RB.parts; clear bB))
  all_goals
    go_wp2
    obtain ⟨t0, t1⟩ := RB.stored X Y rfl
    exact bodyPost_ret (v := .tuple #[.agg #[.int .i64 X, .int .i64 Y], .int .i64 K]) (by simp [results, Try.results50, go_sem, t0, t1]) rfl ⟨FrP.mk HC.out, (BW.setCell (Nat.le_refl _) _).setCell (Nat.le_refl _) _⟩
set_option maxRecDepth 100000 in
set_option maxHeartbeats 4000000 in
theorem sRfe_any (a : Option Addr) (n c : Nat) (xs : List Pt) (i : Int) (w : World) (h : PtL w a n xs) (hn : n ≤ 1048576) :
    Calls Try.prog 49 #[.slice a n c, .int .i64 i] w fun e w' => FrP (reF xs i) e ∧ Below w.heap.size w w' := by
  have B1 : Below w.heap.size w (w.alloc (.cells #[.int .i64 0, .int .i64 0] 37)) := (Below.refl _ w).alloc (Nat.le_refl _) _
  have h1 := h.mono B1
  have R1 := RF.fresh w 37
  have hl : (n : Int) ≤ 1048576 := by omega
  cases hok : okP xs
  · have HC := Lib.hid (re_1 (i := i) hok)
    go_enter Try.func49, Try.ntmps49
    go_wp2_with fail
    generalize w.alloc (.cells #[.int .i64 0, .int .i64 0] 37) = w1 at B1 h1 R1 ⊢
    refine (l08Ok_below a n c xs w1 h1 hn).mono ?_
    rintro e w2 ⟨rfl, b2⟩
    rw [hok]
    have R2 := R1.mono b2
    have B2 := belowCall B1 b2
    obtain ⟨⟨hBl, q0, q1⟩, z0, z1⟩ := R2.parts
    go_wp2
    obtain ⟨t0, t1⟩ := R2.stored 0 0 rfl
    exact bodyPost_ret (v := .tuple #[.agg #[.int .i64 0, .int .i64 0], .int .i64 1]) (by simp [results, Try.results49, go_sem, t0, t1]) rfl ⟨FrP.mk HC.out, (B2.setCell (Nat.le_refl _) _).setCell (Nat.le_refl _) _⟩
  cases hin : inB i 1 ((n : Int) - 2)
  · have HC := Lib.hid (re_2 h.1 hok hin)
    go_enter Try.func49, Try.ntmps49
    go_wp2_with fail
    generalize w.alloc (.cells #[.int .i64 0, .int .i64 0] 37) = w1 at B1 h1 R1 ⊢
    refine (l08Ok_below a n c xs w1 h1 hn).mono ?_
    rintro e w2 ⟨rfl, b2⟩
    rw [hok]
    have R2 := R1.mono b2
    have B2 := belowCall B1 b2
    obtain ⟨⟨hBl, q0, q1⟩, z0, z1⟩ := R2.parts
    go_wp2_with ((go_at_call 79; refine (l00In_any _ _ _ _).mono ?_; rintro x w' ⟨rfl, rfl⟩; (first | rw [hin2] | rw [hin])))
    obtain ⟨t0, t1⟩ := R2.stored 0 0 rfl
    exact bodyPost_ret (v := .tuple #[.agg #[.int .i64 0, .int .i64 0], .int .i64 2]) (by simp [results, Try.results49, go_sem, t0, t1]) rfl ⟨FrP.mk HC.out, (B2.setCell (Nat.le_refl _) _).setCell (Nat.le_refl _) _⟩
  obtain ⟨hi1, hi2⟩ := inB_iff.1 hin
  obtain ⟨k, rfl⟩ : ∃ k : Nat, i = ((k + 1 : Nat) : Int) := ⟨i.toNat - 1, by omega⟩
  have hk0 : k < n := by omega
  have hk1 : k + 1 < n := by omega
  have hk2 : k + 1 + 1 < n := by omega
  obtain ⟨⟨a0, a1⟩, ha⟩ : ∃ x, xs[k]?.getD pt0 = x := ⟨_, rfl⟩
  obtain ⟨⟨b0, b1⟩, hb⟩ : ∃ x, xs[k + 1]?.getD pt0 = x := ⟨_, rfl⟩
  obtain ⟨⟨c0, c1⟩, hcc⟩ : ∃ x, xs[k + 1 + 1]?.getD pt0 = x := ⟨_, rfl⟩
  have HC0 := re_0 h.1 hok hin ha hb hcc
  obtain ⟨X, Y, K, hv⟩ : ∃ X Y K, vxF (a0, a1) (b0, b1) (c0, c1) = (X, Y, K) := ⟨_, _, _, rfl⟩
  rw [hv] at HC0
  have HC := Lib.hid HC0
  have HV : ∀ W, Calls Try.prog 19 #[.agg #[.int .i64 a0, .int .i64 a1], .agg #[.int .i64 b0, .int .i64 b1], .agg #[.int .i64 c0, .int .i64 c1]] W fun e w' => e = .returned (.tuple #[.agg #[.int .i64 X, .int .i64 Y], .int .i64 K]) ∧ Below W.heap.size W w' := fun W => (sVtx_any a0 a1 b0 b1 c0 c1 W).mono (by rintro e w' ⟨⟨x, y, z, hq, rfl⟩, hb⟩; rw [hv] at hq; cases hq; exact ⟨rfl, hb⟩)
  obtain ⟨bb, o1, rfl, hA⟩ := h.2 k hk0
  obtain ⟨bb', o1', he, hB⟩ := h.2 (k + 1) hk1
  cases he
  obtain ⟨bb', o1', he, hCC⟩ := h.2 (k + 1 + 1) hk2
  cases he
  rw [ha] at hA
  rw [hb] at hB
  rw [hcc] at hCC
  have hkn : (k : Int) < (n : Int) := by omega
  have hkn1 : (k : Int) + 1 < (n : Int) := by omega
  have hkn2 : (k : Int) + 1 + 1 < (n : Int) := by omega
  have hsub : IntKind.i64.wrap ((k : Int) + 1 - 1) = (k : Int) := by rw [IntWalk.i64_in _ (by omega)]; omega
  have hadd : IntKind.i64.wrap ((k : Int) + 1 + 1) = (k : Int) + 1 + 1 := IntWalk.i64_in _ (by omega)
  have hw0 : IntKind.i64.wrap (k : Int) = (k : Int) := IntWalk.i64_in _ (by omega)
  have hz0 : (0 : Int) ≤ (k : Int) := by omega
  have htn : ((k : Int) + 1 + 1).toNat = k + 1 + 1 := by omega
  have hz1 : (0 : Int) ≤ (k : Int) + 1 := by omega
  have hz2 : (0 : Int) ≤ (k : Int) + 1 + 1 := by omega
  have hin2 : inB ((k : Int) + 1) 1 ((n : Int) - 2) = true := by rw [← hin]; simp
  clear ha hb hcc HC0 hv
  go_enter Try.func49, Try.ntmps49
  go_wp2_with fail
  generalize w.alloc (.cells #[.int .i64 0, .int .i64 0] 37) = w1 at B1 h1 R1 ⊢
  refine (l08Ok_below _ n c xs w1 h1 hn).mono ?_
  rintro e w2 ⟨rfl, b2⟩
  rw [hok]
  have R2 := R1.mono b2
  have B2 := belowCall B1 b2
  obtain ⟨hbb, p0', p1'⟩ := hA.parts
  obtain ⟨-, r0', r1'⟩ := hB.parts
  obtain ⟨-, s0', s1'⟩ := hCC.parts
  obtain ⟨-, p0, p1⟩ := (hA.mono B2).parts
  obtain ⟨-, r0, r1⟩ := (hB.mono B2).parts
  obtain ⟨-, s0, s1⟩ := (hCC.mono B2).parts
  go_wp2_with ((go_at_call 79; refine (l00In_any _ _ _ _).mono ?_; rintro x w' ⟨rfl, rfl⟩; (first | rw [hin2] | rw [hin])))
  go_region_held3 (fun W' => W'.cell? ⟨bb, o1 + k * 2, none⟩ = some (.int .i64 a0) ∧ W'.cell? ⟨bb, o1 + k * 2 + 1, none⟩ = some (.int .i64 a1) ∧ W'.cell? ⟨bb, o1 + (k + 1) * 2, none⟩ = some (.int .i64 b0) ∧ W'.cell? ⟨bb, o1 + (k + 1) * 2 + 1, none⟩ = some (.int .i64 b1) ∧ W'.cell? ⟨bb, o1 + (k + 1 + 1) * 2, none⟩ = some (.int .i64 c0) ∧ W'.cell? ⟨bb, o1 + (k + 1 + 1) * 2 + 1, none⟩ = some (.int .i64 c1)) (refine ⟨?_, ?_, ?_, ?_, ?_, ?_⟩ <;> first | assumption | exact ((show Below w.heap.size w _ by (repeat (first | assumption | exact Below.refl _ _ | refine belowDN ?_ _ | refine Below.drew ?_ | refine Below.setCell ?_ (by first | omega | (simp <;> omega)) _ | refine Below.alloc ?_ (by first | omega | (simp <;> omega)) _ | refine belowCall ?_ (by assumption)))).cell (p := ⟨bb, o1 + k * 2, none⟩) hbb).trans p0' | exact ((show Below w.heap.size w _ by (repeat (first | assumption | exact Below.refl _ _ | refine belowDN ?_ _ | refine Below.drew ?_ | refine Below.setCell ?_ (by first | omega | (simp <;> omega)) _ | refine Below.alloc ?_ (by first | omega | (simp <;> omega)) _ | refine belowCall ?_ (by assumption)))).cell (p := ⟨bb, o1 + k * 2 + 1, none⟩) hbb).trans p1' | exact ((show Below w.heap.size w _ by (repeat (first | assumption | exact Below.refl _ _ | refine belowDN ?_ _ | refine Below.drew ?_ | refine Below.setCell ?_ (by first | omega | (simp <;> omega)) _ | refine Below.alloc ?_ (by first | omega | (simp <;> omega)) _ | refine belowCall ?_ (by assumption)))).cell (p := ⟨bb, o1 + (k + 1) * 2, none⟩) hbb).trans r0' | exact ((show Below w.heap.size w _ by (repeat (first | assumption | exact Below.refl _ _ | refine belowDN ?_ _ | refine Below.drew ?_ | refine Below.setCell ?_ (by first | omega | (simp <;> omega)) _ | refine Below.alloc ?_ (by first | omega | (simp <;> omega)) _ | refine belowCall ?_ (by assumption)))).cell (p := ⟨bb, o1 + (k + 1) * 2 + 1, none⟩) hbb).trans r1' | exact ((show Below w.heap.size w _ by (repeat (first | assumption | exact Below.refl _ _ | refine belowDN ?_ _ | refine Below.drew ?_ | refine Below.setCell ?_ (by first | omega | (simp <;> omega)) _ | refine Below.alloc ?_ (by first | omega | (simp <;> omega)) _ | refine belowCall ?_ (by assumption)))).cell (p := ⟨bb, o1 + (k + 1 + 1) * 2, none⟩) hbb).trans s0' | exact ((show Below w.heap.size w _ by (repeat (first | assumption | exact Below.refl _ _ | refine belowDN ?_ _ | refine Below.drew ?_ | refine Below.setCell ?_ (by first | omega | (simp <;> omega)) _ | refine Below.alloc ?_ (by first | omega | (simp <;> omega)) _ | refine belowCall ?_ (by assumption)))).cell (p := ⟨bb, o1 + (k + 1 + 1) * 2 + 1, none⟩) hbb).trans s1') (first | (go_at_call 19; refine (HV _).mono ?_; rintro e wB ⟨rfl, bB⟩; have DB : Below w2.heap.size w2 wB := belowCall (by (repeat (first | assumption | exact Below.refl _ _ | refine belowDN ?_ _ | refine Below.drew ?_ | refine Below.setCell ?_ (by first | omega | (simp <;> omega)) _ | refine Below.alloc ?_ (by first | omega | (simp <;> omega)) _ | refine belowCall ?_ (by assumption)))) bB; have zB := DB.size; have BW := belowCall B2 DB; have RB := R2.mono DB; obtain ⟨⟨hBl, q0, q1⟩, z0, z1⟩ := RB.parts; clear bB))
  all_goals
    go_wp2
    obtain ⟨t0, t1⟩ := RB.stored X Y rfl
    exact bodyPost_ret (v := .tuple #[.agg #[.int .i64 X, .int .i64 Y], .int .i64 K]) (by simp [results, Try.results49, go_sem, t0, t1]) rfl ⟨FrP.mk HC.out, (BW.setCell (Nat.le_refl _) _).setCell (Nat.le_refl _) _⟩
end Go.Proofs.Ytcjipmpccmppiab
