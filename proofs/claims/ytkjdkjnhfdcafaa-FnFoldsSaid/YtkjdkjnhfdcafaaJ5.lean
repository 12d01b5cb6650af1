/- The magnitudes of all points; AmplitudeOf, both sides. -/
import Derived.Test.YtkjdkjnhfdcafaaJ3
import Derived.Test.YtkjdkjnhfdcafaaJM
import Derived.Test.YtkjdkjnhfdcafaaB5
import Derived.Test.YtkjdkjnhfdcafaaGI
import Derived.Lib.SliceRun
namespace Go.Proofs.Ytkjdkjnhfdcafaa
open Go.ChangeShapes Go.WideShapes Go.ChangeAt Go.RowKit Go.Deep

theorem ownKeepJ {w w' : World} {B e s n : Nat} {v : Value} {xs : List Value} (h : w.ownsRow B e s v n xs) (hb : Below w.heap.size w w') : w'.ownsRow B e s v n xs :=
  h.kept (gBut hb none) (by
    cases hv : v.ownBlock with
    | none => exact .inl rfl
    | some g => exact .inr (by simp))
theorem ptMag_any (x0 x1 : Int) (w : World) :
    Calls Try.prog 96 #[.agg #[.int .i64 x0, .int .i64 x1]] w fun e w' => e = .returned (.int .i64 x1) ∧ Below w.heap.size w w' := by
  go_enter Try.func96, Try.ntmps96
  go_wp2
  go_ret
  exact ⟨rfl, by (repeat (first | assumption | exact Below.refl _ _ | refine belowDN ?_ _ | refine Below.drew ?_ | refine Below.setCell ?_ (by first | omega | (simp <;> omega)) _ | refine Below.alloc ?_ (by first | omega | (simp <;> omega)) _ | refine belowCall ?_ (by assumption)))⟩
set_option maxRecDepth 100000 in
set_option maxHeartbeats 2000000 in
theorem iMagsP_any (a : Option Addr) (n c : Nat) (xs : List Pt) (w : World) (h : PtL w a n xs) (hn : n ≤ 1048576) :
    Calls Try.prog 108 #[.slice a n c] w fun e w' => ∃ g, e = .returned (.slice (some ⟨g, 0, none⟩) n n) ∧ w'.ownsRow w.heap.size 2 1 (.slice (some ⟨g, 0, none⟩) n n) n ((mgP xs).map (Value.int .i64)) ∧ Below w.heap.size w w' := by
  obtain ⟨i0, hi, hz0, hz1, hz2⟩ := info_parts A_info
  have HL := Lib.hid h.1
  have hgl : (mgP xs).length = n := by rw [mgP_len, h.1]
  have HGL := Lib.hid hgl
  clear hgl
  have hb : n ≤ maxLen := by unfold maxLen; omega
  have hl : (n : Int) ≤ 1048576 := by omega
  go_enter Try.func108, Try.ntmps108
  go_wp2_with (at_make; refine wpList_make_full _ rfl _ _ 28 rfl w.heap.size 2 i0 (.int .i64 0) 1 Try.underlying28 hi hz0 hz1 .i64 .i64 n n n rfl rfl rfl rfl (by rw [hz2]; omega) hb (Nat.le_refl _) ?_; intro w1 hown hgrow)
  go_loopw [11] (fun i wr => ∃ k : Nat, k ≤ n ∧ i = .int .i64 k ∧ wr.ownsRow w.heap.size 2 1 (.slice (some ⟨w.heap.size, 0, none⟩) n n) n (cop (mgP xs) k n) ∧ Below w.heap.size w wr) (fun i _ => n - (Go.RowKit.intOf i).toNat)
  case atStart => exact ⟨0, Nat.zero_le _, rfl, by rw [← cop_zero]; exact hown, (Below.refl _ _).grown hgrow (Nat.le_refl _) (fun k hk => by cases hk)⟩
  case round =>
    obtain ⟨k, hk, rfl, hownr, hbel⟩ := hrel
    clear hown hgrow
    by_cases hlt : k < n
    · obtain ⟨b, off, rfl, hc⟩ := h.2 k hlt
      obtain ⟨⟨x0, x1⟩, hx⟩ : ∃ x, xs[k]?.getD pt0 = x := ⟨_, rfl⟩
      have hgk : (mgP xs)[k]?.getD 0 = x1 := by rw [mgP_at, hx]
      rw [hx] at hc
      obtain ⟨-, p0, p1⟩ := (hc.mono hbel).parts
      have hsz := hbel.size
      have hkk : (k : Int) < (n : Int) := by omega
      have hA := hownr.alloc (.cells #[.int .i64 x0, .int .i64 x1] 68)
      have hBA : Below w.heap.size w (wr.alloc (.cells #[.int .i64 x0, .int .i64 x1] 68)) := hbel.alloc hbel.size _
      have HX : Hid (xs[k]?.getD pt0 = (x0, x1)) := Lib.hid hx
      clear hx hc hownr
      go_wp2_with fail
      refine (ptMag_any x0 x1 _).mono ?_
      rintro e w5 ⟨rfl, b5⟩
      have hA5 := ownKeepJ hA b5
      have hB5 := belowCall hBA b5
      have hfz := hA5.frozenAt k
      have hco : w5.cell? ⟨w.heap.size, k, none⟩ = some (.int .i64 0) := by rw [hA5.cellAt k (by omega)]; exact cop_at (mgP xs) k n hlt HGL.out
      obtain ⟨hs1, hs2⟩ := hA5.stored k (.int .i64 x1)
      have HS : Hid ((cop (mgP xs) k n).set k (.int .i64 x1) = cop (mgP xs) (k + 1) n) := Lib.hid (by rw [← hgk]; exact cop_set (mgP xs) k n hlt HGL.out)
      have HO := Lib.hid hs1
      have HBB := Lib.hid (hB5.grown hs2 hB5.size (fun j hj => by cases hj; exact Nat.le_refl _))
      clear hgk hs1 hs2 hA hA5 hBA b5
      go_wp2
      go_roundw
      case rel => exact ⟨k + 1, by omega, by go_num, by rw [← HS.out]; exact HO.out, HBB.out⟩
      case measure => simp [Go.RowKit.intOf]; omega
    · obtain rfl : k = n := by omega
      go_wp2
      go_ret
      rw [cop_full (mgP xs) k HGL.out] at hownr
      exact ⟨_, rfl, hownr, hbel⟩
theorem mgP_ok {xs : List Pt} {n : Nat} (hn : xs.length = n) (h : okP xs = true) : okMags (mgP xs) = true := by
  obtain ⟨h1, h2, -⟩ := okP_num hn h
  rw [okMags, all_of (n := n) (by rw [mgP_len, hn]) (fun j hj => by rw [mgP_at, magB_iff]; have := h2 j hj; omega), mgP_len, hn]
  simp; omega
def amC (xs : List Pt) : Int := if okP xs then (if xs.length = 0 then 3 else 0) else 1
def amA (xs : List Pt) : Int := if amC xs = 0 then mxTo (mgP xs) xs.length - mnTo (mgP xs) xs.length else 0
theorem am_1 {xs : List Pt} (h : okP xs = false) : amC xs = 1 ∧ amA xs = 0 := by simp [amA, amC, h]
theorem am_3 {xs : List Pt} {n : Nat} (hn : xs.length = n) (h : okP xs = true) (h2 : n = 0) : amC xs = 3 ∧ amA xs = 0 := by
  have : xs.length = 0 := by omega
  simp [amA, amC, h, this]
theorem am_0 {xs : List Pt} {n : Nat} (hn : xs.length = n) (h : okP xs = true) (h2 : 0 < n) : amC xs = 0 ∧ amA xs = mxTo (mgP xs) n - mnTo (mgP xs) n := by
  have : ¬ n = 0 := by omega
  simp [amA, amC, h, hn, this]
theorem mn_bd {xs : List Int} {n : Nat} (h0 : 0 < n) (h : ∀ k, k < n → -2000 ≤ xs[k]?.getD 0 ∧ xs[k]?.getD 0 ≤ 20000) : ∀ k, k ≤ n → (-2000 ≤ mnTo xs k ∧ mnTo xs k ≤ 20000) ∧ -2000 ≤ mxTo xs k ∧ mxTo xs k ≤ 20000
  | 0, _ => ⟨h 0 h0, h 0 h0⟩
  | k + 1, hk => by
    have a := mn_bd h0 h k (by omega)
    have b := h k (by omega)
    simp only [mnTo, mxTo]
    split <;> split <;> omega
theorem mgP_num {xs : List Pt} {n : Nat} (h : ∀ k, k < n → 0 ≤ (xs[k]?.getD pt0).1 ∧ (xs[k]?.getD pt0).1 ≤ 10000000 ∧ -2000 ≤ (xs[k]?.getD pt0).2 ∧ (xs[k]?.getD pt0).2 ≤ 20000) (k : Nat) (hk : k < n) : -2000 ≤ (mgP xs)[k]?.getD 0 ∧ (mgP xs)[k]?.getD 0 ≤ 20000 := by
  rw [mgP_at]; have := h k hk; omega
set_option maxRecDepth 100000 in
set_option maxHeartbeats 2000000 in
theorem iAmpl_any (a : Option Addr) (n c : Nat) (xs : List Pt) (w : World) (h : PtL w a n xs) (hn : n ≤ 1048576) :
    Calls Try.prog 81 #[.slice a n c] w fun e w' => e = .returned (.tuple #[.int .i64 (amA xs), .int .i64 (amC xs)]) ∧ Below w.heap.size w w' := by
  cases hok : okP xs
  · have HA := Lib.hid (am_1 hok)
    go_enter Try.func81, Try.ntmps81
    go_wp2_with fail
    refine (iValidCv_any a n c xs w h hn).mono ?_
    rintro e w2 ⟨rfl, b2⟩
    rw [hok]
    go_wp2
    go_ret2
    exact ⟨by rw [HA.out.1, HA.out.2]; rfl, b2⟩
  have hm := mgP_ok h.1 hok
  have hml : (mgP xs).length = n := by rw [mgP_len, h.1]
  obtain ⟨h100, hbd, -⟩ := okP_num h.1 hok
  by_cases h0 : n = 0
  · subst h0
    have HA := Lib.hid (am_3 h.1 hok rfl)
    have HR : Hid (rangeV (mgP xs) = .tuple #[.int .i64 0, .int .i64 0, .int .i64 3]) := Lib.hid (by simp [rangeV, someCode, hm, hml, three])
    clear hm hml hbd
    go_enter Try.func81, Try.ntmps81
    go_wp2_with fail
    refine (iValidCv_any a 0 c xs w h hn).mono ?_
    rintro e w2 ⟨rfl, b2⟩
    rw [hok]
    go_wp2_with fail
    refine (iMagsP_any a 0 c xs w2 (h.mono b2) hn).mono ?_
    rintro e w3 ⟨g3, rfl, hown, b3⟩
    have hLs := Lst.of_own hown
    clear hown
    go_wp2_with fail
    refine (iRange3_any _ 0 0 (mgP xs) w3 hLs hn).mono ?_
    rintro e w4 ⟨rfl, b4⟩
    rw [HR.out]
    go_wp2
    go_ret2
    exact ⟨by rw [HA.out.1, HA.out.2]; rfl, belowCall (belowCall b2 b3) b4⟩
  · have HA := Lib.hid (am_0 h.1 hok (by omega))
    have HR : Hid (rangeV (mgP xs) = .tuple #[.int .i64 (mnTo (mgP xs) n), .int .i64 (mxTo (mgP xs) n), .int .i64 0]) := Lib.hid (by simp [rangeV, someCode, hm, hml, h0, three])
    obtain ⟨d1, d2⟩ := mn_bd (by omega) (mgP_num hbd) n (Nat.le_refl _)
    generalize mnTo (mgP xs) n = lo at *
    generalize mxTo (mgP xs) n = hi at *
    clear hm hml hbd
    go_enter Try.func81, Try.ntmps81
    go_wp2_with fail
    refine (iValidCv_any a n c xs w h hn).mono ?_
    rintro e w2 ⟨rfl, b2⟩
    rw [hok]
    go_wp2_with fail
    refine (iMagsP_any a n c xs w2 (h.mono b2) hn).mono ?_
    rintro e w3 ⟨g3, rfl, hown, b3⟩
    have hLs := Lst.of_own hown
    clear hown
    go_wp2_with fail
    refine (iRange3_any _ n n (mgP xs) w3 hLs hn).mono ?_
    rintro e w4 ⟨rfl, b4⟩
    rw [HR.out]
    go_wp2
    go_ret2
    exact ⟨by rw [HA.out.1, HA.out.2]; rfl, belowCall (belowCall b2 b3) b4⟩
set_option maxRecDepth 100000 in
set_option maxHeartbeats 2000000 in
theorem sAmpl_any (a : Option Addr) (n c : Nat) (xs : List Pt) (w : World) (h : PtL w a n xs) (hn : n ≤ 1048576) :
    Calls Try.prog 80 #[.slice a n c] w fun e w' => e = .returned (.tuple #[.int .i64 (amA xs), .int .i64 (amC xs)]) ∧ Below w.heap.size w w' := by
  cases hok : okP xs
  · have HA := Lib.hid (am_1 hok)
    go_enter Try.func80, Try.ntmps80
    go_wp2_with fail
    refine (l08Ok_below a n c xs w h hn).mono ?_
    rintro e w2 ⟨rfl, b2⟩
    rw [hok]
    go_wp2
    go_ret2
    exact ⟨by rw [HA.out.1, HA.out.2]; rfl, b2⟩
  obtain ⟨h100, hbd, -⟩ := okP_num h.1 hok
  by_cases h0 : n = 0
  · subst h0
    have HA := Lib.hid (am_3 h.1 hok rfl)
    clear hbd
    go_enter Try.func80, Try.ntmps80
    go_wp2_with fail
    refine (l08Ok_below a 0 c xs w h hn).mono ?_
    rintro e w2 ⟨rfl, b2⟩
    rw [hok]
    clear hok
    go_wp2
    go_ret2
    exact ⟨by rw [HA.out.1, HA.out.2]; rfl, b2⟩
  · have HA := Lib.hid (am_0 h.1 hok (by omega))
    have hz : ((n : Int) == 0) = false := by simp [h0]
    have hl : (n : Int) ≤ 100 := by omega
    have hl0 : (0 : Int) < (n : Int) := by omega
    have hmn := mn_bd (by omega) (mgP_num hbd)
    have e0 : mnTo (mgP xs) 1 = (xs[0]?.getD pt0).2 ∧ mxTo (mgP xs) 1 = (xs[0]?.getD pt0).2 := by simp [mnTo, mxTo, mgP_at]
    have E0 := Lib.hid e0
    clear e0
    go_enter Try.func80, Try.ntmps80
    go_wp2_with fail
    refine (l08Ok_below a n c xs w h hn).mono ?_
    rintro e w2 ⟨rfl, b2⟩
    rw [hok]
    have h2 := h.mono b2
    obtain ⟨b, o, rfl, hS0⟩ := h2.2 0 (by omega)
    obtain ⟨⟨z0, z1⟩, hz0⟩ : ∃ x, xs[0]?.getD pt0 = x := ⟨_, rfl⟩
    rw [hz0] at hS0
    obtain ⟨-, c0, c1⟩ := hS0.parts
    simp only [Nat.zero_mul, Nat.add_zero] at c0 c1
    rw [hz0] at E0
    clear hok hS0 hz0
    go_wp2
    go_loopw [4, 5, 6] (fun s t i wr => ∃ k : Nat, 1 ≤ k ∧ k ≤ n ∧ i = .int .i64 k ∧ s = .int .i64 (mnTo (mgP xs) k) ∧ t = .int .i64 (mxTo (mgP xs) k) ∧ Below w2.heap.size w2 wr) (fun _ _ i _ => n - (Go.RowKit.intOf i).toNat)
    case atStart => exact ⟨1, by omega, by omega, rfl, by rw [E0.out.1], by rw [E0.out.2], Below.refl _ _⟩
    case round =>
      obtain ⟨k, hk1, hk, rfl, rfl, rfl, hB⟩ := hrel
      by_cases hlt : k < n
      · obtain ⟨b1, o1, he, hS⟩ := h2.2 k hlt
        cases he
        obtain ⟨⟨x0, x1⟩, hx⟩ : ∃ x, xs[k]?.getD pt0 = x := ⟨_, rfl⟩
        have e1 : mnTo (mgP xs) (k + 1) = min2 (mnTo (mgP xs) k) x1 := by rw [mnTo, mgP_at, hx]; simp only [min2]
        have e2 : mxTo (mgP xs) (k + 1) = max2 (mxTo (mgP xs) k) x1 := by rw [mxTo, mgP_at, hx]; simp only [max2]
        have HE1 := Lib.hid e1
        have HE2 := Lib.hid e2
        rw [hx] at hS
        obtain ⟨-, p0, p1⟩ := (hS.mono hB).parts
        clear hx hS e1 e2 hbd hmn
        generalize mnTo (mgP xs) k = lo at *
        generalize mxTo (mgP xs) k = hi at *
        have hkk : (k : Int) < (n : Int) := by omega
        go_wp2_with (first | (go_at_call 78; refine (l00Min_any _ _ _).mono ?_; rintro e w' ⟨rfl, rfl⟩) | (go_at_call 77; refine (l00Max_any _ _ _).mono ?_; rintro e w' ⟨rfl, rfl⟩))
        go_roundw
        case rel => exact ⟨k + 1, by omega, by omega, by go_num, by rw [HE1.out], by rw [HE2.out], hB⟩
        case measure => simp [Go.RowKit.intOf]; omega
      · obtain rfl : k = n := by omega
        obtain ⟨d1, d2⟩ := hmn k (Nat.le_refl _)
        generalize mnTo (mgP xs) k = lo at *
        generalize mxTo (mgP xs) k = hi at *
        go_wp2
        go_ret2
        exact ⟨by rw [HA.out.1, HA.out.2]; rfl, belowCall b2 hB⟩
end Go.Proofs.Ytkjdkjnhfdcafaa
