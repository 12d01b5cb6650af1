/- ValidChart, the model's. -/
import Derived.Test.YtiogffjhhhpolabH1
namespace Go.Proofs.Ytiogffjhhhpolab
open Go.ChangeShapes Go.WideShapes Go.ChangeAt Go.RowKit Go.Deep

set_option maxRecDepth 100000 in
set_option maxHeartbeats 4000000 in
theorem l07Ok_any (a : Option Addr) (n c : Nat) (xs : List Mk) (w : World) (h : MkL w a n xs) (hn : n ≤ 1048576) :
    Calls Try.prog 71 #[.slice a n c] w fun e w' => e = .returned (.bool (okC xs)) ∧ Below w.heap.size w w' := by
  have hl : (n : Int) ≤ 1048576 := by omega
  have HL := Lib.hid h.1
  go_enter Try.func71, Try.ntmps71
  go_wp2
  go_loopw [3, 4] (fun i _ wr => ∃ k : Nat, k ≤ n ∧ i = .int .i64 k ∧ (∀ j, j < k → chF xs j = true) ∧ Below w.heap.size w wr) (fun i _ _ => n - (Go.RowKit.intOf i).toNat)
  case atStart => exact ⟨0, Nat.zero_le _, rfl, fun j hj => absurd hj (by omega), Below.refl _ _⟩
  case round =>
    obtain ⟨i, hin, rfl, hall, hB⟩ := hrel
    have HALL := Lib.hid hall
    clear hall
    by_cases hlt : i < n
    · obtain ⟨b1, o1, rfl, hc⟩ := h.2 i hlt
      obtain ⟨⟨x0, x1, x2⟩, hx⟩ : ∃ x, xs[i]?.getD mk0 = x := ⟨_, rfl⟩
      rw [hx] at hc
      obtain ⟨p, p0, p1, p2⟩ := (hc.mono hB).parts
      have HX := Lib.hid hx
      clear hx
      have hii : (i : Int) < (n : Int) := by omega
      cases hv : mrkB (x0, x1, x2)
      · have HD := Lib.hid (okC_bad HL.out hlt (chF_no HX.out hv))
        go_wp2_with fail
        refine (l07One_any x0 x1 x2 wr).mono ?_
        rintro e w2 ⟨rfl, b2⟩
        rw [hv]
        go_wp2
        go_ret
        exact ⟨by rw [HD.out]; rfl, belowCall hB b2⟩
      · go_wp2_with fail
        refine (l07One_any x0 x1 x2 wr).mono ?_
        rintro e w2 ⟨rfl, b2⟩
        rw [hv]
        have hB2 := belowCall hB b2
        have HV := Lib.hid hv
        clear p p0 p1 p2 hB b2 hv
        go_wp2
        go_loopw [4] (fun k wi => ∃ j : Nat, j ≤ i ∧ k = .int .i64 j ∧ (∀ m, m < j → plcB (xs[m]?.getD mk0) (x0, x1, x2) = false) ∧ Below w.heap.size w wi) (fun k _ => i - (Go.RowKit.intOf k).toNat)
        case atStart => exact ⟨0, Nat.zero_le _, rfl, fun m hm => absurd hm (by omega), hB2⟩
        case round =>
          obtain ⟨j, hji, rfl, hno, hBi⟩ := hrel
          have HNO := Lib.hid hno
          clear hno hB2
          by_cases hj : j < i
          · obtain ⟨b1', o1', he, hc'⟩ := h.2 j (by omega)
            cases he
            obtain ⟨⟨y0, y1, y2⟩, hy⟩ : ∃ x, xs[j]?.getD mk0 = x := ⟨_, rfl⟩
            rw [hy] at hc'
            have HY := Lib.hid hy
            clear hy
            obtain ⟨p, p0, p1, p2⟩ := (hc.mono hBi).parts
            obtain ⟨-, r0, r1, r2⟩ := (hc'.mono hBi).parts
            have hjj : (j : Int) < (i : Int) := by omega
            have hjn : (j : Int) < (n : Int) := by omega
            have hj0 : (0 : Int) ≤ (j : Int) := by omega
            have hi0 : (0 : Int) ≤ (i : Int) := by omega
            cases h0 : (y0 == x0)
            · (have HK := Lib.hid (noNext HNO.out HY.out (by simp [plcB, *])); go_wp2; go_big_quiet (fail); go_wp2; go_roundw)
              case rel => exact ⟨j + 1, by omega, by go_num, HK.out, by (repeat (first | assumption | exact Below.refl _ _ | refine belowDN ?_ _ | refine Below.drew ?_ | refine Below.setCell ?_ (by first | omega | (simp <;> omega)) _ | refine Below.alloc ?_ (by first | omega | (simp <;> omega)) _ | refine belowCall ?_ (by assumption)))⟩
              case measure => simp [Go.RowKit.intOf]; omega
            cases h1 : (y1 == x1)
            · (have HK := Lib.hid (noNext HNO.out HY.out (by simp [plcB, *])); go_wp2; go_big_quiet (fail); go_wp2; go_roundw)
              case rel => exact ⟨j + 1, by omega, by go_num, HK.out, by (repeat (first | assumption | exact Below.refl _ _ | refine belowDN ?_ _ | refine Below.drew ?_ | refine Below.setCell ?_ (by first | omega | (simp <;> omega)) _ | refine Below.alloc ?_ (by first | omega | (simp <;> omega)) _ | refine belowCall ?_ (by assumption)))⟩
              case measure => simp [Go.RowKit.intOf]; omega
            · have HD := Lib.hid (okC_bad HL.out hlt (chF_twin HX.out HY.out HL.out hlt hj (by simp [plcB, h0, h1])))
              go_wp2
              go_big_quiet (fail)
              go_wp2
              go_ret
              exact ⟨by rw [HD.out]; rfl, by (repeat (first | assumption | exact Below.refl _ _ | refine belowDN ?_ _ | refine Below.drew ?_ | refine Below.setCell ?_ (by first | omega | (simp <;> omega)) _ | refine Below.alloc ?_ (by first | omega | (simp <;> omega)) _ | refine belowCall ?_ (by assumption)))⟩
          · obtain rfl : j = i := by omega
            have HK := Lib.hid (chF_yes HX.out HV.out HNO.out)
            go_wp2
            go_roundw
            case rel => exact ⟨j + 1, by omega, by go_num, chF_next HALL.out HK.out, hBi⟩
            case measure => simp [Go.RowKit.intOf]; omega
    · obtain rfl : i = n := by omega
      by_cases h30 : i ≤ 30
      · have hd : decide ((i : Int) ≤ 30) = true := by simp; omega
        have HD := Lib.hid (okC_yes HL.out h30 HALL.out)
        go_wp2
        go_ret
        exact ⟨by rw [HD.out]; simp [*], hB⟩
      · have hd : decide ((i : Int) ≤ 30) = false := by simp; omega
        have HD := Lib.hid (okC_long HL.out h30)
        go_wp2
        go_ret
        exact ⟨by rw [HD.out]; simp [*], hB⟩
end Go.Proofs.Ytiogffjhhhpolab
