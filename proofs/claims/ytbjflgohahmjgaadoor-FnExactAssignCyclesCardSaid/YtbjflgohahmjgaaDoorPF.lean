/- ValidMinima, the model's: l13Ok. -/
import Derived.Test.YtbjflgohahmjgaaDoorPA
import Derived.Test.YtbjflgohahmjgaaDoorFG
import Derived.Shelf.SlSortCmp.QuietGrown
namespace Go.Proofs.YtbjflgohahmjgaaDoor
open Go.ChangeShapes Go.WideShapes Go.ChangeAt Go.RowKit Go.Deep

theorem grow_belowM (w : World) (n : Nat) (os : Array Obj) : Below w.heap.size w (Go.Sort.grow (w.drewN n) os) := below_grown_sl _ _ _ _ (Nat.le_refl _)
theorem l13One_G (x0 x1 : Int) (w : World) :
    Calls Tryd.prog 82 #[.agg #[.int .i64 x0, .int .i64 x1]] w fun e w' => e = .returned (.bool (miB (x0, x1))) ∧ GRW w w' := by
  have HC : ∀ W, Calls Tryd.prog 63 #[.int .i64 x0, .int .i64 (-10000), .int .i64 10000] W fun e w' => e = .returned (.bool (cyB x0)) ∧ W = w' := fun W => l00In_any x0 (-10000) 10000 W
  cases h0 : cyB x0
  all_goals
    rw [h0] at HC
    go_enter Tryd.func82, Tryd.ntmps82
    go_wp2_with (first | (go_at_call 68; refine (l06Time_any _ _).mono ?_; rintro x w' ⟨rfl, rfl⟩) | (go_at_call 63; refine (HC _).mono ?_; rintro x w' ⟨rfl, rfl⟩))
    go_ret
    exact ⟨by simp [miB, h0], by (repeat (first | assumption | exact GRW.refl _ | refine GRW.drewN ?_ _ | refine GRW.drew ?_ | refine GRW.alloc ?_ _ | refine GRW.trans ?_ (by assumption)))⟩
set_option maxRecDepth 100000 in
set_option maxHeartbeats 4000000 in
theorem l13Ok_any (a : Option Addr) (n c : Nat) (xs : List Mi) (w : World) (h : MiL w a n xs) (hn : n ≤ 1048576) :
    Calls Tryd.prog 53 #[.slice a n c] w fun e w' => e = .returned (.bool (okM xs)) ∧ Below w.heap.size w w' := by
  have hl : (n : Int) ≤ 1048576 := by omega
  have HL := Lib.hid h.1
  have mixed : Tryd.prog.follows .mixedOrders = true := by kernel_rfl
  go_enter Tryd.func53, Tryd.ntmps53
  go_wp2
  go_loopw [3] (fun i wr => ∃ k : Nat, k ≤ n ∧ i = .int .i64 k ∧ (∀ j, j < k → okAtM xs j = true) ∧ Below w.heap.size w wr) (fun i _ => n - (Go.RowKit.intOf i).toNat)
  case atStart => exact ⟨0, Nat.zero_le _, rfl, fun j hj => absurd hj (by omega), Below.refl _ _⟩
  case round =>
    obtain ⟨k, hk, rfl, hall, hB⟩ := hrel
    have HALL := Lib.hid hall
    clear hall
    by_cases hlt : k < n
    · obtain ⟨b1, o1, rfl, hS⟩ := h.2 k hlt
      obtain ⟨⟨x0, x1⟩, hx⟩ : ∃ x, xs[k]?.getD mi0 = x := ⟨_, rfl⟩
      rw [hx] at hS
      obtain ⟨p, p0, p1⟩ := (hS.mono hB).parts
      have HX := Lib.hid hx
      have hb1 : b1 < wr.heap.size := Nat.lt_of_lt_of_le hS.1 hB.size
      clear hx hS
      have hkk : (k : Int) < (n : Int) := by omega
      have hk00 : (0 : Int) ≤ (k : Int) := by omega
      have HOG : ∀ (n : Nat) (os : Array Obj), Calls Tryd.prog 82 #[.agg #[.int .i64 x0, .int .i64 x1]] (Go.Sort.grow (wr.drewN n) os) fun e w' => e = .returned (.bool (miB (x0, x1))) ∧ ∃ q os', w' = Go.Sort.grow ((Go.Sort.grow (wr.drewN n) os).drewN q) os' := fun n os => l13One_G x0 x1 _
      have l0 : ∀ (n : Nat) (os : Array Obj), (Go.Sort.grow (wr.drewN n) os).cell? ⟨b1, o1 + k * 2, none⟩ = some (.int .i64 x0) := fun n os => cell_grown hb1 p0 n os
      have l1 : ∀ (n : Nat) (os : Array Obj), (Go.Sort.grow (wr.drewN n) os).cell? ⟨b1, o1 + k * 2 + 1, none⟩ = some (.int .i64 x1) := fun n os => cell_grown hb1 p1 n os
      clear p0 p1
      cases hv : miB (x0, x1)
      · have HD := Lib.hid (okM_bad HL.out hlt (okAtM_no HX.out hv))
        rw [hv] at HOG
        clear hv
        go_wp2_with fail
        (refine wp_region_quiet_grown (by assumption) (by kernel_rfl) ?_; (repeat (go_big_quiet_step (first | (go_at_call 82; refine Calls.grown_of (HOG _ _))))); refine wpQuiet_nil ?_; intro _ hw'; obtain ⟨⟨nq, osq⟩, hw''⟩ := hw'; subst hw'')
        go_wp2
        go_ret
        exact ⟨by rw [HD.out]; rfl, belowCall hB (grow_belowM _ _ _)⟩
      rw [hv] at HOG
      by_cases hk0 : 0 < k
      · obtain ⟨k', rfl⟩ : ∃ k', k = k' + 1 := ⟨k - 1, by omega⟩
        obtain ⟨b1', o1', he, hS'⟩ := h.2 k' (by omega)
        cases he
        obtain ⟨⟨y0, y1⟩, hx'⟩ : ∃ x, xs[k']?.getD mi0 = x := ⟨_, rfl⟩
        rw [hx'] at hS'
        obtain ⟨-, q0, q1⟩ := (hS'.mono hB).parts
        have m0 : ∀ (n : Nat) (os : Array Obj), (Go.Sort.grow (wr.drewN n) os).cell? ⟨b1, o1 + k' * 2, none⟩ = some (.int .i64 y0) := fun n os => cell_grown hb1 q0 n os
        have m1 : ∀ (n : Nat) (os : Array Obj), (Go.Sort.grow (wr.drewN n) os).cell? ⟨b1, o1 + k' * 2 + 1, none⟩ = some (.int .i64 y1) := fun n os => cell_grown hb1 q1 n os
        clear q0 q1
        have HX' := Lib.hid hx'
        clear hx' hS'
        have hi0 : (0 : Int) ≤ (k' : Int) := by omega
        have hi1 : (k' : Int) < (n : Int) := by omega
        have hw1 : IntKind.i64.wrap ((k' : Int) + 1 - 1) = (k' : Int) := by rw [IntWalk.i64_in _ (by omega)]; omega
        have hw2 : IntKind.i64.wrap (k' : Int) = (k' : Int) := IntWalk.i64_in _ (by omega)
        cases hless : miLt (y0, y1) (x0, x1)
        · have HD := Lib.hid (okM_bad HL.out hlt (okAtM_succ (b := false) HX.out HX'.out hv hless))
          clear hv
          cases g0 : decide (x0 ≤ y0)
          · have g1 : decide (x1 ≤ y1) = true := by
              simp only [miLt, Bool.and_eq_false_iff, decide_eq_false_iff_not, decide_eq_true_eq] at hless g0 ⊢
              omega
            clear hless
            go_wp2_with fail
            (refine wp_region_quiet_grown (by assumption) (by kernel_rfl) ?_; (repeat (go_big_quiet_step (first | (go_at_call 82; refine Calls.grown_of (HOG _ _))))); refine wpQuiet_nil ?_; intro _ hw'; obtain ⟨⟨nq, osq⟩, hw''⟩ := hw'; subst hw'')
            go_wp2
            go_ret
            exact ⟨by rw [HD.out]; rfl, belowCall hB (grow_belowM _ _ _)⟩
          · clear hless
            go_wp2_with fail
            (refine wp_region_quiet_grown (by assumption) (by kernel_rfl) ?_; (repeat (go_big_quiet_step (first | (go_at_call 82; refine Calls.grown_of (HOG _ _))))); refine wpQuiet_nil ?_; intro _ hw'; obtain ⟨⟨nq, osq⟩, hw''⟩ := hw'; subst hw'')
            go_wp2
            go_ret
            exact ⟨by rw [HD.out]; rfl, belowCall hB (grow_belowM _ _ _)⟩
        · have HK := Lib.hid (okAtM_succ (b := true) HX.out HX'.out hv hless)
          have g01 : decide (x0 ≤ y0) = false ∧ decide (x1 ≤ y1) = false := by
            simp only [miLt, Bool.and_eq_true, decide_eq_false_iff_not, decide_eq_true_eq] at hless ⊢
            omega
          obtain ⟨g0, g1⟩ := g01
          clear hless hv
          go_wp2_with fail
          (refine wp_region_quiet_grown (by assumption) (by kernel_rfl) ?_; (repeat (go_big_quiet_step (first | (go_at_call 82; refine Calls.grown_of (HOG _ _))))); refine wpQuiet_nil ?_; intro _ hw'; obtain ⟨⟨nq, osq⟩, hw''⟩ := hw'; subst hw'')
          go_wp2
          go_roundw
          case rel => exact ⟨k' + 1 + 1, by omega, by go_num, okM_next HALL.out HK.out, belowCall hB (grow_belowM _ _ _)⟩
          case measure => simp [Go.RowKit.intOf]; omega
      · obtain rfl : k = 0 := by omega
        have HK := Lib.hid (okAtM_zero HX.out hv rfl)
        clear hv
        simp only [Nat.zero_mul, Nat.add_zero] at l0 l1
        go_wp2_with fail
        (refine wp_region_quiet_grown (by assumption) (by kernel_rfl) ?_; (repeat (go_big_quiet_step (first | (go_at_call 82; refine Calls.grown_of (HOG _ _))))); refine wpQuiet_nil ?_; intro _ hw'; obtain ⟨⟨nq, osq⟩, hw''⟩ := hw'; subst hw'')
        go_wp2
        go_roundw
        case rel => exact ⟨0 + 1, by omega, by go_num, okM_next HALL.out HK.out, belowCall hB (grow_belowM _ _ _)⟩
        case measure => simp [Go.RowKit.intOf]; omega
    · obtain rfl : k = n := by omega
      by_cases h50 : k ≤ 50
      · have hd : decide ((k : Int) ≤ 50) = true := by simp; omega
        have HD := Lib.hid (okM_yes HL.out h50 HALL.out)
        go_wp2
        go_ret
        exact ⟨by rw [HD.out]; simp [*], hB⟩
      · have hd : decide ((k : Int) ≤ 50) = false := by simp; omega
        have HD := Lib.hid (okM_long HL.out h50)
        go_wp2
        go_ret
        exact ⟨by rw [HD.out]; simp [*], hB⟩
theorem sValidMi_any (a : Option Addr) (n c : Nat) (xs : List Mi) (w : World) (h : MiL w a n xs) (hn : n ≤ 1048576) :
    Calls Tryd.prog 19 #[.slice a n c] w fun e w' => e = .returned (.bool (okM xs)) ∧ Below w.heap.size w w' := by
  go_enter Tryd.func19, Tryd.ntmps19
  go_wp2_with fail
  refine (l13Ok_any a n c xs w h hn).mono ?_
  rintro e w2 ⟨rfl, b2⟩
  go_wp2
  go_ret
  exact ⟨rfl, b2⟩
end Go.Proofs.YtbjflgohahmjgaaDoor
