/- ValidCommons, the model's. -/
import Derived.Test.YtfnjndbnogeddaaY1
namespace Go.Proofs.Ytfnjndbnogeddaa
open Go.ChangeShapes Go.WideShapes Go.ChangeAt Go.RowKit Go.Deep

set_option maxRecDepth 100000 in
set_option maxHeartbeats 4000000 in
theorem l05Commons_any (c : Int) (a : Option Addr) (n cap : Nat) (xs : List Cm) (w : World) (h : CmL w a n xs) (hn : n ≤ 1048576) :
    Calls Try.prog 59 #[.int .i64 c, .slice a n cap] w fun e w' => e = .returned (.bool (cmsB c xs)) ∧ ∃ m, w' = w.drewN m := by
  have hl : (n : Int) ≤ 1048576 := by omega
  have HL := Lib.hid h.1
  cases h1 : inB c 1 40
  · go_enter Try.func59, Try.ntmps59
    go_wp2_with (go_at_call 60; refine (l00In_any _ _ _ _).mono ?_; rintro e w' ⟨rfl, rfl⟩)
    go_ret
    exact ⟨by simp [cmsB, h1], 0, rfl⟩
  obtain ⟨c1, c2⟩ := inB_iff.1 h1
  have hw1 : IntKind.i64.wrap (c - 1) = c - 1 := IntWalk.i64_in _ (by omega)
  go_enter Try.func59, Try.ntmps59
  go_wp2_with (go_at_call 60; refine (l00In_any _ _ _ _).mono ?_; rintro e w' ⟨rfl, rfl⟩)
  go_loopw [5] (fun i wr => ∃ k q : Nat, k ≤ n ∧ i = .int .i64 k ∧ (∀ j, j < k → cmF c xs j = true) ∧ wr = w.drewN q) (fun i _ => n - (Go.RowKit.intOf i).toNat)
  case atStart => exact ⟨0, 0, Nat.zero_le _, rfl, fun j hj => absurd hj (by omega), rfl⟩
  case round =>
    obtain ⟨k, q, hk, rfl, hall, hwr⟩ := hrel
    have HW := Lib.hid hwr
    clear hwr
    have HALL := Lib.hid hall
    clear hall
    by_cases hlt : k < n
    · obtain ⟨b1, o1, rfl, hS⟩ := h.2 k hlt
      obtain ⟨⟨x0, x1, x2⟩, hx⟩ : ∃ x, xs[k]?.getD cm0 = x := ⟨_, rfl⟩
      rw [hx] at hS
      obtain ⟨p, p0, p1, p2⟩ := (hS.mono (w' := wr) (by rw [HW.out]; exact belowDN (Below.refl _ _) _)).parts
      have HX := Lib.hid hx
      clear hx
      have hkk : (k : Int) < (n : Int) := by omega
      cases g1 : inB x0 0 (c - 1)
      · have HD := Lib.hid (not_all_cm HL.out hlt (cmF_of (c := c) HX.out (b := false) (by simp [cmB, g1])))
        go_wp2_with fail
        go_big_quiet ((go_at_call 60; refine Calls.quiet_of_same (flipB (l00In_any _ _ _ _) (by assumption))))
        go_wp2
        go_ret
        exact ⟨by simp [cmsB, HD.out], _, by rw [HW.out]; exact World.drewN_drewN _ _ _⟩
      cases g2 : inB x1 0 (c - 1)
      · have HD := Lib.hid (not_all_cm HL.out hlt (cmF_of (c := c) HX.out (b := false) (by simp [cmB, g2])))
        go_wp2_with fail
        go_big_quiet ((go_at_call 60; refine Calls.quiet_of_same (flipB (l00In_any _ _ _ _) (by assumption))))
        go_wp2
        go_ret
        exact ⟨by simp [cmsB, HD.out], _, by rw [HW.out]; exact World.drewN_drewN _ _ _⟩
      cases g3 : (x0 == x1)
      rotate_left
      · have HD := Lib.hid (not_all_cm HL.out hlt (cmF_of (c := c) HX.out (b := false) (by simp at g3; simp [cmB, g3])))
        go_wp2_with fail
        go_big_quiet ((go_at_call 60; refine Calls.quiet_of_same (flipB (l00In_any _ _ _ _) (by assumption))))
        go_wp2
        go_ret
        exact ⟨by simp [cmsB, HD.out], _, by rw [HW.out]; exact World.drewN_drewN _ _ _⟩
      cases g4 : inB x2 (-2000) 2000
      · have HD := Lib.hid (not_all_cm HL.out hlt (cmF_of (c := c) HX.out (b := false) (by simp [cmB, g4])))
        go_wp2_with fail
        go_big_quiet ((go_at_call 60; refine Calls.quiet_of_same (flipB (l00In_any _ _ _ _) (by assumption))))
        go_wp2
        go_ret
        exact ⟨by simp [cmsB, HD.out], _, by rw [HW.out]; exact World.drewN_drewN _ _ _⟩
      · have HK := Lib.hid (cmF_of HX.out (c := c) (b := true) (by simp only [cmB, g1, g2, g4]; simpa using g3))
        go_wp2_with fail
        go_big_quiet ((go_at_call 60; refine Calls.quiet_of_same (flipB (l00In_any _ _ _ _) (by assumption))))
        go_wp2
        go_roundw
        case rel => exact ⟨k + 1, _, by omega, by go_num, cmF_next HALL.out HK.out, by rw [HW.out]; exact World.drewN_drewN _ _ _⟩
        case measure => simp [Go.RowKit.intOf]; omega
    · obtain rfl : k = n := by omega
      have HD := Lib.hid (all_cm HL.out HALL.out)
      by_cases h60 : k ≤ 60
      · have hd' : decide ((k : Int) ≤ 60) = true := by simp; omega
        have hd2 : Hid (decide (xs.length ≤ 60) = true) := Lib.hid (by rw [HL.out]; simpa using h60)
        go_wp2
        go_ret
        exact ⟨by simp only [cmsB, h1, hd2.out, HD.out]; simp [*], _, HW.out⟩
      · have hd' : decide ((k : Int) ≤ 60) = false := by simp; omega
        have hd2 : Hid (decide (xs.length ≤ 60) = false) := Lib.hid (by rw [HL.out]; simpa using h60)
        go_wp2
        go_ret
        exact ⟨by simp only [cmsB, h1, hd2.out, HD.out]; simp [*], _, HW.out⟩
theorem l05Commons_below (c : Int) (a : Option Addr) (n cap : Nat) (xs : List Cm) (w : World) (h : CmL w a n xs) (hn : n ≤ 1048576) :
    Calls Try.prog 59 #[.int .i64 c, .slice a n cap] w fun e w' => e = .returned (.bool (cmsB c xs)) ∧ Below w.heap.size w w' :=
  (l05Commons_any c a n cap xs w h hn).mono fun _ _ ⟨h1, m, h2⟩ => ⟨h1, h2 ▸ belowDN (Below.refl _ _) m⟩
end Go.Proofs.Ytfnjndbnogeddaa
