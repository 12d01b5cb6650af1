/- AssignCycles, both sides. -/
import Derived.Test.YtbjflgohahmjgaaDoorPR
import Derived.Test.YtbjflgohahmjgaaDoorPG
namespace Go.Proofs.YtbjflgohahmjgaaDoor
open Go.ChangeShapes Go.WideShapes Go.ChangeAt Go.RowKit Go.Deep

set_option maxRecDepth 100000 in
set_option maxHeartbeats 2000000 in
theorem iAsg_any (a : Option Addr) (n c : Nat) (ts : List Int) (e p m : Int) (w : World) (h : Lst w a n ts) (hn : n ≤ 1048576) (hg : ErT w) :
    Calls Tryd.prog 16 #[.slice a n c, .agg #[.int .i64 e, .int .i64 p], .int .i64 m] w fun x w' => MiRes w.heap.size (acA ts e p m) (.int .i64 (acC ts e p m)) w' x ∧ Below w.heap.size w w' := by
  have hbx := PtC.fresh w 27 e p
  have B1 : Below w.heap.size w (w.alloc (.cells #[.int .i64 e, .int .i64 p] 27)) := (Below.refl _ w).alloc (Nat.le_refl _) _
  cases he : ephB e p
  · have HD := Lib.hid (ac_1 (ts := ts) (m := m) he)
    go_enter Tryd.func16, Tryd.ntmps16
    go_upto_region 1 with fail
    generalize w.alloc (.cells #[.int .i64 e, .int .i64 p] 27) = v at hbx B1 ⊢
    obtain ⟨-, k0, k1⟩ := hbx.parts
    rw [Nat.zero_add] at k1
    go_wp2_with fail
    refine (iValidEp_any e p _).mono ?_
    rintro x w2 ⟨rfl, b2⟩
    rw [he]
    go_wp2
    go_ret2
    exact ⟨by rw [HD.out.1, HD.out.2]; exact MiRes.nil _ _ _, belowCall B1 b2⟩
  cases ht : okT ts
  · have HD := Lib.hid (ac_2 (m := m) he (by rw [ht]; rfl))
    go_enter Tryd.func16, Tryd.ntmps16
    go_upto_region 1 with fail
    generalize w.alloc (.cells #[.int .i64 e, .int .i64 p] 27) = v at hbx B1 ⊢
    obtain ⟨-, k0, k1⟩ := hbx.parts
    rw [Nat.zero_add] at k1
    go_wp2_with fail
    refine (iValidEp_any e p _).mono ?_
    rintro x w2 ⟨rfl, b2⟩
    rw [he]
    go_wp2_with fail
    refine (areTm_any a n c ts _ (h.mono (belowCall B1 b2)) hn).mono ?_
    rintro x w3 ⟨rfl, b3⟩
    rw [ht]
    go_wp2
    go_ret2
    exact ⟨by rw [HD.out.1, HD.out.2]; exact MiRes.nil _ _ _, belowCall (belowCall B1 b2) b3⟩
  have HIR : ∀ W, Calls Tryd.prog 48 #[.int .i64 m, .int .i64 0, .int .i64 1000000] W fun e w' => e = .returned (.bool (inB m 0 1000000)) ∧ W = w' := fun W => inRange_any m 0 1000000 W
  cases hm : inB m 0 1000000
  · have HD := Lib.hid (ac_2 (m := m) he (by rw [ht, hm]; rfl))
    rw [hm] at HIR
    go_enter Tryd.func16, Tryd.ntmps16
    go_upto_region 1 with fail
    generalize w.alloc (.cells #[.int .i64 e, .int .i64 p] 27) = v at hbx B1 ⊢
    obtain ⟨-, k0, k1⟩ := hbx.parts
    rw [Nat.zero_add] at k1
    go_wp2_with fail
    refine (iValidEp_any e p _).mono ?_
    rintro x w2 ⟨rfl, b2⟩
    rw [he]
    go_wp2_with fail
    refine (areTm_any a n c ts _ (h.mono (belowCall B1 b2)) hn).mono ?_
    rintro x w3 ⟨rfl, b3⟩
    rw [ht]
    go_wp2_with (go_at_call 48; refine (HIR _).mono ?_; rintro x w' ⟨rfl, rfl⟩)
    go_ret2
    exact ⟨by rw [HD.out.1, HD.out.2]; exact MiRes.nil _ _ _, belowCall (belowCall B1 b2) b3⟩
  have hv : (okT ts && inB m 0 1000000) = true := by rw [ht, hm]; rfl
  have HL := Lib.hid h.1
  have HSL : Hid ((acL e p ts).length = n) := Lib.hid ((acL_len e p ts).trans h.1)
  rw [hm] at HIR
  go_enter Tryd.func16, Tryd.ntmps16
  go_upto_region 1 with fail
  generalize w.alloc (.cells #[.int .i64 e, .int .i64 p] 27) = v at hbx B1 ⊢
  obtain ⟨-, k0, k1⟩ := hbx.parts
  rw [Nat.zero_add] at k1
  go_wp2_with fail
  refine (iValidEp_any e p _).mono ?_
  rintro x w2 ⟨rfl, b2⟩
  rw [he]
  have hbx2 := hbx.mono b2
  have B2 := belowCall B1 b2
  go_wp2_with fail
  refine (areTm_any a n c ts _ (h.mono B2) hn).mono ?_
  rintro x w3 ⟨rfl, b3⟩
  rw [ht]
  have B3 := belowCall B2 b3
  obtain ⟨-, l0, l1⟩ := (hbx2.mono b3).parts
  rw [Nat.zero_add] at l1
  clear k0 k1
  go_wp2_with (go_at_call 48; refine (HIR _).mono ?_; rintro x w' ⟨rfl, rfl⟩)
  refine (assigned_any a n c ts e p m w3 (h.mono B3) ht he).mono ?_
  rintro r w4 ⟨hP, b4⟩
  have B4 := belowCall B3 b4
  have hg4 := hg.mono B4
  cases hnr : allNear e p m (acL e p ts)
  · have HD := Lib.hid (ac_9 he hv hnr)
    rw [AsPost, hnr] at hP
    have hr : r = .returned (.tuple #[.slice none 0 0, .iface 97 (.int .i64 9)]) := hP
    subst hr
    go_wp2_with fail
    refine (codeHit_any 9 _ hg4).mono ?_
    rintro x w5 ⟨rfl, b5⟩
    go_wp2
    go_ret2
    exact ⟨by rw [HD.out.1, HD.out.2]; exact MiRes.nil _ _ _, belowCall B4 b5⟩
  cases hok2 : okM (acL e p ts)
  · have HD := Lib.hid (ac_6 he hv hnr hok2)
    rw [AsPost, hnr, hok2] at hP
    have hr : r = .returned (.tuple #[.slice none 0 0, .iface 97 (.int .i64 6)]) := hP
    subst hr
    go_wp2_with fail
    refine (codeHit_any 6 _ hg4).mono ?_
    rintro x w5 ⟨rfl, b5⟩
    go_wp2
    go_ret2
    exact ⟨by rw [HD.out.1, HD.out.2]; exact MiRes.nil _ _ _, belowCall B4 b5⟩
  · have HD := Lib.hid (ac_0 he hv hnr hok2)
    rw [AsPost, hnr, hok2, HL.out] at hP
    obtain ⟨g, hr, hown⟩ : ∃ g, r = .returned (.tuple #[.slice (some ⟨g, 0, none⟩) n n, .nilIface]) ∧ w4.ownsRow w3.heap.size 34 2 (.slice (some ⟨g, 0, none⟩) n n) n (flatMi (acL e p ts)) := hP
    subst hr
    have hs3 := B3.size
    go_wp2_with fail
    refine (codeNil_any _).mono ?_
    rintro x w5 ⟨rfl, b5⟩
    have HO := Lib.hid (ownLow (ownKeepF hown b5) hs3)
    clear hown
    go_wp2
    go_ret2
    exact ⟨by rw [HD.out.1, HD.out.2]; exact MiRes.own HO.out HSL.out, belowCall B4 b5⟩
def rsB (ts : List Int) : Bool := (List.range ts.length).all (okAtT ts)
theorem rsB_bad {ts : List Int} {n k : Nat} (hn : ts.length = n) (hk : k < n) (h : okAtT ts k = false) : rsB ts = false := not_all_rangeM (k := k) (by omega) h
theorem rsB_yes {ts : List Int} {n : Nat} (hn : ts.length = n) (h : ∀ k, k < n → okAtT ts k = true) : rsB ts = true := all_rangeM (fun k hk => h k (by omega))
theorem okT_rs {ts : List Int} {n : Nat} (hn : ts.length = n) : okT ts = (decide (n ≤ 50) && rsB ts) := by rw [okT, rsB, hn]
theorem flipT {P : Program} {f : FuncId} {args : Array Value} {w : World} {v : Value} (h : Calls P f args w fun e w' => e = .returned v ∧ w = w') : Calls P f args w fun e w' => e = .returned v ∧ w' = w :=
  h.mono fun _ _ hh => ⟨hh.1, hh.2.symm⟩
set_option maxRecDepth 100000 in
set_option maxHeartbeats 2000000 in
theorem rises_any (a : Option Addr) (n c : Nat) (ts : List Int) (w : World) (h : Lst w a n ts) (hn : n ≤ 1048576) :
    Calls Tryd.prog 62 #[.slice a n c, .int .i64 0, .int .i64 10000000] w fun e w' => e = .returned (.bool (rsB ts)) ∧ Below w.heap.size w w' := by
  have hl : (n : Int) ≤ 1048576 := by omega
  have HL := Lib.hid h.1
  go_enter Tryd.func62, Tryd.ntmps62
  go_wp2
  go_loopw [7] (fun i wr => ∃ k : Nat, k ≤ n ∧ i = .int .i64 k ∧ (∀ j, j < k → okAtT ts j = true) ∧ Below w.heap.size w wr) (fun i _ => n - (Go.RowKit.intOf i).toNat)
  case atStart => exact ⟨0, Nat.zero_le _, rfl, fun j hj => absurd hj (by omega), Below.refl _ _⟩
  case round =>
    obtain ⟨k, hk, rfl, hall, hB⟩ := hrel
    have HALL := Lib.hid hall
    clear hall
    by_cases hlt : k < n
    · obtain ⟨b1, o1, rfl, hb1, hc⟩ := h.2 k hlt
      obtain ⟨x, hx⟩ : ∃ x, ts[k]?.getD 0 = x := ⟨_, rfl⟩
      rw [hx] at hc
      have HX := Lib.hid hx
      clear hx
      have q0 := (hB.cell (p := ⟨b1, o1 + k, none⟩) hb1).trans hc
      have hkk : (k : Int) < (n : Int) := by omega
      have HIN : ∀ W, Calls Tryd.prog 63 #[.int .i64 x, .int .i64 0, .int .i64 10000000] W fun e w' => e = .returned (.bool (tmB x)) ∧ w' = W := fun W => flipT (l00In_any x 0 10000000 W)
      clear hc
      cases h0 : tmB x
      · have HD := Lib.hid (rsB_bad HL.out hlt (okAtT_no HX.out h0))
        rw [h0] at HIN
        go_wp2
        (go_big_quiet (first | (go_at_call 63; refine Calls.quiet_of_same (HIN _))))
        go_wp2
        go_ret
        exact ⟨by rw [HD.out]; rfl, belowDN hB _⟩
      rw [h0] at HIN
      by_cases hk0 : 0 < k
      · obtain ⟨k', rfl⟩ : ∃ k', k = k' + 1 := ⟨k - 1, by omega⟩
        obtain ⟨b1', o1', he, -, hc'⟩ := h.2 k' (by omega)
        cases he
        obtain ⟨y, hy⟩ : ∃ x, ts[k']?.getD 0 = x := ⟨_, rfl⟩
        rw [hy] at hc'
        have HY := Lib.hid hy
        clear hy
        have q1 := (hB.cell (p := ⟨b1, o1 + k', none⟩) hb1).trans hc'
        clear hc'
        have hi0 : (0 : Int) ≤ (k' : Int) := by omega
        have hi1 : (k' : Int) < (n : Int) := by omega
        have hw1 : IntKind.i64.wrap ((k' : Int) + 1 - 1) = (k' : Int) := by rw [IntWalk.i64_in _ (by omega)]; omega
        have hw2 : IntKind.i64.wrap (k' : Int) = (k' : Int) := IntWalk.i64_in _ (by omega)
        by_cases hless : y < x
        · have HK := Lib.hid (okAtT_succ (b := true) HX.out HY.out h0 (by simpa using hless))
          have hge : decide (x ≤ y) = false := by simpa using hless
          go_wp2
          (go_big_quiet (first | (go_at_call 63; refine Calls.quiet_of_same (HIN _))))
          go_wp2
          go_roundw
          case rel => exact ⟨k' + 1 + 1, by omega, by go_num, okT_next HALL.out HK.out, belowDN hB _⟩
          case measure => simp [Go.RowKit.intOf]; omega
        · have HD := Lib.hid (rsB_bad HL.out hlt (okAtT_succ (b := false) HX.out HY.out h0 (by simpa using hless)))
          have hge : decide (x ≤ y) = true := by simpa using hless
          go_wp2
          (go_big_quiet (first | (go_at_call 63; refine Calls.quiet_of_same (HIN _))))
          go_wp2
          go_ret
          exact ⟨by rw [HD.out]; rfl, belowDN hB _⟩
      · obtain rfl : k = 0 := by omega
        have HK := Lib.hid (okAtT_zero HX.out h0 rfl)
        rw [Nat.add_zero] at q0
        go_wp2
        (go_big_quiet (first | (go_at_call 63; refine Calls.quiet_of_same (HIN _))))
        go_wp2
        go_roundw
        case rel => exact ⟨0 + 1, by omega, by go_num, okT_next HALL.out HK.out, belowDN hB _⟩
        case measure => simp [Go.RowKit.intOf]; omega
    · obtain rfl : k = n := by omega
      have HD := Lib.hid (rsB_yes HL.out HALL.out)
      go_wp2
      go_ret
      exact ⟨by rw [HD.out]; rfl, hB⟩
end Go.Proofs.YtbjflgohahmjgaaDoor
