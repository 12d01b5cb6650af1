/- ValidStars, the model's. -/
import Derived.Test.YtfnjndbnogeddaaGreatDoorS7
import Derived.Test.YtfnjndbnogeddaaGreatDoorSQ
namespace Go.Proofs.YtfnjndbnogeddaaGreatDoor
open Go.ChangeShapes Go.WideShapes Go.ChangeAt Go.RowKit Go.Deep

theorem l04One_val (b o : Nat) (nm : ByteArray) (a d u v : Int) (w : World) (t : Bool) (hS : StC w b o (nm, a, d, u, v)) (hv : starB (nm, a, d, u, v) = t) :
    Calls Tryz.prog 65 #[.pointer (some ⟨b, o, none⟩)] w fun e w' => e = .returned (.bool t) ∧ ∃ m, w' = w.drewN m :=
  (l04One_any b o nm a d u v w hS).mono fun _ _ ⟨h1, h2⟩ => ⟨by rw [h1, hv], h2⟩
theorem l04One_q (b o : Nat) (nm : ByteArray) (a d u v : Int) (w : World) (t : Bool) (q n : Nat) (hS : StC w b o (nm, a, d, u, v)) (hv : starB (nm, a, d, u, v) = t) :
    Calls Tryz.prog 65 #[.pointer (some ⟨b, o, none⟩)] (w.drewN (q + n)) fun e w' => e = .returned (.bool t) ∧ ∃ m, w' = w.drewN (q + m) :=
  (l04One_val b o nm a d u v (w.drewN (q + n)) t (hS.mono (belowDN (Below.refl _ _) _)) hv).mono fun _ _ ⟨h1, m, h2⟩ => ⟨h1, n + m, by rw [h2, World.drewN_drewN, Nat.add_assoc]⟩
set_option maxRecDepth 100000 in
set_option maxHeartbeats 2000000 in
theorem l04Ok_any (a : Option Addr) (n c : Nat) (xs : List St) (w : World) (h : StL w a n xs) (hn : n ≤ 1048576) :
    Calls Tryz.prog 32 #[.slice a n c] w fun e w' => e = .returned (.bool (okS xs)) ∧ ∃ m, w' = w.drewN m := by
  have hl : (n : Int) ≤ 1048576 := by omega
  have HL := Lib.hid h.1
  go_enter Tryz.func32, Tryz.ntmps32
  go_wp2
  go_loopw [3] (fun i wr => ∃ k q : Nat, k ≤ n ∧ i = .int .i64 k ∧ (∀ j, j < k → okAt xs j = true) ∧ wr = w.drewN q) (fun i _ => n - (intOf i).toNat)
  case atStart => exact ⟨0, 0, Nat.zero_le _, rfl, fun j hj => absurd hj (by omega), rfl⟩
  case round =>
    obtain ⟨k, q, hk, rfl, hall, rfl⟩ := hrel
    have HALL := Lib.hid hall
    clear hall
    by_cases hlt : k < n
    · obtain ⟨b1, o1, rfl, hS⟩ := h.2 k hlt
      obtain ⟨⟨nm, x1, x2, x3, x4⟩, hx⟩ : ∃ x, xs[k]?.getD st0 = x := ⟨_, rfl⟩
      rw [hx] at hS
      obtain ⟨p, p0, p1, p2, p3, p4⟩ := hS.parts
      have HX := Lib.hid hx
      clear hx
      have hkk : (k : Int) < (n : Int) := by omega
      cases hv : starB (nm, x1, x2, x3, x4)
      · have HD := Lib.hid (okS_bad HL.out hlt (okAt_no HX.out hv))
        go_wp2
        go_big_quiet ((go_at_call 65; exact l04One_q _ _ _ _ _ _ _ _ _ _ _ hS hv))
        go_wp2
        go_ret
        exact ⟨by rw [HD.out]; rfl, _, World.drewN_drewN _ _ _⟩
      · by_cases hk0 : 0 < k
        · obtain ⟨k', rfl⟩ : ∃ k', k = k' + 1 := ⟨k - 1, by omega⟩
          obtain ⟨b1', o1', he, hc'⟩ := h.2 k' (by omega)
          cases he
          obtain ⟨⟨nm', y1, y2, y3, y4⟩, hx'⟩ : ∃ x, xs[k']?.getD st0 = x := ⟨_, rfl⟩
          rw [hx'] at hc'
          have q0 := hc'.parts.2.1
          have HX' := Lib.hid hx'
          clear hx' hc'
          cases hless : (!Op.bytesLess nm'.toList nm.toList)
          · have HK := Lib.hid (okAt_succ (b := true) HX.out HX'.out hv hless)
            go_wp2
            go_big_quiet ((go_at_call 65; exact l04One_q _ _ _ _ _ _ _ _ _ _ _ hS hv))
            go_wp2
            go_roundw
            case rel => exact ⟨k' + 1 + 1, _, by omega, by go_num, ok_next HALL.out HK.out, rfl⟩
            case measure => simp [intOf]; omega
          · have HD := Lib.hid (okS_bad HL.out hlt (okAt_succ (b := false) HX.out HX'.out hv hless))
            go_wp2
            go_big_quiet ((go_at_call 65; exact l04One_q _ _ _ _ _ _ _ _ _ _ _ hS hv))
            go_wp2
            go_ret
            exact ⟨by rw [HD.out]; rfl, _, World.drewN_drewN _ _ _⟩
        · obtain rfl : k = 0 := by omega
          have HK := Lib.hid (okAt_zero HX.out hv rfl)
          simp only [Nat.zero_mul, Nat.add_zero] at p0 p1 p2 p3 p4 hS
          go_wp2
          go_big_quiet ((go_at_call 65; exact l04One_q _ _ _ _ _ _ _ _ _ _ _ hS hv))
          go_wp2
          go_roundw
          case rel => exact ⟨0 + 1, _, by omega, by go_num, ok_next HALL.out HK.out, rfl⟩
          case measure => simp [intOf]; omega
    · obtain rfl : k = n := by omega
      by_cases h60 : k ≤ 60
      · have hd : decide ((60 : Int) < (k : Int)) = false := by simp; omega
        have hd' : decide ((k : Int) ≤ 60) = true := by simp; omega
        have HD := Lib.hid (okS_yes HL.out h60 HALL.out)
        go_wp2
        go_ret
        exact ⟨by rw [HD.out]; simp [*], _, rfl⟩
      · have hd : decide ((60 : Int) < (k : Int)) = true := by simp; omega
        have hd' : decide ((k : Int) ≤ 60) = false := by simp; omega
        have HD := Lib.hid (okS_long HL.out h60)
        go_wp2
        go_ret
        exact ⟨by rw [HD.out]; simp [*], _, rfl⟩
theorem sValidStars_any (a : Option Addr) (n c : Nat) (xs : List St) (w : World) (h : StL w a n xs) (hn : n ≤ 1048576) :
    Calls Tryz.prog 10 #[.slice a n c] w fun e w' => e = .returned (.bool (okS xs)) ∧ Below w.heap.size w w' := by
  go_enter Tryz.func10, Tryz.ntmps10
  go_wp2_with fail
  refine (l04Ok_any a n c xs w h hn).mono ?_
  rintro e w2 ⟨rfl, q, rfl⟩
  go_wp2
  go_ret
  exact ⟨rfl, belowDN (Below.refl _ _) _⟩
end Go.Proofs.YtfnjndbnogeddaaGreatDoor
