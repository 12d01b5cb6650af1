/- ValidEstimates: what a valid list is; the model's. -/
import Derived.Test.YtfnjndbnogeddaaDoorE1
import Derived.Test.YtfnjndbnogeddaaDoorQR
import Derived.Deep.RegionHeld3
import Derived.WalkLawsBesides
import Derived.Handy
namespace Go.Proofs.YtfnjndbnogeddaaDoor
open Go.ChangeShapes Go.WideShapes Go.ChangeAt Go.RowKit Go.Deep

def okAtE (xs : List Es) (k : Nat) : Bool := esB (xs[k]?.getD es0) && (decide (k = 0) || esLt (xs[k - 1]?.getD es0) (xs[k]?.getD es0))
def okE (xs : List Es) : Bool := decide (xs.length ≤ 100) && (List.range xs.length).all (okAtE xs)
theorem okE_long {xs : List Es} {n : Nat} (hn : xs.length = n) (h : ¬ n ≤ 100) : okE xs = false := by simp [okE, hn, h]
theorem okE_bad {xs : List Es} {n k : Nat} (hn : xs.length = n) (hk : k < n) (h : okAtE xs k = false) : okE xs = false := by
  rw [okE, not_all_range (k := k) (by omega) h]; simp
theorem okE_yes {xs : List Es} {n : Nat} (hn : xs.length = n) (h1 : n ≤ 100) (h : ∀ k, k < n → okAtE xs k = true) : okE xs = true := by
  rw [okE, all_range (fun k hk => h k (by omega))]; simp; omega
theorem okE_at {xs : List Es} {n : Nat} (hn : xs.length = n) (h : okE xs = true) : n ≤ 100 ∧ ∀ k, k < n → okAtE xs k = true := by
  simp only [okE, Bool.and_eq_true, decide_eq_true_eq, List.all_eq_true, List.mem_range] at h
  exact ⟨by omega, fun k hk => h.2 k (by omega)⟩
theorem okAtE_no {xs : List Es} {k : Nat} {x : Es} (hx : xs[k]?.getD es0 = x) (h : esB x = false) : okAtE xs k = false := by simp [okAtE, hx, h]
theorem okAtE_zero {xs : List Es} {k : Nat} {x : Es} (hx : xs[k]?.getD es0 = x) (h : esB x = true) (hk : k = 0) : okAtE xs k = true := by subst hk; simp [okAtE, hx, h]
theorem okAtE_succ {xs : List Es} {k : Nat} {x y : Es} {b : Bool} (hx : xs[k + 1]?.getD es0 = x) (hy : xs[k]?.getD es0 = y) (h : esB x = true) (hb : esLt y x = b) : okAtE xs (k + 1) = b := by
  simp only [okAtE, hx, h, Nat.add_sub_cancel, hy, hb]
  simp
theorem okE_next {xs : List Es} {k : Nat} (h : ∀ j, j < k → okAtE xs j = true) (hk : okAtE xs k = true) : ∀ j, j < k + 1 → okAtE xs j = true := fun j hj => by
  by_cases e : j = k
  · subst e; exact hk
  · exact h j (by omega)
set_option maxRecDepth 100000 in
set_option maxHeartbeats 4000000 in
theorem l06Ok_any (a : Option Addr) (n c : Nat) (xs : List Es) (w : World) (h : EsL w a n xs) (hn : n ≤ 1048576) :
    Calls Tryd.prog 15 #[.slice a n c] w fun e w' => e = .returned (.bool (okE xs)) ∧ ∃ m, w' = w.drewN m := by
  have hl : (n : Int) ≤ 1048576 := by omega
  have HL := Lib.hid h.1
  go_enter Tryd.func15, Tryd.ntmps15
  go_wp2
  go_loopw [3] (fun i wr => ∃ k q : Nat, k ≤ n ∧ i = .int .i64 k ∧ (∀ j, j < k → okAtE xs j = true) ∧ wr = w.drewN q) (fun i _ => n - (Go.RowKit.intOf i).toNat)
  case atStart => exact ⟨0, 0, Nat.zero_le _, rfl, fun j hj => absurd hj (by omega), rfl⟩
  case round =>
    obtain ⟨k, q, hk, rfl, hall, rfl⟩ := hrel
    have HALL := Lib.hid hall
    clear hall
    by_cases hlt : k < n
    · obtain ⟨b1, o1, rfl, hS⟩ := h.2 k hlt
      obtain ⟨⟨x0, x1, x2, x3, x4⟩, hx⟩ : ∃ x, xs[k]?.getD es0 = x := ⟨_, rfl⟩
      rw [hx] at hS
      have HX := Lib.hid hx
      clear hx
      have hkk : (k : Int) < (n : Int) := by omega
      cases hv : esB (x0, x1, x2, x3, x4)
      · have HD := Lib.hid (okE_bad HL.out hlt (okAtE_no HX.out hv))
        go_wp2_with fail
        go_big_quiet ((go_at_call 30; exact l06One_q _ _ _ _ _ _ _ _ _ _ _ hS hv))
        go_wp2
        go_ret
        exact ⟨by rw [HD.out]; rfl, _, World.drewN_drewN _ _ _⟩
      · by_cases hk0 : 0 < k
        · obtain ⟨k', rfl⟩ : ∃ k', k = k' + 1 := ⟨k - 1, by omega⟩
          obtain ⟨b1', o1', he, hS'⟩ := h.2 k' (by omega)
          cases he
          obtain ⟨⟨y0, y1, y2, y3, y4⟩, hx'⟩ : ∃ x, xs[k']?.getD es0 = x := ⟨_, rfl⟩
          rw [hx'] at hS'
          have HX' := Lib.hid hx'
          clear hx'
          cases hless : esLt (y0, y1, y2, y3, y4) (x0, x1, x2, x3, x4)
          · have HD := Lib.hid (okE_bad HL.out hlt (okAtE_succ (b := false) HX.out HX'.out hv hless))
            go_wp2_with fail
            go_big_quiet (first | (go_at_call 30; exact l06One_q _ _ _ _ _ _ _ _ _ _ _ hS hv) | (go_at_call 31; exact l06Before_q _ _ _ _ _ _ _ _ _ _ _ _ _ _ _ _ _ _ hS' hS hless))
            go_wp2
            go_ret
            exact ⟨by rw [HD.out]; rfl, _, World.drewN_drewN _ _ _⟩
          · have HK := Lib.hid (okAtE_succ (b := true) HX.out HX'.out hv hless)
            go_wp2_with fail
            go_big_quiet (first | (go_at_call 30; exact l06One_q _ _ _ _ _ _ _ _ _ _ _ hS hv) | (go_at_call 31; exact l06Before_q _ _ _ _ _ _ _ _ _ _ _ _ _ _ _ _ _ _ hS' hS hless))
            go_wp2
            go_roundw
            case rel => exact ⟨k' + 1 + 1, _, by omega, by go_num, okE_next HALL.out HK.out, rfl⟩
            case measure => simp [Go.RowKit.intOf]; omega
        · obtain rfl : k = 0 := by omega
          have HK := Lib.hid (okAtE_zero HX.out hv rfl)
          simp only [Nat.zero_mul, Nat.add_zero] at hS
          go_wp2_with fail
          go_big_quiet ((go_at_call 30; exact l06One_q _ _ _ _ _ _ _ _ _ _ _ hS hv))
          go_wp2
          go_roundw
          case rel => exact ⟨0 + 1, _, by omega, by go_num, okE_next HALL.out HK.out, rfl⟩
          case measure => simp [Go.RowKit.intOf]; omega
    · obtain rfl : k = n := by omega
      by_cases h100 : k ≤ 100
      · have hd : decide ((k : Int) ≤ 100) = true := by simp; omega
        have HD := Lib.hid (okE_yes HL.out h100 HALL.out)
        go_wp2
        go_ret
        exact ⟨by rw [HD.out]; simp [*], _, rfl⟩
      · have hd : decide ((k : Int) ≤ 100) = false := by simp; omega
        have HD := Lib.hid (okE_long HL.out h100)
        go_wp2
        go_ret
        exact ⟨by rw [HD.out]; simp [*], _, rfl⟩
theorem l06Ok_below (a : Option Addr) (n c : Nat) (xs : List Es) (w : World) (h : EsL w a n xs) (hn : n ≤ 1048576) :
    Calls Tryd.prog 15 #[.slice a n c] w fun e w' => e = .returned (.bool (okE xs)) ∧ Below w.heap.size w w' :=
  (l06Ok_any a n c xs w h hn).mono fun _ _ ⟨h1, m, h2⟩ => ⟨h1, h2 ▸ belowDN (Below.refl _ _) m⟩
end Go.Proofs.YtfnjndbnogeddaaDoor
