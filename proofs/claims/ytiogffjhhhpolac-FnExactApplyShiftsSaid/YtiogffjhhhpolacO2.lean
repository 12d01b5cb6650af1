/- ValidObservers: what a valid list is; the model's. -/
import Derived.Test.YtiogffjhhhpolacO1
import Derived.Test.YtiogffjhhhpolacQR
import Derived.Deep.RegionHeld3
import Derived.WalkLawsBesides
import Derived.Handy
namespace Go.Proofs.Ytiogffjhhhpolac
open Go.ChangeShapes Go.WideShapes Go.ChangeAt Go.RowKit Go.Deep

def okAtO (xs : List Ob) (k : Nat) : Bool := obB (xs[k]?.getD ob0) && (decide (k = 0) || Op.bytesLess (xs[k - 1]?.getD ob0).1.toList (xs[k]?.getD ob0).1.toList)
def okO (xs : List Ob) : Bool := decide (xs.length ≤ 40) && (List.range xs.length).all (okAtO xs)
theorem okO_long {xs : List Ob} {n : Nat} (hn : xs.length = n) (h : ¬ n ≤ 40) : okO xs = false := by simp [okO, hn, h]
theorem okO_bad {xs : List Ob} {n k : Nat} (hn : xs.length = n) (hk : k < n) (h : okAtO xs k = false) : okO xs = false := by
  rw [okO, not_all_range (k := k) (by omega) h]; simp
theorem okO_yes {xs : List Ob} {n : Nat} (hn : xs.length = n) (h1 : n ≤ 40) (h : ∀ k, k < n → okAtO xs k = true) : okO xs = true := by
  rw [okO, all_range (fun k hk => h k (by omega))]; simp; omega
theorem okAtO_no {xs : List Ob} {k : Nat} {x : Ob} (hx : xs[k]?.getD ob0 = x) (h : obB x = false) : okAtO xs k = false := by simp [okAtO, hx, h]
theorem okAtO_zero {xs : List Ob} {k : Nat} {x : Ob} (hx : xs[k]?.getD ob0 = x) (h : obB x = true) (hk : k = 0) : okAtO xs k = true := by subst hk; simp [okAtO, hx, h]
theorem okAtO_succ {xs : List Ob} {k : Nat} {x y : Ob} {b : Bool} (hx : xs[k + 1]?.getD ob0 = x) (hy : xs[k]?.getD ob0 = y) (h : obB x = true) (hb : (!Op.bytesLess y.1.toList x.1.toList) = !b) : okAtO xs (k + 1) = b := by
  simp only [okAtO, hx, h, Nat.add_sub_cancel, hy]
  cases hh : Op.bytesLess y.1.toList x.1.toList <;> rw [hh] at hb <;> cases b <;> simp_all
theorem okO_next {xs : List Ob} {k : Nat} (h : ∀ j, j < k → okAtO xs j = true) (hk : okAtO xs k = true) : ∀ j, j < k + 1 → okAtO xs j = true := fun j hj => by
  by_cases e : j = k
  · subst e; exact hk
  · exact h j (by omega)
set_option maxRecDepth 100000 in
set_option maxHeartbeats 2000000 in
theorem l05Ok_any (a : Option Addr) (n c : Nat) (xs : List Ob) (w : World) (h : ObL w a n xs) (hn : n ≤ 1048576) :
    Calls Try.prog 25 #[.slice a n c] w fun e w' => e = .returned (.bool (okO xs)) ∧ ∃ m, w' = w.drewN m := by
  have hl : (n : Int) ≤ 1048576 := by omega
  have HL := Lib.hid h.1
  go_enter Try.func25, Try.ntmps25
  go_wp2
  go_loopw [3] (fun i wr => ∃ k q : Nat, k ≤ n ∧ i = .int .i64 k ∧ (∀ j, j < k → okAtO xs j = true) ∧ wr = w.drewN q) (fun i _ => n - (Go.RowKit.intOf i).toNat)
  case atStart => exact ⟨0, 0, Nat.zero_le _, rfl, fun j hj => absurd hj (by omega), rfl⟩
  case round =>
    obtain ⟨k, q, hk, rfl, hall, rfl⟩ := hrel
    have HALL := Lib.hid hall
    clear hall
    by_cases hlt : k < n
    · obtain ⟨b1, o1, rfl, hS⟩ := h.2 k hlt
      obtain ⟨⟨nm, x1⟩, hx⟩ : ∃ x, xs[k]?.getD ob0 = x := ⟨_, rfl⟩
      rw [hx] at hS
      obtain ⟨p, p0, p1⟩ := hS.parts
      have HX := Lib.hid hx
      clear hx
      have hkk : (k : Int) < (n : Int) := by omega
      cases hv : obB (nm, x1)
      · have HD := Lib.hid (okO_bad HL.out hlt (okAtO_no HX.out hv))
        go_wp2_with fail
        go_big_quiet ((go_at_call 44; exact l05One_q _ _ _ _ _ _ _ _ hS hv))
        go_wp2
        go_ret
        exact ⟨by rw [HD.out]; rfl, _, World.drewN_drewN _ _ _⟩
      · by_cases hk0 : 0 < k
        · obtain ⟨k', rfl⟩ : ∃ k', k = k' + 1 := ⟨k - 1, by omega⟩
          obtain ⟨b1', o1', he, hc'⟩ := h.2 k' (by omega)
          cases he
          obtain ⟨⟨nm', y1⟩, hx'⟩ : ∃ x, xs[k']?.getD ob0 = x := ⟨_, rfl⟩
          rw [hx'] at hc'
          have q0 := hc'.parts.2.1
          have HX' := Lib.hid hx'
          clear hx' hc'
          cases hless : (!Op.bytesLess nm'.toList nm.toList)
          · have HK := Lib.hid (okAtO_succ (b := true) HX.out HX'.out hv hless)
            go_wp2_with fail
            go_big_quiet ((go_at_call 44; exact l05One_q _ _ _ _ _ _ _ _ hS hv))
            go_wp2
            go_roundw
            case rel => exact ⟨k' + 1 + 1, _, by omega, by go_num, okO_next HALL.out HK.out, rfl⟩
            case measure => simp [Go.RowKit.intOf]; omega
          · have HD := Lib.hid (okO_bad HL.out hlt (okAtO_succ (b := false) HX.out HX'.out hv hless))
            go_wp2_with fail
            go_big_quiet ((go_at_call 44; exact l05One_q _ _ _ _ _ _ _ _ hS hv))
            go_wp2
            go_ret
            exact ⟨by rw [HD.out]; rfl, _, World.drewN_drewN _ _ _⟩
        · obtain rfl : k = 0 := by omega
          have HK := Lib.hid (okAtO_zero HX.out hv rfl)
          simp only [Nat.zero_mul, Nat.add_zero] at p0 p1 hS
          go_wp2_with fail
          go_big_quiet ((go_at_call 44; exact l05One_q _ _ _ _ _ _ _ _ hS hv))
          go_wp2
          go_roundw
          case rel => exact ⟨0 + 1, _, by omega, by go_num, okO_next HALL.out HK.out, rfl⟩
          case measure => simp [Go.RowKit.intOf]; omega
    · obtain rfl : k = n := by omega
      by_cases h40 : k ≤ 40
      · have hd : decide ((40 : Int) < (k : Int)) = false := by simp; omega
        have hd' : decide ((k : Int) ≤ 40) = true := by simp; omega
        have HD := Lib.hid (okO_yes HL.out h40 HALL.out)
        go_wp2
        go_ret
        exact ⟨by rw [HD.out]; simp [*], _, rfl⟩
      · have hd : decide ((40 : Int) < (k : Int)) = true := by simp; omega
        have hd' : decide ((k : Int) ≤ 40) = false := by simp; omega
        have HD := Lib.hid (okO_long HL.out h40)
        go_wp2
        go_ret
        exact ⟨by rw [HD.out]; simp [*], _, rfl⟩
end Go.Proofs.Ytiogffjhhhpolac
