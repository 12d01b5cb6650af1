/- StarNamed: the model's search, the program's map by names. -/
import Derived.Test.YtiogffjhhhpolabDoorS8
import Derived.Maps.OwnSet
import Derived.Maps.Views
namespace Go.Proofs.YtiogffjhhhpolabDoor
open Go.ChangeShapes Go.WideShapes Go.ChangeAt Go.RowKit Go.Deep Go.Maps

/-- the first index with a name; the length if there is none -/
def findS : List St → ByteArray → Nat
  | [], _ => 0
  | x :: xs, nm => if x.1.toList == nm.toList then 0 else findS xs nm + 1
theorem findS_le (xs : List St) (nm : ByteArray) : findS xs nm ≤ xs.length := by
  induction xs with
  | nil => exact Nat.le_refl _
  | cons x xs ih => simp only [findS, List.length_cons]; split <;> omega
theorem findS_at {xs : List St} {nm : ByteArray} {k : Nat} (hk : k < xs.length) (hall : ∀ j, j < k → ((xs[j]?.getD st0).1.toList == nm.toList) = false) (hx : ((xs[k]?.getD st0).1.toList == nm.toList) = true) : findS xs nm = k := by
  induction xs generalizing k with
  | nil => simp at hk
  | cons x xs ih =>
    cases k with
    | zero => simp at hx; simp [findS, hx]
    | succ k =>
      have h0 := hall 0 (by omega)
      simp at h0
      have := ih (k := k) (by simpa using hk) (fun j hj => by have := hall (j + 1) (by omega); simpa using this) (by simpa using hx)
      simp [findS, h0, this]
theorem findS_none {xs : List St} {nm : ByteArray} (hall : ∀ j, j < xs.length → ((xs[j]?.getD st0).1.toList == nm.toList) = false) : findS xs nm = xs.length := by
  induction xs with
  | nil => rfl
  | cons x xs ih =>
    have h0 := hall 0 (by simp)
    simp at h0
    have := ih (fun j hj => by have := hall (j + 1) (by simpa using hj); simpa using this)
    simp [findS, h0, this]
def findV (xs : List St) (nm : ByteArray) : Int := if findS xs nm < xs.length then findS xs nm else -1
theorem findV_at {xs : List St} {nm : ByteArray} {k : Nat} (h : findS xs nm = k) (hk : k < xs.length) : findV xs nm = k := by rw [findV, h, if_pos hk]
theorem findV_none {xs : List St} {nm : ByteArray} (h : findS xs nm = xs.length) : findV xs nm = -1 := by rw [findV, h, if_neg (by omega)]
set_option maxHeartbeats 1000000 in
theorem l04Find_any (a : Option Addr) (n c : Nat) (xs : List St) (nm : ByteArray) (w : World) (h : StL w a n xs) (hn : n ≤ 1048576) :
    Calls Tryd.prog 18 #[.slice a n c, .string nm] w fun e w' => e = .returned (.int .i64 (findV xs nm)) ∧ w = w' := by
  have hl : (n : Int) ≤ 1048576 := by omega
  have HL := Lib.hid h.1
  go_enter Tryd.func18, Tryd.ntmps18
  go_wp2
  go_loop [5] (fun i => ∃ k : Nat, k ≤ n ∧ i = .int .i64 k ∧ (∀ j, j < k → ((xs[j]?.getD st0).1.toList == nm.toList) = false)) (fun i => n - (intOf i).toNat)
  case atStart => exact ⟨0, Nat.zero_le _, rfl, fun j hj => absurd hj (by omega)⟩
  case round =>
    obtain ⟨k, hk, rfl, hall⟩ := hrel
    have HALL := Lib.hid hall
    clear hall
    by_cases hlt : k < n
    · obtain ⟨b1, o1, rfl, hc⟩ := h.2 k hlt
      obtain ⟨⟨nx, x1, x2, x3, x4⟩, hx⟩ : ∃ x, xs[k]?.getD st0 = x := ⟨_, rfl⟩
      rw [hx] at hc
      obtain ⟨p, p0, p1, p2, p3, p4⟩ := hc.parts
      have HX := Lib.hid hx
      clear hx hc
      have hkk : (k : Int) < (n : Int) := by omega
      cases hE : (nx.toList == nm.toList)
      · go_wp2
        go_round
        case rel =>
          refine ⟨k + 1, by omega, by go_num, fun j hj => ?_⟩
          by_cases hjk : j = k
          · subst hjk; rw [HX.out]; exact hE
          · exact HALL.out j (by omega)
        case measure => simp [intOf]; omega
      · have HV := Lib.hid (findV_at (findS_at (by have := HL.out; omega) HALL.out (by rw [HX.out]; exact hE)) (by have := HL.out; omega))
        go_wp2
        go_ret
        exact ⟨by rw [HV.out]; rfl, rfl⟩
    · obtain rfl : k = n := by omega
      have HV := Lib.hid (findV_none (findS_none (xs := xs) (nm := nm) (by rw [HL.out]; exact HALL.out)))
      go_wp2
      go_ret
      exact ⟨by rw [HV.out]; rfl, rfl⟩
end Go.Proofs.YtiogffjhhhpolabDoor
