/- Facts on chosen indices; the laws' a2Has, a2Rises. -/
import Derived.Test.YtfnjndbnogeddaaGreatDoorK0
import Derived.Test.YtfnjndbnogeddaaGreatDoorSE
namespace Go.Proofs.YtfnjndbnogeddaaGreatDoor
open Go.ChangeShapes Go.WideShapes Go.ChangeAt Go.RowKit

/-! chosen indices: rising, in range, a member just where the test holds -/
theorem selL_mem {p : St → Bool} {xs : List St} {n k : Nat} : ((k : Int) ∈ selL p xs n) ↔ (k < n ∧ p (xs[k]?.getD st0) = true) := by
  simp only [selL, List.mem_map, List.mem_filter, List.mem_range]
  constructor
  · rintro ⟨j, ⟨h1, h2⟩, h3⟩
    obtain rfl : j = k := by omega
    exact ⟨h1, h2⟩
  · exact fun h => ⟨k, h, rfl⟩
theorem selL_bd {p : St → Bool} {xs : List St} {n : Nat} {m : Int} (h : m ∈ selL p xs n) : 0 ≤ m ∧ m < n := by
  simp only [selL, List.mem_map, List.mem_filter, List.mem_range] at h
  obtain ⟨j, ⟨h1, _⟩, rfl⟩ := h
  omega
theorem selL_pair (p : St → Bool) (xs : List St) (n : Nat) : (selL p xs n).Pairwise (· < ·) := by
  unfold selL
  rw [List.pairwise_map]
  exact (List.pairwise_lt_range.sublist List.filter_sublist).imp (by intro a b h; omega)
theorem at_mem {zs : List Int} {k : Nat} (hk : k < zs.length) : zs[k]?.getD 0 ∈ zs := by
  simp [hk]
theorem pair_step {zs : List Int} (h : zs.Pairwise (· < ·)) {k : Nat} (hk : k + 1 < zs.length) : zs[k]?.getD 0 < zs[k + 1]?.getD 0 := by
  have := List.pairwise_iff_getElem.1 h k (k + 1) (by omega) hk (by omega)
  simpa [show k < zs.length by omega, hk] using this
theorem nomem_of {zs : List Int} {n : Nat} {m : Int} (hn : zs.length = n) (h : ∀ j, j < n → zs[j]?.getD 0 ≠ m) : decide (m ∈ zs) = false := by
  simp only [decide_eq_false_iff_not]
  intro hm
  obtain ⟨j, hj, e⟩ := List.getElem_of_mem hm
  exact h j (by omega) (by simp [hj, e])
theorem a2Has_any (a : Option Addr) (n c : Nat) (zs : List Int) (m : Int) (w : World) (h : Lst w a n zs) (hn : n ≤ 1048576) :
    Calls Tryz.prog 13 #[.slice a n c, .int .i64 m] w fun e w' => e = .returned (.bool (decide (m ∈ zs))) ∧ w = w' := by
  have hl : (n : Int) ≤ 1048576 := by omega
  go_enter Tryz.func13, Tryz.ntmps13
  go_wp2
  go_loop [5] (fun i => ∃ k : Nat, k ≤ n ∧ i = .int .i64 k ∧ (∀ j, j < k → zs[j]?.getD 0 ≠ m)) (fun i => n - (intOf i).toNat)
  case atStart => exact ⟨0, Nat.zero_le _, rfl, fun j hj => absurd hj (by omega)⟩
  case round =>
    obtain ⟨k, hk, rfl, hall⟩ := hrel
    have HALL := Lib.hid hall
    clear hall
    by_cases hlt : k < n
    · obtain ⟨b1, o1, rfl, hb1, hc1⟩ := h.2 k hlt
      obtain ⟨v, hv⟩ : ∃ v, zs[k]?.getD 0 = v := ⟨_, rfl⟩
      rw [hv] at hc1
      have HV := Lib.hid hv
      clear hv
      have hkk : (k : Int) < (n : Int) := by omega
      by_cases hE : v = m
      · have HD : Hid (decide (m ∈ zs) = true) := Lib.hid (by rw [decide_eq_true_eq, ← hE, ← HV.out]; exact at_mem (by rw [h.1]; exact hlt))
        go_wp2
        go_ret
        exact ⟨by rw [HD.out]; rfl, rfl⟩
      · go_wp2
        go_round
        case rel =>
          refine ⟨k + 1, by omega, by go_num, fun j hj => ?_⟩
          by_cases hjk : j = k
          · subst hjk; rw [HV.out]; exact hE
          · exact HALL.out j (by omega)
        case measure => simp [intOf]; omega
    · obtain rfl : k = n := by omega
      have HD := Lib.hid (nomem_of h.1 HALL.out)
      go_wp2
      go_ret
      exact ⟨by rw [HD.out]; rfl, rfl⟩
end Go.Proofs.YtfnjndbnogeddaaGreatDoor
