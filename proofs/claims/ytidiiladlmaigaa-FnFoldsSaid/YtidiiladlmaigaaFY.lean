/- The laws' own helpers a2Has and a2Sum at rows of numbers. -/
import Derived.Test.YtidiiladlmaigaaB3
import Derived.Test.YtidiiladlmaigaaG0
namespace Go.Proofs.Ytidiiladlmaigaa
open Go.ChangeShapes Go.WideShapes Go.ChangeAt Go.RowKit Go.Deep

theorem nomem_at {zs : List Int} {n : Nat} {m : Int} (hn : zs.length = n) (h : ∀ j, j < n → zs[j]?.getD 0 ≠ m) : decide (m ∈ zs) = false := by
  simp only [decide_eq_false_iff_not]
  intro hm
  obtain ⟨j, hj, e⟩ := List.getElem_of_mem hm
  exact h j (by omega) (by simp [hj, e])
/-- a number that a row has not: a2Has says so, and the world stays -/
theorem a2No_any (a : Option Addr) (n c : Nat) (zs : List Int) (m : Int) (w : World) (h : Lst w a n zs) (hn : n ≤ 1048576) (hno : ∀ j, j < n → zs[j]?.getD 0 ≠ m) :
    Calls Try.prog 25 #[.slice a n c, .int .i64 m] w fun e w' => e = .returned (.bool false) ∧ w = w' := by
  have hl : (n : Int) ≤ 1048576 := by omega
  have HNO := Lib.hid hno
  clear hno
  go_enter Try.func25, Try.ntmps25
  go_wp2
  go_loop [5] (fun i => ∃ k : Nat, k ≤ n ∧ i = .int .i64 k) (fun i => n - (intOf i).toNat)
  case atStart => exact ⟨0, Nat.zero_le _, rfl⟩
  case round =>
    obtain ⟨k, hk, rfl⟩ := hrel
    by_cases hlt : k < n
    · obtain ⟨b1, o1, rfl, hb1, hc1⟩ := h.2 k hlt
      have hE := HNO.out k hlt
      obtain ⟨v, hv⟩ : ∃ v, zs[k]?.getD 0 = v := ⟨_, rfl⟩
      rw [hv] at hc1 hE
      have hkk : (k : Int) < (n : Int) := by omega
      clear hv
      go_wp2
      go_round
      case rel => exact ⟨k + 1, by omega, by go_num⟩
      case measure => simp [intOf]; omega
    · obtain rfl : k = n := by omega
      go_wp2
      go_ret
      exact ⟨rfl, rfl⟩
theorem sum_take {zs : List Int} {k : Nat} (hk : k < zs.length) : (zs.take (k + 1)).sum = (zs.take k).sum + zs[k]?.getD 0 := by
  rw [List.take_succ_eq_append_getElem hk, List.sum_append, List.sum_singleton, List.getElem?_eq_getElem hk, Option.getD_some]
theorem sum_bd {zs : List Int} (h : ∀ j, j < zs.length → 0 ≤ zs[j]?.getD 0 ∧ zs[j]?.getD 0 ≤ 1000) : ∀ k, k ≤ zs.length → 0 ≤ (zs.take k).sum ∧ (zs.take k).sum ≤ 1000 * (k : Int)
  | 0, _ => by simp
  | k + 1, hk => by
    have ih := sum_bd h k (by omega)
    have := h k (by omega)
    rw [sum_take (by omega)]
    omega
theorem a2Sum_any (a : Option Addr) (n c : Nat) (zs : List Int) (w : World) (h : Lst w a n zs) (hn : n ≤ 1048576) (hb : ∀ j, j < zs.length → 0 ≤ zs[j]?.getD 0 ∧ zs[j]?.getD 0 ≤ 1000) :
    Calls Try.prog 29 #[.slice a n c] w fun e w' => e = .returned (.int .i64 zs.sum) ∧ w = w' := by
  have hl : (n : Int) ≤ 1048576 := by omega
  have HB := Lib.hid (sum_bd hb)
  have HL := Lib.hid h.1
  clear hb
  go_enter Try.func29, Try.ntmps29
  go_wp2
  go_loop [3, 4] (fun s i => ∃ k : Nat, k ≤ n ∧ i = .int .i64 k ∧ s = .int .i64 (zs.take k).sum) (fun _ i => n - (intOf i).toNat)
  case atStart => exact ⟨0, Nat.zero_le _, rfl, rfl⟩
  case round =>
    obtain ⟨k, hk, rfl, rfl⟩ := hrel
    by_cases hlt : k < n
    · obtain ⟨b1, o1, rfl, hb1, hc1⟩ := h.2 k hlt
      have b1' := HB.out k (by have := HL.out; omega)
      have b2' := HB.out (k + 1) (by have := HL.out; omega)
      have hst := Lib.hid (sum_take (zs := zs) (k := k) (by have := HL.out; omega))
      rw [hst.out] at b2'
      obtain ⟨v, hv⟩ : ∃ v, zs[k]?.getD 0 = v := ⟨_, rfl⟩
      obtain ⟨s, hs⟩ : ∃ v, (zs.take k).sum = v := ⟨_, rfl⟩
      have HST : Hid ((zs.take (k + 1)).sum = s + v) := Lib.hid (by rw [hst.out, hv, hs])
      rw [hv] at hc1 b2'
      rw [hs] at b1' b2' ⊢
      have hkk : (k : Int) < (n : Int) := by omega
      have wS : IntKind.i64.wrap (s + v) = s + v := IntWalk.i64_in _ (by omega)
      clear hv hs hst
      go_wp2
      go_round
      case rel => exact ⟨k + 1, by omega, by go_num, by rw [HST.out]⟩
      case measure => simp [intOf]; omega
    · obtain rfl : k = n := by omega
      have HT : Hid (zs.take k = zs) := Lib.hid (List.take_of_length_le (by have := HL.out; omega))
      go_wp2
      go_ret
      exact ⟨by rw [HT.out]; rfl, rfl⟩
end Go.Proofs.Ytidiiladlmaigaa
