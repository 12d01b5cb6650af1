/- Lowest terms, at wide numbers. -/
import Derived.Test.YtidiiladlmaigaaB1
namespace Go.Proofs.Ytidiiladlmaigaa
open Go.ChangeShapes Go.WideShapes Go.ChangeAt Go.RowKit

theorem lowestW_any (a b : Int) (w : World) (h1 : 1 ≤ b) (h2 : b ≤ 9000000000000000000) (h3 : -9000000000000000000 ≤ a) (h4 : a ≤ 9000000000000000000) :
    Calls Try.prog 80 #[.agg #[.int .i64 a, .int .i64 b]] w fun e w' => e = .returned (.agg #[.int .i64 (lowN a b), .int .i64 (lowD a b)]) ∧ Below w.heap.size w w' := by
  by_cases hneg : a < 0
  all_goals
    go_enter Try.func80, Try.ntmps80
    go_wp2
    go_quiet (fail)
    go_wp2
    go_loopw [3, 4] (fun x y wr => ∃ c d n : Nat, c ≤ 9000000000000000000 ∧ d ≤ 9000000000000000000 ∧ Nat.gcd c d = Int.gcd a b ∧ x = .int .i64 c ∧ y = .int .i64 d ∧ wr = ((w.alloc (.cells #[.int .i64 a, .int .i64 b] 25)).alloc (.cells #[.int .i64 0, .int .i64 0] 25)).drewN n) (fun _ y _ => (intOf y).toNat)
    case atStart => exact ⟨b.toNat, a.natAbs, nq, by omega, by omega, gcd_start a b h1, by (congr 1; omega), by (congr 1; omega), rfl⟩
    case round =>
      obtain ⟨c, d, n, hc, hd, hg, rfl, rfl, rfl⟩ := hrel
      have HG := Lib.hid hg
      clear hg
      by_cases hz : d = 0
      · have hz' : ((d : Int) != 0) = false := by simp [hz]
        obtain ⟨hc1, ha, hb⟩ := gcd_end a b c d h1 hz HG.out
        have HA := Lib.hid ha
        have HB := Lib.hid hb
        obtain ⟨q1, q2⟩ := tdiv_bd a c 9000000000000000000 h3 h4
        obtain ⟨q3, q4⟩ := tdiv_bd b c 9000000000000000000 (by omega) (by omega)
        clear ha hb
        go_wp2
        go_region
        go_wp2
        exact bodyPost_ret (v := .agg #[.int .i64 (lowN a b), .int .i64 (lowD a b)]) (by simp [results, Try.results80, go_sem, HA.out, HB.out]) rfl ⟨rfl, by repeat (first | exact Below.refl _ _ | refine belowDN ?_ _ | refine Below.drew ?_ | refine Below.setCell ?_ (by simp) _ | refine Below.alloc ?_ (by simp) _)⟩
      · have hz' : ((d : Int) != 0) = true := by simp; omega
        have hm : 1 ≤ (d : Int) := by omega
        go_wp2
        go_region
        go_roundw
        have hlt := Nat.mod_lt c (show d > 0 by omega)
        have hrel : ∃ c' d' n' : Nat, c' ≤ 9000000000000000000 ∧ d' ≤ 9000000000000000000 ∧ Nat.gcd c' d' = Int.gcd a b ∧ Value.int .i64 d = .int .i64 c' ∧ Value.int .i64 ((c : Int) % d) = .int .i64 d' ∧ (((w.alloc (.cells #[.int .i64 a, .int .i64 b] 25)).alloc (.cells #[.int .i64 0, .int .i64 0] 25)).drewN n).drew = ((w.alloc (.cells #[.int .i64 a, .int .i64 b] 25)).alloc (.cells #[.int .i64 0, .int .i64 0] 25)).drewN n' :=
          ⟨d, c % d, n + 1, hd, by omega, by rw [gcd_step]; exact HG.out, rfl, rfl, rfl⟩
        case rel => first | exact hrel | ((repeat apply Exists.intro); exact ⟨hrel, rfl⟩)
        case measure =>
          have hlt1 : (c : Int) % d < d := Int.emod_lt_of_pos _ (by omega)
          have hlt2 : 0 ≤ (c : Int) % d := Int.emod_nonneg _ (by omega)
          simp [intOf]; omega
theorem l02GcdW_any (a b : Nat) (w : World) (h1 : a ≤ 9000000000000000000) (h2 : b ≤ 9000000000000000000) :
    Calls Try.prog 55 #[.int .i64 a, .int .i64 b] w fun e w' => e = .returned (.int .i64 (Nat.gcd a b : Nat)) ∧ w = w' := by
  go_enter Try.func55, Try.ntmps55
  go_wp2
  go_loop [0, 1] (fun x y => ∃ c d : Nat, c ≤ 9000000000000000000 ∧ d ≤ 9000000000000000000 ∧ Nat.gcd c d = Nat.gcd a b ∧ x = .int .i64 c ∧ y = .int .i64 d) (fun _ y => (intOf y).toNat)
  case atStart => exact ⟨a, b, h1, h2, rfl, rfl, rfl⟩
  case round =>
    obtain ⟨c, d, hc, hd, hg, rfl, rfl⟩ := hrel
    have HG := Lib.hid hg
    clear hg
    by_cases hz : d = 0
    · have hz' : ((d : Int) != 0) = false := by simp [hz]
      go_wp2
      go_ret
      exact ⟨ret_int (by have := HG.out; subst hz; simp at this; omega), rfl⟩
    · have hz' : ((d : Int) != 0) = true := by simp; omega
      have hm : 1 ≤ (d : Int) := by omega
      go_wp2
      go_round
      case rel => exact ⟨d, c % d, hd, by have := Nat.mod_lt c (show d > 0 by omega); omega, by rw [gcd_step]; exact HG.out, rfl, rfl⟩
      case measure =>
        have := Nat.mod_lt c (show d > 0 by omega)
        simp [intOf]; omega
theorem l02SizeW_any (a : Int) (w : World) (h3 : -9000000000000000000 ≤ a) (h4 : a ≤ 9000000000000000000) :
    Calls Try.prog 56 #[.int .i64 a] w fun e w' => e = .returned (.int .i64 (a.natAbs : Nat)) ∧ w = w' := by
  by_cases hneg : a < 0
  all_goals
    go_enter Try.func56, Try.ntmps56
    go_wp2
    go_ret
    exact ⟨ret_int (by omega), rfl⟩
theorem l02MakeW_any (a b : Int) (w : World) (h1 : 1 ≤ b) (h2 : b ≤ 9000000000000000000) (h3 : -9000000000000000000 ≤ a) (h4 : a ≤ 9000000000000000000) :
    Calls Try.prog 32 #[.int .i64 a, .int .i64 b] w fun e w' => e = .returned (.agg #[.int .i64 (lowN a b), .int .i64 (lowD a b)]) ∧ Below w.heap.size w w' := by
  obtain ⟨g, hg⟩ : ∃ g, g = Int.gcd a b := ⟨_, rfl⟩
  obtain ⟨b, rfl⟩ := Int.eq_ofNat_of_zero_le (show 0 ≤ b by omega)
  obtain ⟨hc1, ha, hb⟩ := gcd_end a b g 0 h1 rfl (by rw [Nat.gcd_zero_right]; exact hg)
  have HA := Lib.hid ha
  have HB : Hid ((b : Int) / (g : Int) = lowD a b) := by rw [hg]; exact rfl
  have HG : Hid (Nat.gcd a.natAbs b = g) := Lib.hid (by rw [hg]; rfl)
  obtain ⟨q1, q2⟩ := tdiv_bd a g 9000000000000000000 h3 h4
  obtain ⟨q3, q4⟩ := ediv_bd b g 9000000000000000000 (by omega) (by omega)
  clear ha hb hg
  go_enter Try.func32, Try.ntmps32
  go_wp2_with (first | (go_at_call 56; refine (l02SizeW_any _ _ (by omega) (by omega)).mono ?_; rintro e w' ⟨rfl, rfl⟩) | (go_at_call 55; refine (l02GcdW_any _ _ _ (by omega) (by omega)).mono ?_; rintro e w' ⟨rfl, rfl⟩; rw [HG.out]))
  go_region
  go_wp2
  exact bodyPost_ret (v := .agg #[.int .i64 (lowN a b), .int .i64 (lowD a b)]) (by simp [results, Try.results32, go_sem, HA.out, HB.out]) rfl ⟨rfl, by repeat (first | exact Below.refl _ _ | refine belowDN ?_ _ | refine Below.drew ?_ | refine Below.setCell ?_ (by simp) _ | refine Below.alloc ?_ (by simp) _)⟩
end Go.Proofs.Ytidiiladlmaigaa
