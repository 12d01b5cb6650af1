/- Lowest terms, at wide numbers. -/
import Derived.Test.YtiogffjhhhpolaaB1
namespace Go.Proofs.Ytiogffjhhhpolaa
open Go.ChangeShapes Go.WideShapes Go.ChangeAt Go.RowKit

theorem lowestW_any (a b : Int) (w : World) (h1 : 1 ≤ b) (h2 : b ≤ 9000000000000000000) (h3 : -9000000000000000000 ≤ a) (h4 : a ≤ 9000000000000000000) :
    Calls Try.prog 73 #[.agg #[.int .i64 a, .int .i64 b]] w fun e w' => e = .returned (.agg #[.int .i64 (lowN a b), .int .i64 (lowD a b)]) ∧ Below w.heap.size w w' := by
  by_cases hneg : a < 0
  all_goals
    go_enter Try.func73, Try.ntmps73
    go_wp2
    go_quiet (fail)
    go_wp2
    go_loopw [3, 4] (fun x y wr => ∃ c d n : Nat, c ≤ 9000000000000000000 ∧ d ≤ 9000000000000000000 ∧ Nat.gcd c d = Int.gcd a b ∧ x = .int .i64 c ∧ y = .int .i64 d ∧ wr = ((w.alloc (.cells #[.int .i64 a, .int .i64 b] 43)).alloc (.cells #[.int .i64 0, .int .i64 0] 43)).drewN n) (fun _ y _ => (intOf y).toNat)
    case atStart => exact ⟨b.toNat, a.natAbs, nq, by omega, by omega, gcd_start a b h1, by (congr 1; omega), by (congr 1; omega), rfl⟩
    case round =>
      obtain ⟨c, d, n, hc, hd, hg, rfl, rfl, rfl⟩ := hrel
      have HG := Lib.hid hg
      clear hg
      by_cases hz : d = 0
      · have hz' : ((d : Int) != 0) = false := by simp [hz]
        obtain ⟨hc1, ha, hb⟩ := gcd_end a b c d h1 hz HG.out
        have HA := Lib.hid ha
        have HB := Lib.hid hb
        obtain ⟨q1, q2⟩ := tdiv_bd a c 9000000000000000000 h3 h4
        obtain ⟨q3, q4⟩ := tdiv_bd b c 9000000000000000000 (by omega) (by omega)
        clear ha hb
        go_wp2
        go_region
        go_wp2
        exact bodyPost_ret (v := .agg #[.int .i64 (lowN a b), .int .i64 (lowD a b)]) (by simp [results, Try.results73, go_sem, HA.out, HB.out]) rfl ⟨rfl, by repeat (first | exact Below.refl _ _ | refine belowDN ?_ _ | refine Below.drew ?_ | refine Below.setCell ?_ (by simp) _ | refine Below.alloc ?_ (by simp) _)⟩
      · have hz' : ((d : Int) != 0) = true := by simp; omega
        have hm : 1 ≤ (d : Int) := by omega
        go_wp2
        go_region
        go_roundw
        have hlt := Nat.mod_lt c (show d > 0 by omega)
        have hrel : ∃ c' d' n' : Nat, c' ≤ 9000000000000000000 ∧ d' ≤ 9000000000000000000 ∧ Nat.gcd c' d' = Int.gcd a b ∧ Value.int .i64 d = .int .i64 c' ∧ Value.int .i64 ((c : Int) % d) = .int .i64 d' ∧ (((w.alloc (.cells #[.int .i64 a, .int .i64 b] 43)).alloc (.cells #[.int .i64 0, .int .i64 0] 43)).drewN n).drew = ((w.alloc (.cells #[.int .i64 a, .int .i64 b] 43)).alloc (.cells #[.int .i64 0, .int .i64 0] 43)).drewN n' :=
          ⟨d, c % d, n + 1, hd, by omega, by rw [gcd_step]; exact HG.out, rfl, rfl, rfl⟩
        case rel => first | exact hrel | ((repeat apply Exists.intro); exact ⟨hrel, rfl⟩)
        case measure =>
          have hlt1 : (c : Int) % d < d := Int.emod_lt_of_pos _ (by omega)
          have hlt2 : 0 ≤ (c : Int) % d := Int.emod_nonneg _ (by omega)
          simp [intOf]; omega
theorem l02SizeW_any (a : Int) (w : World) (h3 : -9000000000000000000 ≤ a) (h4 : a ≤ 9000000000000000000) :
    Calls Try.prog 93 #[.int .i64 a] w fun e w' => e = .returned (.int .i64 (a.natAbs : Nat)) ∧ w = w' := by
  by_cases hneg : a < 0
  all_goals
    go_enter Try.func93, Try.ntmps93
    go_wp2
    go_ret
    exact ⟨ret_int (by omega), rfl⟩
end Go.Proofs.Ytiogffjhhhpolaa
