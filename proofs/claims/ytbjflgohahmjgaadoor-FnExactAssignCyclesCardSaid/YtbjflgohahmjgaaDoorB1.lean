/- Contracts of the small functions of chapters 1 and 2 (ranges, floors, nearest integers, lowest terms), over one seat's translation. -/
import Derived.Test.YtbjflgohahmjgaaDoorRows
import Derived.WalkKit
import Derived.ProofKit
import Derived.OpenShut
import Derived.ShutString
import Derived.Below
import Derived.Lib.Hide
import Derived.Outline
import Derived.Deep.QuietTactic
import Derived.BigQuiet
import Derived.LoopTactic
import Derived.RegionTactic
namespace Go.Proofs.YtbjflgohahmjgaaDoor
open Go.ChangeShapes Go.WideShapes Go.ChangeAt Go.RowKit

/-- What a walk is told of a slice of integers that came in: it is nil, or leads to 'cap' cells with the numbers zs. -/
def IsRow (k : IntKind) (w : World) (a : Option Addr) (len cap : Nat) (zs : List Int) : Prop :=
  (a = none ∧ len = 0 ∧ cap = 0 ∧ zs = []) ∨
  ∃ x, a = some x ∧ len ≤ cap ∧ cap ≤ maxLen ∧ zs.length = cap ∧ (∀ i, i < zs.length → w.cell? (x.add i) = some (.int k (zs.getD i 0))) ∧ ∀ n ∈ zs, (Lit.int k n).wf = true

/-! ### Plain arithmetic -/
def inB (n lo hi : Int) : Bool := decide (lo ≤ n) && decide (n ≤ hi)
theorem inB_iff {n lo hi : Int} : inB n lo hi = true ↔ lo ≤ n ∧ n ≤ hi := by simp [inB]
def magB (m : Int) : Bool := inB m (-2000) 20000
theorem magB_iff {m : Int} : magB m = true ↔ -2000 ≤ m ∧ m ≤ 20000 := inB_iff
/-- the nearest integer of num / den -/
def rnd (num den : Int) : Int := (2 * num + den) / (2 * den)

/-- a / b in lowest terms: the numerator and the denominator -/
def lowN (a b : Int) : Int := a / (Int.gcd a b : Int)
def lowD (a b : Int) : Int := b / (Int.gcd a b : Int)

theorem floor_fix (a b : Int) (hb : 1 ≤ b) : (a.tmod b < 0 → a / b = a.tdiv b - 1) ∧ (0 ≤ a.tmod b → a / b = a.tdiv b) := by
  have e1 := @Int.tdiv_eq_ediv a b
  have e2 := @Int.tmod_eq_emod a b
  have e3 := Int.emod_nonneg a (show b ≠ 0 by omega)
  have e4 := Int.emod_lt_of_pos a (show 0 < b by omega)
  have e5 : b.sign = 1 := Int.sign_eq_one_of_pos (by omega)
  by_cases h : 0 ≤ a ∨ b ∣ a
  · rw [if_pos h] at e1 e2; omega
  · rw [if_neg h] at e1 e2; omega
theorem tdiv_bd (a b : Int) (m : Int) (h1 : -m ≤ a) (h2 : a ≤ m) : -m ≤ a.tdiv b ∧ a.tdiv b ≤ m := by
  have := Int.natAbs_tdiv_le_natAbs a b
  omega
theorem ediv_bd (a b : Int) (m : Int) (h1 : -m ≤ a) (h2 : a ≤ m) : -m ≤ a / b ∧ a / b ≤ m := by
  have := Int.natAbs_ediv_le_natAbs a b
  omega
theorem belowDN {B : Nat} {a w : World} (h : Below B a w) (n : Nat) : Below B a (w.drewN n) := ⟨h.os, h.tape, h.output, h.size, h.block⟩
theorem belowCall {w w1 w2 : World} (h : Below w.heap.size w w1) (k : Below w1.heap.size w1 w2) : Below w.heap.size w w2 := h.trans (k.mono h.size)
theorem bcell {W w1 : World} (hb : Below W.heap.size W w1) : (∀ b o, b < W.heap.size → w1.cell? ⟨b, o, none⟩ = W.cell? ⟨b, o, none⟩) ∧ (∀ b o, b < W.heap.size → w1.frozen? ⟨b, o, none⟩ = W.frozen? ⟨b, o, none⟩) :=
  ⟨fun b o h => hb.cell (p := ⟨b, o, none⟩) h, fun b o h => hb.frozen (p := ⟨b, o, none⟩) h⟩
theorem ret_int {k : IntKind} {a b : Int} (h : a = b) : Ending.returned (.int k a) = .returned (.int k b) := by rw [h]

theorem inRange_any (n lo hi : Int) (w : World) :
    Calls Tryd.prog 48 #[.int .i64 n, .int .i64 lo, .int .i64 hi] w fun e w' => e = .returned (.bool (inB n lo hi)) ∧ w = w' := by
  by_cases h1 : lo ≤ n
  · by_cases h2 : n ≤ hi
    all_goals
      go_enter Tryd.func48, Tryd.ntmps48
      go_wp2
      go_ret
      exact ⟨by simp [inB, *], rfl⟩
  · go_enter Tryd.func48, Tryd.ntmps48
    go_wp2
    go_ret
    exact ⟨by simp [inB]; omega, rfl⟩
theorem l00In_any (n lo hi : Int) (w : World) :
    Calls Tryd.prog 63 #[.int .i64 n, .int .i64 lo, .int .i64 hi] w fun e w' => e = .returned (.bool (inB n lo hi)) ∧ w = w' := by
  by_cases h1 : lo ≤ n
  · by_cases h2 : n ≤ hi
    all_goals
      go_enter Tryd.func63, Tryd.ntmps63
      go_wp2
      go_ret
      exact ⟨by simp [inB, *], rfl⟩
  · go_enter Tryd.func63, Tryd.ntmps63
    go_wp2
    go_ret
    exact ⟨by simp [inB]; omega, rfl⟩
theorem floorDiv_any (a b : Int) (w : World) (h1 : 1 ≤ b) (h2 : b ≤ 4611686018427387904) (h3 : -4611686018427387904 ≤ a) (h4 : a ≤ 4611686018427387904) :
    Calls Tryd.prog 89 #[.int .i64 a, .int .i64 b] w fun e w' => e = .returned (.int .i64 (a / b)) ∧ w = w' := by
  obtain ⟨b1, b2⟩ := tdiv_bd a b _ h3 h4
  obtain ⟨f1, f2⟩ := floor_fix a b h1
  have F1 := Lib.hid f1
  have F2 := Lib.hid f2
  clear f1 f2
  go_enter Tryd.func89, Tryd.ntmps89
  go_wp2
  · have h : a.tmod b < 0 := by assumption
    go_ret
    exact ⟨ret_int (F1.out h).symm, rfl⟩
  · have h : 0 ≤ a.tmod b := by assumption
    go_ret
    exact ⟨ret_int (F2.out h).symm, rfl⟩
theorem l02Floor_any (a b : Int) (w : World) (h1 : 1 ≤ b) (h2 : b ≤ 4611686018427387904) (h3 : -4611686018427387904 ≤ a) (h4 : a ≤ 4611686018427387904) :
    Calls Tryd.prog 87 #[.int .i64 a, .int .i64 b] w fun e w' => e = .returned (.int .i64 (a / b)) ∧ w = w' := by
  obtain ⟨b1, b2⟩ := tdiv_bd a b _ h3 h4
  obtain ⟨f1, f2⟩ := floor_fix a b h1
  have F1 := Lib.hid f1
  have F2 := Lib.hid f2
  clear f1 f2
  go_enter Tryd.func87, Tryd.ntmps87
  go_wp2
  · have h : a.tmod b < 0 := by assumption
    go_ret
    exact ⟨ret_int (F1.out h).symm, rfl⟩
  · have h : 0 ≤ a.tmod b := by assumption
    go_ret
    exact ⟨ret_int (F2.out h).symm, rfl⟩
theorem l02Round_any (a b : Int) (w : World) (h1 : 1 ≤ b) (h2 : b ≤ 1000000000000) (h3 : -1000000000000000000 ≤ a) (h4 : a ≤ 1000000000000000000) :
    Calls Tryd.prog 64 #[.int .i64 a, .int .i64 b] w fun e w' => e = .returned (.int .i64 (rnd a b)) ∧ w = w' := by
  go_enter Tryd.func64, Tryd.ntmps64
  go_wp2_with (go_at_call 87; refine (l02Floor_any _ _ _ (by omega) (by omega) (by omega) (by omega)).mono ?_; rintro e w' ⟨rfl, rfl⟩)
  go_ret
  exact ⟨rfl, rfl⟩
theorem nearest_any (a b : Int) (w : World) (h1 : 1 ≤ b) (h2 : b ≤ 1000000000000) (h3 : -1000000000000000000 ≤ a) (h4 : a ≤ 1000000000000000000) :
    Calls Tryd.prog 61 #[.agg #[.int .i64 a, .int .i64 b]] w fun e w' => e = .returned (.int .i64 (rnd a b)) ∧ Below w.heap.size w w' := by
  go_enter Tryd.func61, Tryd.ntmps61
  go_wp2_with (go_at_call 89; refine (floorDiv_any _ _ _ (by omega) (by omega) (by omega) (by omega)).mono ?_; rintro e w' ⟨rfl, rfl⟩)
  go_ret
  exact ⟨rfl, (Below.refl _ _).alloc (Nat.le_refl _) _⟩
theorem gcd_step (c d : Nat) : Nat.gcd d (c % d) = Nat.gcd c d := by
  rw [Nat.gcd_comm d (c % d), ← Nat.gcd_rec, Nat.gcd_comm]
theorem gcd_start (a b : Int) (h1 : 1 ≤ b) : Nat.gcd b.toNat a.natAbs = Int.gcd a b := by
  rw [Nat.gcd_comm]; unfold Int.gcd; congr 1; omega
theorem gcd_end (a b : Int) (c d : Nat) (h1 : 1 ≤ b) (hz : d = 0) (hg : Nat.gcd c d = Int.gcd a b) :
    1 ≤ (c : Int) ∧ a.tdiv c = lowN a b ∧ b.tdiv c = lowD a b := by
  subst hz
  rw [Nat.gcd_zero_right] at hg
  subst hg
  have hp : 0 < Int.gcd a b := Int.gcd_pos_of_ne_zero_right a (by omega)
  exact ⟨by omega, Int.tdiv_eq_ediv_of_dvd (Int.gcd_dvd_left ..), Int.tdiv_eq_ediv_of_dvd (Int.gcd_dvd_right ..)⟩
theorem lowest_any (a b : Int) (w : World) (h1 : 1 ≤ b) (h2 : b ≤ 1000000000000) (h3 : -1000000000000000000 ≤ a) (h4 : a ≤ 1000000000000000000) :
    Calls Tryd.prog 91 #[.agg #[.int .i64 a, .int .i64 b]] w fun e w' => e = .returned (.agg #[.int .i64 (lowN a b), .int .i64 (lowD a b)]) ∧ Below w.heap.size w w' := by
  by_cases hneg : a < 0
  all_goals
    go_enter Tryd.func91, Tryd.ntmps91
    go_wp2
    go_quiet (fail)
    go_wp2
    go_loopw [3, 4] (fun x y wr => ∃ c d n : Nat, c ≤ 1000000000000000000 ∧ d ≤ 1000000000000000000 ∧ Nat.gcd c d = Int.gcd a b ∧ x = .int .i64 c ∧ y = .int .i64 d ∧ wr = ((w.alloc (.cells #[.int .i64 a, .int .i64 b] 30)).alloc (.cells #[.int .i64 0, .int .i64 0] 30)).drewN n) (fun _ y _ => (intOf y).toNat)
    case atStart => exact ⟨b.toNat, a.natAbs, nq, by omega, by omega, gcd_start a b h1, by (congr 1; omega), by (congr 1; omega), rfl⟩
    case round =>
      obtain ⟨c, d, n, hc, hd, hg, rfl, rfl, rfl⟩ := hrel
      have HG := Lib.hid hg
      clear hg
      by_cases hz : d = 0
      · have hz' : ((d : Int) != 0) = false := by simp [hz]
        obtain ⟨hc1, ha, hb⟩ := gcd_end a b c d h1 hz HG.out
        have HA := Lib.hid ha
        have HB := Lib.hid hb
        obtain ⟨q1, q2⟩ := tdiv_bd a c 1000000000000000000 h3 h4
        obtain ⟨q3, q4⟩ := tdiv_bd b c 1000000000000000000 (by omega) (by omega)
        clear ha hb
        go_wp2
        go_region
        go_wp2
        exact bodyPost_ret (v := .agg #[.int .i64 (lowN a b), .int .i64 (lowD a b)]) (by simp [results, Tryd.results91, go_sem, HA.out, HB.out]) rfl ⟨rfl, by repeat (first | exact Below.refl _ _ | refine belowDN ?_ _ | refine Below.drew ?_ | refine Below.setCell ?_ (by simp) _ | refine Below.alloc ?_ (by simp) _)⟩
      · have hz' : ((d : Int) != 0) = true := by simp; omega
        have hm : 1 ≤ (d : Int) := by omega
        go_wp2
        go_region
        go_roundw
        have hlt := Nat.mod_lt c (show d > 0 by omega)
        have hrel : ∃ c' d' n' : Nat, c' ≤ 1000000000000000000 ∧ d' ≤ 1000000000000000000 ∧ Nat.gcd c' d' = Int.gcd a b ∧ Value.int .i64 d = .int .i64 c' ∧ Value.int .i64 ((c : Int) % d) = .int .i64 d' ∧ (((w.alloc (.cells #[.int .i64 a, .int .i64 b] 30)).alloc (.cells #[.int .i64 0, .int .i64 0] 30)).drewN n).drew = ((w.alloc (.cells #[.int .i64 a, .int .i64 b] 30)).alloc (.cells #[.int .i64 0, .int .i64 0] 30)).drewN n' :=
          ⟨d, c % d, n + 1, hd, by omega, by rw [gcd_step]; exact HG.out, rfl, rfl, rfl⟩
        case rel => first | exact hrel | ((repeat apply Exists.intro); exact ⟨hrel, rfl⟩)
        case measure =>
          have hlt1 : (c : Int) % d < d := Int.emod_lt_of_pos _ (by omega)
          have hlt2 : 0 ≤ (c : Int) % d := Int.emod_nonneg _ (by omega)
          simp [intOf]; omega
theorem l02Gcd_any (a b : Nat) (w : World) (h1 : a ≤ 1000000000000000000) (h2 : b ≤ 1000000000000000000) :
    Calls Tryd.prog 98 #[.int .i64 a, .int .i64 b] w fun e w' => e = .returned (.int .i64 (Nat.gcd a b : Nat)) ∧ w = w' := by
  go_enter Tryd.func98, Tryd.ntmps98
  go_wp2
  go_loop [0, 1] (fun x y => ∃ c d : Nat, c ≤ 1000000000000000000 ∧ d ≤ 1000000000000000000 ∧ Nat.gcd c d = Nat.gcd a b ∧ x = .int .i64 c ∧ y = .int .i64 d) (fun _ y => (intOf y).toNat)
  case atStart => exact ⟨a, b, h1, h2, rfl, rfl, rfl⟩
  case round =>
    obtain ⟨c, d, hc, hd, hg, rfl, rfl⟩ := hrel
    have HG := Lib.hid hg
    clear hg
    by_cases hz : d = 0
    · have hz' : ((d : Int) != 0) = false := by simp [hz]
      go_wp2
      go_ret
      exact ⟨ret_int (by have := HG.out; subst hz; simp at this; omega), rfl⟩
    · have hz' : ((d : Int) != 0) = true := by simp; omega
      have hm : 1 ≤ (d : Int) := by omega
      go_wp2
      go_round
      case rel => exact ⟨d, c % d, hd, by have := Nat.mod_lt c (show d > 0 by omega); omega, by rw [gcd_step]; exact HG.out, rfl, rfl⟩
      case measure =>
        have := Nat.mod_lt c (show d > 0 by omega)
        simp [intOf]; omega
theorem l02Size_any (a : Int) (w : World) (h3 : -1000000000000000000 ≤ a) (h4 : a ≤ 1000000000000000000) :
    Calls Tryd.prog 65 #[.int .i64 a] w fun e w' => e = .returned (.int .i64 (a.natAbs : Nat)) ∧ w = w' := by
  by_cases hneg : a < 0
  all_goals
    go_enter Tryd.func65, Tryd.ntmps65
    go_wp2
    go_ret
    exact ⟨ret_int (by omega), rfl⟩
theorem l02Make_any (a b : Int) (w : World) (h1 : 1 ≤ b) (h2 : b ≤ 1000000000000) (h3 : -1000000000000000000 ≤ a) (h4 : a ≤ 1000000000000000000) :
    Calls Tryd.prog 85 #[.int .i64 a, .int .i64 b] w fun e w' => e = .returned (.agg #[.int .i64 (lowN a b), .int .i64 (lowD a b)]) ∧ Below w.heap.size w w' := by
  obtain ⟨g, hg⟩ : ∃ g, g = Int.gcd a b := ⟨_, rfl⟩
  obtain ⟨b, rfl⟩ := Int.eq_ofNat_of_zero_le (show 0 ≤ b by omega)
  obtain ⟨hc1, ha, hb⟩ := gcd_end a b g 0 h1 rfl (by rw [Nat.gcd_zero_right]; exact hg)
  have HA := Lib.hid ha
  have HB : Hid ((b : Int) / (g : Int) = lowD a b) := by rw [hg]; exact rfl
  have HG : Hid (Nat.gcd a.natAbs b = g) := Lib.hid (by rw [hg]; rfl)
  obtain ⟨q1, q2⟩ := tdiv_bd a g 1000000000000000000 h3 h4
  obtain ⟨q3, q4⟩ := ediv_bd b g 1000000000000000000 (by omega) (by omega)
  clear ha hb hg
  go_enter Tryd.func85, Tryd.ntmps85
  go_wp2_with (first | (go_at_call 65; refine (l02Size_any _ _ (by omega) (by omega)).mono ?_; rintro e w' ⟨rfl, rfl⟩) | (go_at_call 98; refine (l02Gcd_any _ _ _ (by omega) (by omega)).mono ?_; rintro e w' ⟨rfl, rfl⟩; rw [HG.out]))
  go_region
  go_wp2
  exact bodyPost_ret (v := .agg #[.int .i64 (lowN a b), .int .i64 (lowD a b)]) (by simp [results, Tryd.results85, go_sem, HA.out, HB.out]) rfl ⟨rfl, by repeat (first | exact Below.refl _ _ | refine belowDN ?_ _ | refine Below.drew ?_ | refine Below.setCell ?_ (by simp) _ | refine Below.alloc ?_ (by simp) _)⟩
end Go.Proofs.YtbjflgohahmjgaaDoor
