/- FnPairs: for every input the law returns true: the enclosing comparison stars that the program tells are the nearest ones on both sides. The arguments read behind the call as before. -/
import Derived.Test.YtejapiebpbnopaaB9
import Derived.ChangeOld
import Derived.Lib.SmallJoins
namespace Go.Proofs.Ytejapiebpbnopaa.fnPairs
open Go.ChangeShapes Go.WideShapes Go.ChangeAt Go.RowKit
open Go.ChangeMaps (open_string shut_string)
set_option linter.unusedVariables false

theorem own : ownKnob Try.prog.godebug = none := by kernel_rfl
theorem laidOut : laidOutB Try.prog = true := by kernel_rfl
def lowTo (xs : List Int) (m : Int) : Nat → Bool
  | 0 => false
  | k + 1 => lowTo xs m k || decide (xs[k]?.getD 0 ≤ m)
def hiTo (xs : List Int) (m : Int) : Nat → Bool
  | 0 => false
  | k + 1 => hiTo xs m k || decide (m < xs[k]?.getD 0)
theorem br_all (xs : List Int) (m : Int) : ∀ k, (brTo xs m k = -1 ∧ lowTo xs m k = false) ∨ ∃ j : Nat, j < k ∧ brTo xs m k = j ∧ lowTo xs m k = true ∧ xs[j]?.getD 0 ≤ m ∧ ∀ i, i < k → xs[i]?.getD 0 ≤ m → xs[i]?.getD 0 ≤ xs[j]?.getD 0
  | 0 => .inl ⟨rfl, rfl⟩
  | k + 1 => by
    rcases br_all xs m k with ⟨h1, h2⟩ | ⟨j, hj, h1, h2, h3, h4⟩
    · by_cases hx : xs[k]?.getD 0 ≤ m
      · refine .inr ⟨k, by omega, by rw [brTo, if_pos ⟨hx, .inl (by omega)⟩], by simp [lowTo, hx], hx, fun i hi hm => ?_⟩
        by_cases e : i = k
        · subst e; omega
        · exfalso
          have hl : ∀ n, lowTo xs m n = false → ∀ i, i < n → ¬ xs[i]?.getD 0 ≤ m := by
            intro n
            induction n with
            | zero => intro _ i hi; omega
            | succ n ih =>
              intro hn i hi
              simp only [lowTo, Bool.or_eq_false_iff, decide_eq_false_iff_not] at hn
              by_cases e : i = n
              · subst e; exact hn.2
              · exact ih hn.1 i (by omega)
          exact hl k h2 i (by omega) hm
      · exact .inl ⟨by rw [brTo, if_neg (fun h => hx h.1)]; exact h1, by simp [lowTo, h2]; omega⟩
    · by_cases hx : xs[k]?.getD 0 ≤ m ∧ xs[j]?.getD 0 < xs[k]?.getD 0
      · refine .inr ⟨k, by omega, by rw [brTo, if_pos ⟨hx.1, .inr (by rw [h1, atI_nat]; exact hx.2)⟩], by simp [lowTo, h2], hx.1, fun i hi hm => ?_⟩
        by_cases e : i = k
        · subst e; omega
        · have := h4 i (by omega) hm; omega
      · refine .inr ⟨j, by omega, by rw [brTo, if_neg (fun h => hx ⟨h.1, by rcases h.2 with h | h; (· rw [h1] at h; omega); (· rw [h1, atI_nat] at h; exact h)⟩)]; exact h1, by simp [lowTo, h2], h3, fun i hi hm => ?_⟩
        by_cases e : i = k
        · subst e; omega
        · exact h4 i (by omega) hm
theorem fa_all (xs : List Int) (m : Int) : ∀ k, (faTo xs m k = -1 ∧ hiTo xs m k = false) ∨ ∃ j : Nat, j < k ∧ faTo xs m k = j ∧ hiTo xs m k = true ∧ m < xs[j]?.getD 0 ∧ ∀ i, i < k → m < xs[i]?.getD 0 → xs[j]?.getD 0 ≤ xs[i]?.getD 0
  | 0 => .inl ⟨rfl, rfl⟩
  | k + 1 => by
    rcases fa_all xs m k with ⟨h1, h2⟩ | ⟨j, hj, h1, h2, h3, h4⟩
    · by_cases hx : m < xs[k]?.getD 0
      · refine .inr ⟨k, by omega, by rw [faTo, if_pos ⟨hx, .inl (by omega)⟩], by simp [hiTo, hx], hx, fun i hi hm => ?_⟩
        by_cases e : i = k
        · subst e; omega
        · exfalso
          have hl : ∀ n, hiTo xs m n = false → ∀ i, i < n → ¬ m < xs[i]?.getD 0 := by
            intro n
            induction n with
            | zero => intro _ i hi; omega
            | succ n ih =>
              intro hn i hi
              simp only [hiTo, Bool.or_eq_false_iff, decide_eq_false_iff_not] at hn
              by_cases e : i = n
              · subst e; exact hn.2
              · exact ih hn.1 i (by omega)
          exact hl k h2 i (by omega) hm
      · exact .inl ⟨by rw [faTo, if_neg (fun h => hx h.1)]; exact h1, by simp [hiTo, h2]; omega⟩
    · by_cases hx : m < xs[k]?.getD 0 ∧ xs[k]?.getD 0 < xs[j]?.getD 0
      · refine .inr ⟨k, by omega, by rw [faTo, if_pos ⟨hx.1, .inr (by rw [h1, atI_nat]; exact hx.2)⟩], by simp [hiTo, h2], hx.1, fun i hi hm => ?_⟩
        by_cases e : i = k
        · subst e; omega
        · have := h4 i (by omega) hm; omega
      · refine .inr ⟨j, by omega, by rw [faTo, if_neg (fun h => hx ⟨h.1, by rcases h.2 with h | h; (· rw [h1] at h; omega); (· rw [h1, atI_nat] at h; exact h)⟩)]; exact h1, by simp [hiTo, h2], h3, fun i hi hm => ?_⟩
        by_cases e : i = k
        · subst e; omega
        · exact h4 i (by omega) hm
set_option maxHeartbeats 4000000 in

theorem walk (a0 : Option Addr) (len0 cap0 : Nat) (z0 : List Int) (a1 : Option Addr) (len1 cap1 : Nat) (z1 : List Int) (w : World) (w0 : IsRow .u8 w a0 len0 cap0 z0) (w1 : IsRow .u8 w a1 len1 cap1 z1) :
    Calls Try.prog 4 #[.slice a0 len0 cap0, .slice a1 len1 cap1] w fun e w' => e = .returned (.bool true) ∧ Below w.heap.size w w' := by
  have hb0 := LstB.of_row w0
  have hb1 := LstB.of_row w1
  clear w0 w1
  cases hlong : (decide (3000 < (len0 : Int)) || decide (3000 < (len1 : Int)))
  case true =>
    have HL := Lib.hid hlong
    clear hlong
    go_enter Try.func4, Try.ntmps4
    go_wp2_with fail
    refine (a2Long_any _ _ _ _ _ _ _).mono ?_
    rintro e w' ⟨rfl, rfl⟩
    rw [HL.out]
    go_wp2
    go_ret
    exact ⟨rfl, Below.refl _ _⟩
  have HL := Lib.hid hlong
  have hl0 : len0 ≤ 3000 := by simp at hlong; omega
  have hl1 : len1 ≤ 3000 := by simp at hlong; omega
  clear hlong
  go_enter Try.func4, Try.ntmps4
  go_wp2_with fail
  refine (a2Long_any _ _ _ _ _ _ _).mono ?_
  rintro e w' ⟨rfl, rfl⟩
  rw [HL.out]
  go_wp2_with fail
  refine (A2Mags_any a0 len0 cap0 w hb0 (by omega)).mono ?_
  rintro e w1 ⟨a, len, cap, xs, rfl, hx, hok, hx1, hx8, hB⟩
  have HOK := Lib.hid hok
  have hb1' := hb1.below hB
  clear hb0 hb1 hok
  go_wp2_with fail
  refine (a2At_any w.heap.size a1 len1 cap1 0 256 w1 hb1' (by omega) (by omega) (by omega)).mono ?_
  rintro e w2 ⟨v, rfl, v0, v1, rfl⟩
  go_wp2_with fail
  have hm0 : 8000 ≤ 8000 + 12 * v := by omega
  have hm1 : 8000 + 12 * v ≤ 20000 := by omega
  refine (iPair_any _ _ _ xs (8000 + 12 * v) w1 hx (by omega)).mono ?_
  rintro e w3 ⟨rfl, hB3⟩
  generalize 8000 + 12 * v = m at hm0 hm1
  have hx3 := hx.mono hB3
  have hBB := hB.trans (hB3.mono hB.size)
  have hlen := hx.1
  have hmm : magB m = true := magB_iff.2 (by omega)
  have hpv : pairV xs m = if brTo xs m len < 0 ∨ faTo xs m len < 0 then three 0 0 3 else three (brTo xs m len) (faTo xs m len) 0 := by rw [pairV, HOK.out, hmm, hlen]; rfl
  have HP := Lib.hid hpv
  have hbr := br_all xs m len
  have hfa := fa_all xs m len
  clear hlen hmm hpv hb1' hB hB3 hx
  rcases hbr with ⟨e1, e2⟩ | ⟨j, hj, e1, e2, hj1, hj2⟩
  · have HV : Hid (pairV xs m = .tuple #[.int .i64 0, .int .i64 0, .int .i64 3]) := by rw [HP.out, if_pos (.inl (by omega))]; exact rfl
    have E2 := Lib.hid e2
    clear e1 e2 hfa
    rw [HV.out]
    go_wp2
    go_loop [10, 11, 12] (fun l h i => ∃ k : Nat, k ≤ len ∧ l = .bool (lowTo xs m k) ∧ h = .bool (hiTo xs m k) ∧ i = .int .i64 k) (fun _ _ i => len - (intOf i).toNat)
    case atStart => exact ⟨0, by omega, rfl, rfl, rfl⟩
    case round =>
      obtain ⟨k, hk, rfl, rfl, rfl⟩ := hrel
      by_cases hlt : k < len
      · obtain ⟨b, off, rfl, hb, hcell⟩ := hx3.2 k hlt
        cases hl : lowTo xs m k
        all_goals
          cases hh : hiTo xs m k
          all_goals
            go_wp2
            go_round
            case rel => exact ⟨k + 1, by omega, by simp [lowTo, hl], by simp [hiTo, hh], by go_num⟩
            case measure => simp [intOf]; omega
      · obtain rfl : k = len := by omega
        rw [E2.out]
        go_wp2
        go_ret
        exact ⟨rfl, hBB⟩
  rcases hfa with ⟨f1, f2⟩ | ⟨j', hj', f1, f2, hj1', hj2'⟩
  · have HV : Hid (pairV xs m = .tuple #[.int .i64 0, .int .i64 0, .int .i64 3]) := by rw [HP.out, if_pos (.inr (by omega))]; exact rfl
    have E2 := Lib.hid e2
    have F2 := Lib.hid f2
    have HJ := Lib.hid hj2
    clear e1 e2 f1 f2 hj2
    rw [HV.out]
    go_wp2
    go_loop [10, 11, 12] (fun l h i => ∃ k : Nat, k ≤ len ∧ l = .bool (lowTo xs m k) ∧ h = .bool (hiTo xs m k) ∧ i = .int .i64 k) (fun _ _ i => len - (intOf i).toNat)
    case atStart => exact ⟨0, by omega, rfl, rfl, rfl⟩
    case round =>
      obtain ⟨k, hk, rfl, rfl, rfl⟩ := hrel
      by_cases hlt : k < len
      · obtain ⟨b, off, rfl, hb, hcell⟩ := hx3.2 k hlt
        cases hl : lowTo xs m k
        all_goals
          cases hh : hiTo xs m k
          all_goals
            go_wp2
            go_round
            case rel => exact ⟨k + 1, by omega, by simp [lowTo, hl], by simp [hiTo, hh], by go_num⟩
            case measure => simp [intOf]; omega
      · obtain rfl : k = len := by omega
        rw [E2.out, F2.out]
        go_wp2
        go_ret
        exact ⟨rfl, hBB⟩
  have HV : Hid (pairV xs m = .tuple #[.int .i64 j, .int .i64 j', .int .i64 0]) := by rw [HP.out, if_neg (by omega), e1, f1]; exact rfl
  have E2 := Lib.hid e2
  have F2 := Lib.hid f2
  have HJ := Lib.hid hj2
  have HJ' := Lib.hid hj2'
  clear e1 e2 f1 f2 hj2 hj2'
  rw [HV.out]
  go_wp2
  go_loop [10, 11, 12] (fun l h i => ∃ k : Nat, k ≤ len ∧ l = .bool (lowTo xs m k) ∧ h = .bool (hiTo xs m k) ∧ i = .int .i64 k) (fun _ _ i => len - (intOf i).toNat)
  case atStart => exact ⟨0, by omega, rfl, rfl, rfl⟩
  case round =>
    obtain ⟨k, hk, rfl, rfl, rfl⟩ := hrel
    by_cases hlt : k < len
    · obtain ⟨b, off, rfl, hb, hcell⟩ := hx3.2 k hlt
      cases hl : lowTo xs m k
      all_goals
        cases hh : hiTo xs m k
        all_goals
          go_wp2
          go_round
          case rel => exact ⟨k + 1, by omega, by simp [lowTo, hl], by simp [hiTo, hh], by go_num⟩
          case measure => simp [intOf]; omega
    · obtain rfl : k = len := by omega
      obtain ⟨b, off, rfl, hb, hcj⟩ := hx3.2 j hj
      obtain ⟨b2, o2, he2, hb2, hcj'⟩ := hx3.2 j' hj'
      simp only [Option.some.injEq, Addr.mk.injEq, and_true] at he2
      obtain ⟨rfl, rfl⟩ := he2
      have d1 : decide ((k : Int) ≤ (j : Int)) = false := by simp; omega
      have d2 : decide ((k : Int) ≤ (j' : Int)) = false := by simp; omega
      have d3 : decide (m < xs[j]?.getD 0) = false := by simp; omega
      have d4 : decide (xs[j']?.getD 0 ≤ m) = false := by simp; omega
      go_wp2
      clear d1 d2 d3 d4
      go_loopw [13] (fun i wr => ∃ (q n : Nat), q ≤ k ∧ i = .int .i64 q ∧ wr = w3.drewN n) (fun i _ => k - (intOf i).toNat)
      case atStart => exact ⟨0, 0, by omega, rfl, rfl⟩
      case round =>
        obtain ⟨q, n, hq, rfl, rfl⟩ := hrel
        by_cases hqk : q < k
        · obtain ⟨b3, o3, he3, hb3, hcq⟩ := hx3.2 q hqk
          simp only [Option.some.injEq, Addr.mk.injEq, and_true] at he3
          obtain ⟨rfl, rfl⟩ := he3
          by_cases hqm : xs[q]?.getD 0 ≤ m
          · have g1 : decide (xs[j]?.getD 0 < xs[q]?.getD 0) = false := by have := HJ.out q hqk hqm; simp; omega
            clear hqm
            go_wp2
            go_quiet (fail)
            go_wp2
            go_roundw
            case rel => exact ⟨q + 1, _, by omega, by go_num, rfl⟩
            case measure => simp [intOf]; omega
          · have g1 : decide (xs[j]?.getD 0 < xs[q]?.getD 0) = true := by simp; omega
            have g2 : decide (xs[q]?.getD 0 < xs[j']?.getD 0) = false := by have := HJ'.out q hqk (by omega); simp; omega
            clear hqm
            go_wp2
            go_quiet (fail)
            go_wp2
            go_roundw
            case rel => exact ⟨q + 1, _, by omega, by go_num, rfl⟩
            case measure => simp [intOf]; omega
        · obtain rfl : q = k := by omega
          go_wp2
          go_ret
          exact ⟨rfl, belowDN hBB n⟩

set_option maxRecDepth 100000 in
theorem lifted (os : Os) (started : os.Started) (H : Type) (enc : TypeId × Value → H) :
    ReturnsInHanded {} Try.checked os 4 .any (Rows.fnPairsSpec.pre6 enc Try.prog Try.f4 Rows.fnPairsRow.domain false) (Rows.fnPairsSpec.post enc Try.prog Try.f4 false true false false) := by
  refine returnsInHanded_of_change (C := Try.checked) own started (by kernel_rfl) Try.func4
    (ChangeSpec.witness6 (enc := enc) (C := Try.checked) false ⟨#[], #[.slice none 0 0, .slice none 0 0], []⟩ 8 (by kernel_rfl) (by kernel_rfl) (by kernel_rfl) (by kernel_rfl)) ?_
  intro W base args ds gs before hval0 hW hcnd _
  have hval : ∀ (j : Nat) t v, Try.f4.params[j]? = some t → args[j]? = some v → Value.okWide Try.prog W .any base t v := hval0
  have hW' := hW
  obtain ⟨p, q, hA0, hV, rfl, hfz, hnd⟩ := hW
  have hA : DataW.TrodAll enc Try.prog W 0 (fun _ => true) true Try.f4.params.toList args.toList ds p := hA0
  rw [Try.params4] at hA hval
  obtain ⟨v0, vs0, d0, ds0, p0, q0, hargs, rfl, rfl, h0, r0⟩ := trodAll_cons hA
  obtain ⟨v1, vs1, d1, ds1, p1, q1, rfl, rfl, rfl, h1, r1⟩ := trodAll_cons r0
  obtain ⟨rfl, rfl, rfl⟩ := trodAll_nil r1
  obtain rfl : args = #[v0, v1] := by cases args; simp_all
  obtain ⟨rfl, rfl⟩ := trodVars_none hV
  have k0 := h0
  have lt0 : ∀ x ∈ p0, x.block < W.heap.size := by obtain ⟨m, hm⟩ := k0; exact DataW.trod_lt m _ _ _ hm
  obtain ⟨a0, len0, cap0, rfl⟩ := okWide_slice Try.underlying22 (hval 0 22 v0 rfl rfl)
  obtain ⟨z0, w0⟩ : ∃ zs, IsRow .u8 W a0 len0 cap0 zs := by
    obtain ⟨fuel, hf⟩ := h0
    rcases open_ints Try.underlying22 Try.underlying5 (by kernel_rfl) hf with ⟨hcs, _⟩ | ⟨x, l, c, zs, hcs, _, hl, hm, hz, _, hcell, hwz⟩
    · simp [Value.cells] at hcs
      obtain ⟨rfl, rfl, rfl⟩ := hcs
      exact ⟨[], .inl ⟨rfl, rfl, rfl, rfl⟩⟩
    · simp [Value.cells] at hcs
      obtain ⟨rfl, rfl, rfl⟩ := hcs
      exact ⟨zs, .inr ⟨_, rfl, hl, hm, by simpa using hz, hcell, hwz⟩⟩
  have k1 := h1
  have lt1 : ∀ x ∈ p1, x.block < W.heap.size := by obtain ⟨m, hm⟩ := k1; exact DataW.trod_lt m _ _ _ hm
  obtain ⟨a1, len1, cap1, rfl⟩ := okWide_slice Try.underlying22 (hval 1 22 v1 rfl rfl)
  obtain ⟨z1, w1⟩ : ∃ zs, IsRow .u8 W a1 len1 cap1 zs := by
    obtain ⟨fuel, hf⟩ := h1
    rcases open_ints Try.underlying22 Try.underlying5 (by kernel_rfl) hf with ⟨hcs, _⟩ | ⟨x, l, c, zs, hcs, _, hl, hm, hz, _, hcell, hwz⟩
    · simp [Value.cells] at hcs
      obtain ⟨rfl, rfl, rfl⟩ := hcs
      exact ⟨[], .inl ⟨rfl, rfl, rfl, rfl⟩⟩
    · simp [Value.cells] at hcs
      obtain ⟨rfl, rfl, rfl⟩ := hcs
      exact ⟨zs, .inr ⟨_, rfl, hl, hm, by simpa using hz, hcell, hwz⟩⟩
  clear hA0 hval0
  refine (walk a0 len0 cap0 z0 a1 len1 cap1 z1 W w0 w1).mono fun e W' ⟨he, bel⟩ => ?_
  subst he
  exact ⟨_, rfl, _, _, _, [], _, [], hW', trodAll_mk1 (shut_bool Try.underlying4 _), (trodAll_cons_mk (Below.trod laidOut (by kernel_rfl) (of_decide_eq_true (by kernel_rfl)) k0 bel lt0) (trodAll_cons_mk (Below.trod laidOut (by kernel_rfl) (of_decide_eq_true (by kernel_rfl)) k1 bel lt1) trodAll_mk0)), rfl, bel.frame _, fun h => by cases h⟩

theorem over : Rows.fnPairsRow.holds Try.pinned (OpenSpec.ofChange Rows.fnPairsSpec) :=
  OpenClaim.holds_of_wide 4 Try.f4 rfl rfl rfl rfl rfl rfl rfl ⟨rfl, rfl, rfl, rfl, rfl⟩ rfl rfl rfl rfl rfl (by kernel_rfl) Try.func4 (by kernel_rfl)
    (of_decide_eq_true (by kernel_rfl)) (by unfold Func.isWrapper; first | (rw [if_pos (by decide +kernel)]; kernel_rfl) | (rw [if_neg (by decide +kernel)]; exact ⟨rfl, rfl⟩))
    (fun os started H enc _ => lifted os started H enc)

theorem proved : Rows.FnPairsSaid := over
#print axioms proved
end Go.Proofs.Ytejapiebpbnopaa.fnPairs
