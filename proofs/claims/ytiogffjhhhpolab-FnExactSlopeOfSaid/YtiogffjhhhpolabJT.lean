/- SlopeOf: sums of products of differences, the model's l08Line. -/
import Derived.Test.YtiogffjhhhpolabJS
import Derived.Test.YtiogffjhhhpolabB1W
import Derived.Test.YtiogffjhhhpolabGFr1
import Derived.Deep.AppendLies
namespace Go.Proofs.Ytiogffjhhhpolab
open Go.ChangeShapes Go.WideShapes Go.ChangeAt Go.RowKit Go.Deep

theorem inF_bd {t m : Nat → Int} {i k n : Nat} {T M : Int} (hi : i < n) (hk : k ≤ i) (hT : ∀ j, j < n → 0 ≤ t j ∧ t j ≤ T) (hM : ∀ i j, i < n → j < n → m i - m j ≤ M) : -(T * M * k) ≤ inF t m i k ∧ inF t m i k ≤ T * M * k :=
  sumF_bd fun j hj => absMul (by have := hT i hi; have := hT j (by omega); omega) (by have := hT i hi; have := hT j (by omega); omega) (by have := hM j i (by omega) hi; omega) (hM i j hi (by omega))
theorem outF_crude {t m : Nat → Int} {n k : Nat} {T M : Int} (hn : n ≤ 100) (hk : k ≤ n) (hT0 : 0 ≤ T * M) (hT : ∀ j, j < n → 0 ≤ t j ∧ t j ≤ T) (hM : ∀ i j, i < n → j < n → m i - m j ≤ M) : -(T * M * 100 * k) ≤ outF t m k ∧ outF t m k ≤ T * M * 100 * k :=
  sumF_bd fun i hi => by
    have h := inF_bd (t := t) (m := m) (i := i) (k := i) (n := n) (by omega) (Nat.le_refl _) hT hM
    have h2 : T * M * (i : Int) ≤ T * M * 100 := Int.mul_le_mul_of_nonneg_left (by omega) hT0
    omega
theorem inF_step (t m : Nat → Int) (i k : Nat) : inF t m i (k + 1) = inF t m i k + (t i - t k) * (m i - m k) := rfl
theorem outF_step (t m : Nat → Int) (i : Nat) : outF t m (i + 1) = outF t m i + inF t m i i := rfl
set_option maxRecDepth 100000 in
set_option maxHeartbeats 4000000 in
theorem l08Line_any (a b : Option Addr) (n c c' : Nat) (ts ms : List Int) (w : World) (h : Lst w a n ts) (h' : Lst w b n ms) (hn : n ≤ 100) (hT : ∀ k, k < n → 0 ≤ ts[k]?.getD 0 ∧ ts[k]?.getD 0 ≤ 10000000) (hM : ∀ k, k < n → -2000 ≤ ms[k]?.getD 0 ∧ ms[k]?.getD 0 ≤ 20000) :
    Calls Try.prog 65 #[.slice a n c, .slice b n c'] w fun e w' => e = .returned (.tuple #[.int .i64 (outF (fun k => ts[k]?.getD 0) (fun k => ms[k]?.getD 0) n), .int .i64 (outF (fun k => ts[k]?.getD 0) (fun k => ts[k]?.getD 0) n)]) ∧ Below w.heap.size w w' := by
  have hl : (n : Int) ≤ 100 := by omega
  obtain ⟨t, ht⟩ : ∃ t, (fun k : Nat => ts[k]?.getD 0) = t := ⟨_, rfl⟩
  obtain ⟨m, hm⟩ : ∃ m, (fun k : Nat => ms[k]?.getD 0) = m := ⟨_, rfl⟩
  rw [ht, hm]
  have hta : ∀ k, ts[k]?.getD 0 = t k := fun k => by rw [← ht]
  have hma : ∀ k, ms[k]?.getD 0 = m k := fun k => by rw [← hm]
  have HTB : Hid (∀ k, k < n → 0 ≤ t k ∧ t k ≤ 10000000) := Lib.hid fun k hk => by rw [← hta]; exact hT k hk
  have HMB : Hid (∀ i j, i < n → j < n → m i - m j ≤ 22000) := Lib.hid fun i j hi hj => by rw [← hma, ← hma]; have := hM i hi; have := hM j hj; omega
  have HTT : Hid (∀ i j, i < n → j < n → t i - t j ≤ 10000000) := Lib.hid fun i j hi hj => by have := HTB.out i hi; have := HTB.out j hj; omega
  have HTA := Lib.hid hta
  have HMA := Lib.hid hma
  clear ht hm hT hM hta hma
  go_enter Try.func65, Try.ntmps65
  go_wp2
  go_loopw [6, 7, 8] (fun nu de i wr => ∃ k : Nat, k ≤ n ∧ i = .int .i64 k ∧ nu = .int .i64 (outF t m k) ∧ de = .int .i64 (outF t t k) ∧ Below w.heap.size w wr) (fun _ _ i _ => n - (Go.RowKit.intOf i).toNat)
  case atStart => exact ⟨0, Nat.zero_le _, rfl, rfl, rfl, Below.refl _ _⟩
  case round =>
    obtain ⟨i, hi, rfl, rfl, rfl, hB⟩ := hrel
    by_cases hlt : i < n
    · have hii : (i : Int) < (n : Int) := by omega
      have hN := outF_crude (k := i) hn hi (by decide) HTB.out HMB.out
      have hD := outF_crude (k := i) hn hi (by decide) HTB.out HTT.out
      have HE1 := Lib.hid (outF_step t m i)
      have HE2 := Lib.hid (outF_step t t i)
      obtain ⟨ba, oa, rfl, hla, hca⟩ := h.2 i hlt
      obtain ⟨bb, ob, rfl, hlb, hcb⟩ := h'.2 i hlt
      rw [HTA.out] at hca
      rw [HMA.out] at hcb
      have hti := HTB.out i hlt
      generalize outF t m i = N at hN HE1 ⊢
      generalize outF t t i = D at hD HE2 ⊢
      obtain ⟨v, rfl⟩ : ∃ v, v = wr := ⟨wr, rfl⟩
      have hbv : Below w.heap.size w v := hB
      clear hB
      go_wp2
      go_loopw [6, 7, 9] (fun nu de k wi => ∃ j : Nat, j ≤ i ∧ k = .int .i64 j ∧ nu = .int .i64 (N + inF t m i j) ∧ de = .int .i64 (D + inF t t i j) ∧ Below w.heap.size w wi) (fun _ _ k _ => i - (Go.RowKit.intOf k).toNat)
      case atStart => exact ⟨0, Nat.zero_le _, rfl, by simp [inF, sumF], by simp [inF, sumF], hbv⟩
      case round =>
        obtain ⟨j, hj, rfl, rfl, rfl, hB⟩ := hrel
        have hNj := inF_bd (i := i) (k := j) (n := n) hlt hj HTB.out HMB.out
        have hDj := inF_bd (i := i) (k := j) (n := n) hlt hj HTB.out HTT.out
        by_cases hji : j < i
        · have hjj : (j : Int) < (i : Int) := by omega
          have hjn : (j : Int) < (n : Int) := by omega
          obtain ⟨ba', oa', he, -, hcaj⟩ := h.2 j (by omega)
          cases he
          obtain ⟨bb', ob', he, -, hcbj⟩ := h'.2 j (by omega)
          cases he
          rw [HTA.out] at hcaj
          rw [HMA.out] at hcbj
          have htj := HTB.out j (by omega)
          have hm1 := HMB.out i j hlt (by omega)
          have hm2 := HMB.out j i (by omega) hlt
          have q1 : wr.cell? ⟨ba, oa + i, none⟩ = some (.int .i64 (t i)) := by rw [hB.cell (p := ⟨ba, oa + i, none⟩) hla]; exact hca
          have q2 : wr.cell? ⟨ba, oa + j, none⟩ = some (.int .i64 (t j)) := by rw [hB.cell (p := ⟨ba, oa + j, none⟩) hla]; exact hcaj
          have q3 : wr.cell? ⟨bb, ob + i, none⟩ = some (.int .i64 (m i)) := by rw [hB.cell (p := ⟨bb, ob + i, none⟩) hlb]; exact hcb
          have q4 : wr.cell? ⟨bb, ob + j, none⟩ = some (.int .i64 (m j)) := by rw [hB.cell (p := ⟨bb, ob + j, none⟩) hlb]; exact hcbj
          have HS1 := Lib.hid (inF_step t m i j)
          have HS2 := Lib.hid (inF_step t t i j)
          have hp1 := absMul (a := t i - t j) (b := m i - m j) (A := 10000000) (B := 22000) (by omega) (by omega) (by omega) (by omega)
          have hp2 := absMul (a := t i - t j) (b := t i - t j) (A := 10000000) (B := 10000000) (by omega) (by omega) (by omega) (by omega)
          have hmb1 : -22000 ≤ m i - m j := by omega
          clear hca hcb hcaj hcbj hbv
          generalize inF t m i j = X at hNj HS1 ⊢
          generalize inF t t i j = Y at hDj HS2 ⊢
          generalize t i = ti at hti hp1 hp2 q1 HS1 HS2
          generalize t j = tj at htj hp1 hp2 q2 HS1 HS2
          generalize m i = mi at hm1 hm2 hp1 q3 HS1 hmb1
          generalize m j = mj at hm1 hm2 hp1 q4 HS1 hmb1
          have w1 : IntKind.i64.wrap (ti - tj) = ti - tj := IntWalk.i64_in _ (by omega)
          have w2 : IntKind.i64.wrap (mi - mj) = mi - mj := IntWalk.i64_in _ (by omega)
          have w3 : IntKind.i64.wrap ((ti - tj) * (mi - mj)) = (ti - tj) * (mi - mj) := IntWalk.i64_in _ (by omega)
          have w4 : IntKind.i64.wrap (N + X + (ti - tj) * (mi - mj)) = N + X + (ti - tj) * (mi - mj) := IntWalk.i64_in _ (by omega)
          have w5 : IntKind.i64.wrap ((ti - tj) * (ti - tj)) = (ti - tj) * (ti - tj) := IntWalk.i64_in _ (by omega)
          have w6 : IntKind.i64.wrap (D + Y + (ti - tj) * (ti - tj)) = D + Y + (ti - tj) * (ti - tj) := IntWalk.i64_in _ (by omega)
          have hkn : (i : Int) < (n : Int) := by omega
          go_wp2
          go_big_quiet (fail)
          go_wp2
          go_big_quiet (fail)
          go_wp2
          go_roundw
          case rel => exact ⟨j + 1, by omega, by go_num, by rw [HS1.out, ← Int.add_assoc], by rw [HS2.out, ← Int.add_assoc], by (repeat (first | assumption | exact Below.refl _ _ | refine belowDN ?_ _ | refine Below.drew ?_ | refine Below.setCell ?_ (by first | omega | (simp <;> omega)) _ | refine Below.alloc ?_ (by first | omega | (simp <;> omega)) _ | refine belowCall ?_ (by assumption)))⟩
          case measure => simp [Go.RowKit.intOf]; omega
        · obtain rfl : j = i := by omega
          go_wp2
          go_roundw
          case rel => exact ⟨j + 1, by omega, by go_num, by rw [HE1.out], by rw [HE2.out], hB⟩
          case measure => simp [Go.RowKit.intOf]; omega
    · obtain rfl : i = n := by omega
      go_wp2
      go_ret2
      exact ⟨rfl, hB⟩
end Go.Proofs.Ytiogffjhhhpolab
