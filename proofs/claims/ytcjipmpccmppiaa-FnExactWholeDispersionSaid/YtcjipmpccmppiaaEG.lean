/- DispersionOf, WholeDispersion, ThetaOf, both sides; the model's pairs in bins. -/
import Derived.Test.YtcjipmpccmppiaaEF
namespace Go.Proofs.Ytcjipmpccmppiaa
open Go.ChangeShapes Go.WideShapes Go.ChangeAt Go.RowKit Go.Deep

set_option maxRecDepth 100000 in
set_option maxHeartbeats 4000000 in
theorem ins_any (p b : Int) (a : Option Addr) (n c : Nat) (xs : List Pt) (w : World) (h : PtL w a n xs) (hok : okP xs = true) (p1 : 1 ≤ p) (p2 : p ≤ 1000000) (q1 : 1 ≤ b) (q2 : b ≤ 20) :
    Calls Try.prog 73 #[.slice a n c, .int .i64 p, .int .i64 b] w fun x w' => x = .returned (.tuple #[.int .i64 (dpQ p b xs n), .int .i64 (dpN p b xs n)]) ∧ Below w.heap.size w w' := by
  obtain ⟨h100, hbd, -⟩ := okP_num h.1 hok
  have HMB := Lib.hid (mgX_bd hbd)
  have HBI := Lib.hid (l11Bins_any p b a n c xs w h hok p1 p2 q1 q2)
  have HEA : Hid (∀ j, j < n → (boE p b xs n)[j]?.getD 0 = (bf p b xs j : Int)) := Lib.hid (fun j hj => boE_at hj)
  have HMX : Hid (∀ j x, xs[j]?.getD pt0 = x → mgX xs j = x.2) := Lib.hid (fun j x hx => by rw [mgX, hx])
  have HQ : Hid (outQ (bf p b xs) (mgX xs) n = dpQ p b xs n) := Lib.hid rfl
  have HN : Hid (outN (bf p b xs) n = dpN p b xs n) := Lib.hid rfl
  have hl : (n : Int) ≤ 100 := by omega
  generalize bf p b xs = B at *
  generalize boE p b xs n = E at *
  generalize mgX xs = m at *
  generalize dpQ p b xs n = DQ at *
  generalize dpN p b xs n = DN at *
  clear hbd hok
  go_enter Try.func73, Try.ntmps73
  go_wp2_with fail
  refine HBI.out.mono ?_
  rintro x w3 ⟨g3, c3, rfl, hown3, b3⟩
  have hL3 := Lst.of_own hown3
  have h3 := h.mono b3
  clear hown3
  go_wp2
  go_loopw [9, 10, 11] (fun s q i wr => ∃ k : Nat, k ≤ n ∧ i = .int .i64 k ∧ s = .int .i64 (outQ B m k) ∧ q = .int .i64 (outN B k) ∧ Below w3.heap.size w3 wr) (fun _ _ i _ => n - (Go.RowKit.intOf i).toNat)
  case atStart => exact ⟨0, Nat.zero_le _, rfl, rfl, rfl, Below.refl _ _⟩
  case round =>
    obtain ⟨i, hi, rfl, rfl, rfl, hB⟩ := hrel
    by_cases hlt : i < n
    · have hii : (i : Int) < (n : Int) := by omega
      have hN := outQ_bd (B := B) h100 HMB.out i hi
      have hM := outN_bd (B := B) i (by omega)
      have HE1 : Hid (outQ B m (i + 1) = outQ B m i + inQ B m i i) := Lib.hid rfl
      have HE2 : Hid (outN B (i + 1) = outN B i + bCN B (B i) i) := Lib.hid rfl
      obtain ⟨b1, o1, rfl, hS⟩ := h3.2 i hlt
      obtain ⟨b1', o1', he, hg1, hci⟩ := hL3.2 i hlt
      cases he
      rw [HEA.out i hlt] at hci
      obtain ⟨⟨x0, x1⟩, hx⟩ : ∃ x, xs[i]?.getD pt0 = x := ⟨_, rfl⟩
      have hmi := HMX.out i _ hx
      have hti := HMB.out i hlt
      rw [hx] at hS
      simp only at hmi
      rw [hmi] at hti
      have HMI := Lib.hid hmi
      clear hx hmi
      generalize outQ B m i = N at hN HE1 ⊢
      generalize outN B i = M at hM HE2 ⊢
      obtain ⟨v, rfl⟩ : ∃ v, v = wr := ⟨wr, rfl⟩
      have hbv : Below w3.heap.size w3 v := hB
      clear hB
      go_wp2
      go_loopw [9, 10, 12] (fun s q k wi => ∃ j : Nat, j ≤ i ∧ k = .int .i64 j ∧ s = .int .i64 (N + inQ B m i j) ∧ q = .int .i64 (M + bCN B (B i) j) ∧ Below w3.heap.size w3 wi) (fun _ _ k _ => i - (Go.RowKit.intOf k).toNat)
      case atStart => exact ⟨0, Nat.zero_le _, rfl, by simp [inQ, sumF], by simp [bCN, sumF], hbv⟩
      case round =>
        obtain ⟨j, hj, rfl, rfl, rfl, hB⟩ := hrel
        have hNj := inQ_bd (B := B) hlt HMB.out j (by omega)
        have hMj := bCN_bd B (B i) j
        by_cases hji : j < i
        · have hjj : (j : Int) < (i : Int) := by omega
          have hjn : (j : Int) < (n : Int) := by omega
          obtain ⟨b1', o1', he, hS'⟩ := h3.2 j (by omega)
          cases he
          obtain ⟨b1', o1', he, hg1', hcj⟩ := hL3.2 j (by omega)
          cases he
          rw [HEA.out j (by omega)] at hcj
          obtain ⟨⟨y0, y1⟩, hy⟩ : ∃ x, xs[j]?.getD pt0 = x := ⟨_, rfl⟩
          have hmj := HMX.out j _ hy
          have htj := HMB.out j (by omega)
          rw [hy] at hS'
          simp only at hmj
          rw [hmj] at htj
          obtain ⟨-, p0, p1'⟩ := (hS.mono hB).parts
          obtain ⟨-, r0, r1⟩ := (hS'.mono hB).parts
          have u1 := (hB.cell (p := ⟨g3, 0 + i, none⟩) hg1).trans hci
          have u2 := (hB.cell (p := ⟨g3, 0 + j, none⟩) hg1').trans hcj
          rw [Nat.zero_add] at u1 u2
          have HS1 := Lib.hid (inQ_yes (B := B) (m := m) (i := i) (k := j))
          have HS2 := Lib.hid (inQ_no (B := B) (m := m) (i := i) (k := j))
          have HS3 := Lib.hid (bCN_yes (B := B) (b := B i) (k := j))
          have HS4 := Lib.hid (bCN_no (B := B) (b := B i) (k := j))
          rw [HMI.out, hmj] at HS1
          have hp1 := aMul (a := x1 - y1) (b := x1 - y1) (A := 22000) (B := 22000) (by omega) (by omega) (by omega) (by omega)
          clear hy hmj hS' hcj hbv
          obtain ⟨bi, hbi⟩ : ∃ q, B i = q := ⟨_, rfl⟩
          obtain ⟨bj, hbj⟩ : ∃ q, B j = q := ⟨_, rfl⟩
          rw [hbi] at u1 HS1 HS2 HS3 HS4 hMj ⊢
          rw [hbj] at u2 HS1 HS2 HS3 HS4
          clear hbi hbj
          generalize inQ B m i j = X at hNj HS1 HS2 ⊢
          generalize bCN B bi j = Y at hMj HS3 HS4 ⊢
          have w1 : IntKind.i64.wrap (x1 - y1) = x1 - y1 := IntWalk.i64_in _ (by omega)
          have w3 : IntKind.i64.wrap ((x1 - y1) * (x1 - y1)) = (x1 - y1) * (x1 - y1) := IntWalk.i64_in _ (by omega)
          have w4 : IntKind.i64.wrap (N + X + (x1 - y1) * (x1 - y1)) = N + X + (x1 - y1) * (x1 - y1) := IntWalk.i64_in _ (by omega)
          by_cases hbb : bj = bi
          · have hbe : ((bi : Int) == (bj : Int)) = true := by simp [hbb]
            have HA := Lib.hid (HS1.out hbb)
            have HC := Lib.hid (HS3.out hbb)
            clear hbb
            go_wp2
            go_big_quiet (fail)
            go_wp2
            go_big_quiet (fail)
            go_wp2
            go_roundw
            case rel => exact ⟨j + 1, by omega, by go_num, by rw [HA.out, ← Int.add_assoc], by rw [HC.out, ← Int.add_assoc], by (repeat (first | assumption | exact Below.refl _ _ | refine belowDN ?_ _ | refine Below.drew ?_ | refine Below.setCell ?_ (by first | omega | (simp <;> omega)) _ | refine Below.alloc ?_ (by first | omega | (simp <;> omega)) _ | refine belowCall ?_ (by assumption)))⟩
            case measure => simp [Go.RowKit.intOf]; omega
          · have hbe : ((bi : Int) == (bj : Int)) = false := by simp; omega
            have HA := Lib.hid (HS2.out hbb)
            have HC := Lib.hid (HS4.out hbb)
            clear hbb
            go_wp2
            go_big_quiet (fail)
            go_wp2
            go_roundw
            case rel => exact ⟨j + 1, by omega, by go_num, by rw [HA.out], by rw [HC.out], by (repeat (first | assumption | exact Below.refl _ _ | refine belowDN ?_ _ | refine Below.drew ?_ | refine Below.setCell ?_ (by first | omega | (simp <;> omega)) _ | refine Below.alloc ?_ (by first | omega | (simp <;> omega)) _ | refine belowCall ?_ (by assumption)))⟩
            case measure => simp [Go.RowKit.intOf]; omega
        · obtain rfl : j = i := by omega
          go_wp2
          go_roundw
          case rel => exact ⟨j + 1, by omega, by go_num, by rw [HE1.out], by rw [HE2.out], hB⟩
          case measure => simp [Go.RowKit.intOf]; omega
    · obtain rfl : i = n := by omega
      go_wp2
      go_ret2
      exact ⟨by rw [HQ.out, HN.out]; rfl, belowCall b3 hB⟩
end Go.Proofs.Ytcjipmpccmppiaa
