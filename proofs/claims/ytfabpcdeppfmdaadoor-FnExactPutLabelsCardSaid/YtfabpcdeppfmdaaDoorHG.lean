/- PutLabels, the program's: for each label the set of those that overlap it. -/
import Derived.Test.YtfabpcdeppfmdaaDoorHF
namespace Go.Proofs.YtfabpcdeppfmdaaDoor
open Go.ChangeShapes Go.WideShapes Go.ChangeAt Go.RowKit Go.Deep

/-- the sets of the first k labels; behind them zeros -/
def agF (xs : List Mk) (n k j : Nat) : Value := if j < k then .int .u32 ((msk (agP xs (bxQ (xs[j / 4]?.getD mk0) ((j % 4 : Nat) : Int))) (4 * n) : Nat) : Int) else .int .u32 0
theorem LS_info : (Tryd.prog.info? 94).map (fun i => (i.zero, i.size, i.bytes)) = some (some (.agg #[.int .u32 0, .int .u32 0, .int .u32 0, .int .u32 0]), 4, 16) := by kernel_rfl
theorem made_ag (xs : List Mk) (n m j : Nat) (hj : j < m * 4) : ((madeCells (Value.agg #[.int .u32 0, .int .u32 0, .int .u32 0, .int .u32 0]).cells (m * 4)).toList[j]?).getD (.bool false) = agF xs n 0 j := by
  have hj5 : j % 4 < 4 := by omega
  simp [madeCells, hj, Value.cells, agF]
  match h : j % 4, hj5 with
  | 0, _ => rfl
  | 1, _ => rfl
  | 2, _ => rfl
  | 3, _ => rfl
theorem ag_put {w : World} {g N n k : Nat} {T : TypeId} {xs : List Mk} {v : Int} (h : w.rowIs g T N (agF xs n k)) (hv : v = ((msk (agP xs (bxQ (xs[k / 4]?.getD mk0) ((k % 4 : Nat) : Int))) (4 * n) : Nat) : Int)) :
    (w.setCell ⟨g, k, none⟩ (.int .u32 v)).rowIs g T N (agF xs n (k + 1)) := by
  refine (h.set k (.int .u32 v)).congr fun i _ => ?_
  by_cases h1 : i = k
  · subst h1
    rw [if_pos rfl, hv]
    simp [agF]
  · rw [if_neg h1]
    unfold agF
    by_cases h2 : i < k
    · rw [if_pos h2, if_pos (by omega)]
    · rw [if_neg h2, if_neg (by omega)]
set_option maxRecDepth 100000 in
set_option maxHeartbeats 8000000 in
theorem sides_any (a : Option Addr) (n c : Nat) (xs : List Mk) (w : World) (h : MkL w a n xs) (hok : okC xs = true) (hn8 : n ≤ 8) (hp : Pow w) (hw : Ways w) :
    Calls Tryd.prog 39 #[.slice a n c] w fun e w' => ∃ g, e = .returned (.slice (some ⟨g, 0, none⟩) n n) ∧ w'.rowIs g 94 (n * 4) (agF xs n (n * 4)) ∧ w.heap.size ≤ g ∧ Below w.heap.size w w' := by
  obtain ⟨i0, hi, hz0, hz1, hz2⟩ := info_parts LS_info
  have HL := Lib.hid h.1
  have HOK := Lib.hid hok
  have hni : (n : Int) ≤ 8 := by omega
  have hb : n ≤ maxLen := by unfold maxLen; omega
  clear hok
  go_enter Tryd.func39, Tryd.ntmps39
  go_wp2_with (at_make; refine wpList_make_full _ rfl _ _ 63 rfl w.heap.size 94 i0 _ 4 Tryd.underlying63 hi hz0 hz1 .i64 .i64 n n n rfl rfl rfl rfl (by rw [hz2]; omega) hb (Nat.le_refl _) ?_; intro w1 hown hgrow)
  have hrow := (rowM hown).congr (fun j hj => made_ag xs n n j hj)
  have hB1 : Below w.heap.size w w1 := (Below.refl _ _).grown hgrow (Nat.le_refl _) (fun k hk => by cases hk)
  clear hown hgrow
  go_loopw [12] (fun i wr => ∃ k : Nat, k ≤ n ∧ i = .int .i64 k ∧ wr.rowIs w.heap.size 94 (n * 4) (agF xs n (k * 4)) ∧ Below w.heap.size w wr) (fun i _ => n - (Go.RowKit.intOf i).toNat)
  case atStart => exact ⟨0, Nat.zero_le _, rfl, by rw [Nat.zero_mul]; exact hrow, hB1⟩
  case round =>
    obtain ⟨i, hin, rfl, hr, hB⟩ := hrel
    clear hrow hB1
    by_cases hlt : i < n
    · obtain ⟨b1, o1, rfl, hc⟩ := h.2 i hlt
      obtain ⟨⟨x0, x1, x2⟩, hx⟩ : ∃ x, xs[i]?.getD mk0 = x := ⟨_, rfl⟩
      have HVX := Lib.hid (okC_mark HL.out HOK.out hlt hx)
      rw [hx] at hc
      have HX := Lib.hid hx
      obtain ⟨-, p0, p1, p2⟩ := (hc.mono hB).parts
      have hsz := hB.size
      have hii : (i : Int) < (n : Int) := by omega
      have hi0 : (0 : Int) ≤ (i : Int) := by omega
      have hA : Below w.heap.size w (wr.alloc (.cells #[.int .i64 x0, .int .i64 x1, .int .i64 x2] 35)) := by (repeat (first | assumption | exact Below.refl _ _ | refine belowDN ?_ _ | refine Below.drew ?_ | refine Below.setCell ?_ (by first | omega | (simp <;> omega)) _ | refine Below.alloc ?_ (by first | omega | (simp <;> omega)) _ | refine belowCall ?_ (by assumption)))
      have hmx := MkC.fresh wr 35 x0 x1 x2
      have hrA := rowB hr ((Below.refl _ wr).alloc (Nat.le_refl _) (.cells #[.int .i64 x0, .int .i64 x1, .int .i64 x2] 35))
      have hmz : w.heap.size < (wr.alloc (.cells #[.int .i64 x0, .int .i64 x1, .int .i64 x2] 35)).heap.size := by simp; omega
      have hne : w.heap.size ≠ wr.heap.size := by have := hr.lt; omega
      clear hx hc hB hr
      go_wp2_with fail
      obtain ⟨mb, hmb⟩ : ∃ b, b = wr.heap.size := ⟨_, rfl⟩
      rw [← hmb] at hmx hne ⊢
      generalize wr.alloc (.cells #[.int .i64 x0, .int .i64 x1, .int .i64 x2] 35) = wA at hA hmx hrA hmz ⊢
      have zA := hA.size
      have hmbl : mb < wA.heap.size := hmx.1
      clear hmb p0 p1 p2
      go_wp2
      go_loopw [17] (fun ss wi => ∃ s : Nat, s ≤ 4 ∧ ss = .int .i64 s ∧ wi.rowIs w.heap.size 94 (n * 4) (agF xs n (i * 4 + s)) ∧ MkC wi mb 0 (x0, x1, x2) ∧ wA.heap.size ≤ wi.heap.size ∧ Below w.heap.size w wi) (fun ss _ => 4 - (Go.RowKit.intOf ss).toNat)
      case atStart => exact ⟨0, by omega, rfl, hrA, hmx, Nat.le_refl _, hA⟩
      case round =>
        obtain ⟨s, hs4, rfl, hr, hmi, hzi, hBi⟩ := hrel
        clear hrA hmx
        by_cases hs : s < 4
        · have hss : (s : Int) < 4 := by omega
          have hs0 : (0 : Int) ≤ (s : Int) := by omega
          obtain ⟨hm1, m0, m1, m2⟩ := hmi.parts
          rw [Nat.zero_add] at m1 m2
          have hpA := hp.mono hBi
          have hwA := hw.mono hBi
          have hnr := h.mono hBi
          obtain ⟨⟨b0, b1', b2, b3⟩, hbx⟩ : ∃ q, bxQ (x0, x1, x2) (s : Int) = q := ⟨_, rfl⟩
          have HB := Lib.hid hbx
          obtain ⟨M, hM⟩ : ∃ m, msk (agP xs (b0, b1', b2, b3)) (4 * n) = m := ⟨_, rfl⟩
          have HM := Lib.hid hM
          have HV : Hid ((M : Int) = ((msk (agP xs (bxQ (xs[(i * 4 + s) / 4]?.getD mk0) (((i * 4 + s) % 4 : Nat) : Int))) (4 * n) : Nat) : Int)) := Lib.hid (by
            rw [show (i * 4 + s) / 4 = i from by omega, show (i * 4 + s) % 4 = s from by omega, HX.out, hbx, hM])
          clear hbx hM
          go_wp2
          go_region_with (first | (go_at_call 46; refine (labelOn_any x0 x1 x2 (s : Int) _ HVX.out (by omega) (by omega) (hpA.mono (by (repeat (first | assumption | exact Below.refl _ _ | refine belowDN ?_ _ | refine Below.drew ?_ | refine Below.setCell ?_ (by first | omega | (simp <;> omega)) _ | refine Below.alloc ?_ (by first | omega | (simp <;> omega)) _ | refine belowCall ?_ (by assumption))))) (hwA.mono (by (repeat (first | assumption | exact Below.refl _ _ | refine belowDN ?_ _ | refine Below.drew ?_ | refine Below.setCell ?_ (by first | omega | (simp <;> omega)) _ | refine Below.alloc ?_ (by first | omega | (simp <;> omega)) _ | refine belowCall ?_ (by assumption))))) b0 b1' b2 b3 HB.out).mono ?_; rintro e w3 ⟨rfl, b3'⟩; have hb13 : Below wr.heap.size wr w3 := (by (repeat (first | assumption | exact Below.refl _ _ | refine belowDN ?_ _ | refine Below.drew ?_ | refine Below.setCell ?_ (by first | omega | (simp <;> omega)) _ | refine Below.alloc ?_ (by first | omega | (simp <;> omega)) _ | refine belowCall ?_ (by assumption))))) | (go_at_call 68; refine (against_any _ n c xs b0 b1' b2 b3 w3 (hnr.mono hb13) HOK.out hn8 (hpA.mono hb13) (hwA.mono hb13)).mono ?_; rintro e w4 ⟨rfl, b4⟩; rw [HM.out]; have hb14 : Below wr.heap.size wr w4 := belowCall hb13 b4; have hr4 := rowB hr hb14; have d0 := hr4.cell (show i * 4 + s < n * 4 by omega); have z0 := hr4.frozen (i * 4 + s)))
          all_goals
            have hP := ag_put hr4 HV.out
            have HP := Lib.hid hP
            have hm4 := hmi.mono hb14
            have hMM : Hid (MkC (w4.setCell ⟨w.heap.size, i * 4 + s, none⟩ (.int .u32 (M : Int))) mb 0 (x0, x1, x2)) := Lib.hid (hm4.of_block (gSet w4 ⟨w.heap.size, i * 4 + s, none⟩ (.int .u32 (M : Int))).size ((gSet w4 ⟨w.heap.size, i * 4 + s, none⟩ (.int .u32 (M : Int))).block mb hm4.1 (by first | simpa using hne | simpa using hne.symm)))
            have hB4 := belowCall hBi hb14
            have hz4 := hb14.size
            clear hP hr4 hr hm4
            go_wp2
            go_roundw
            case rel => exact ⟨s + 1, by omega, by go_num, HP.out, hMM.out, by simp; omega, by (repeat (first | assumption | exact Below.refl _ _ | refine belowDN ?_ _ | refine Below.drew ?_ | refine Below.setCell ?_ (by first | omega | (simp <;> omega)) _ | refine Below.alloc ?_ (by first | omega | (simp <;> omega)) _ | refine belowCall ?_ (by assumption)))⟩
            case measure => simp [Go.RowKit.intOf]; omega
        · have hs' : s = 4 := by omega
          subst hs'
          have HR := Lib.hid hr
          clear hr
          go_wp2
          go_roundw
          case rel => exact ⟨i + 1, by omega, by go_num, by rw [Nat.add_mul, Nat.one_mul]; exact HR.out, hBi⟩
          case measure => simp [Go.RowKit.intOf]; omega
    · obtain rfl : n = i := by omega
      go_wp2
      go_ret
      exact ⟨_, rfl, hr, Nat.le_refl _, hB⟩
end Go.Proofs.YtfabpcdeppfmdaaDoor
