/- FnFolds: for every input the law returns true: folding puts all points into the order of their phases, the bins have all of them, and the means are those of the bins that are not empty. -/
import Derived.Test.YtidiiladlmaigaaB1
import Derived.Test.YtidiiladlmaigaaFW
import Derived.Test.YtidiiladlmaigaaKC
import Derived.Test.YtidiiladlmaigaaFEC
import Derived.Test.YtidiiladlmaigaaFX
import Derived.Test.YtidiiladlmaigaaFY
import Derived.Test.YtidiiladlmaigaaF9
import Derived.Test.YtidiiladlmaigaaFA
import Derived.Test.YtidiiladlmaigaaFO
import Derived.Test.YtidiiladlmaigaaF2
import Derived.ChangeOld
import Derived.Lib.SmallJoins
import Derived.Deep.RegionHeld3
import Derived.Deep.Quiet
namespace Go.Proofs.Ytidiiladlmaigaa.fnFolds
open Go.ChangeShapes Go.WideShapes Go.ChangeAt Go.RowKit
open Go.ChangeMaps (open_string shut_string)
set_option linter.unusedVariables false

theorem own : ownKnob Try.prog.godebug = none := by kernel_rfl
theorem laidOut : laidOutB Try.prog = true := by kernel_rfl
def lastF (e p : Int) (xs : List Pt) (L : List Int) (k : Nat) : Int := if k = 0 then -1 else keyP e p xs (L[k - 1]?.getD 0).toNat
theorem lastF_succ (e p : Int) (xs : List Pt) (L : List Int) (k : Nat) : lastF e p xs L (k + 1) = keyP e p xs (L[k]?.getD 0).toNat := by simp [lastF]
theorem cnt_map_at {e p : Int} {xs : List Pt} {B k : Nat} (hk : k < B) : (((List.range B).map fun i : Nat => (cntB e p (B : Int) xs i : Int))[k]?.getD 0) = (cntB e p (B : Int) xs k : Int) := by simp [hk]
set_option maxRecDepth 100000 in
set_option maxHeartbeats 8000000 in

theorem walk (a0 : Option Addr) (len0 cap0 : Nat) (z0 : List Int) (a1 : Option Addr) (len1 cap1 : Nat) (z1 : List Int) (w : World) (w0 : IsRow .u8 w a0 len0 cap0 z0) (w1 : IsRow .u8 w a1 len1 cap1 z1) :
    Calls Try.prog 6 #[.slice a0 len0 cap0, .slice a1 len1 cap1] w fun e w' => e = .returned (.bool true) ∧ Below w.heap.size w w' := by
  have hb0 := LstB.of_row w0
  have hb1 := LstB.of_row w1
  clear w0 w1
  have mixed : Try.prog.follows .mixedOrders = true := by kernel_rfl
  cases hlong : (decide (3000 < (len0 : Int)) || decide (3000 < (len1 : Int)))
  case true =>
    have HL := Lib.hid hlong
    clear hlong
    go_enter Try.func6, Try.ntmps6
    go_wp2_with fail
    refine (a2Long_any _ _ _ _ _ _ _).mono ?_
    rintro e w' ⟨rfl, rfl⟩
    rw [HL.out]
    go_wp2
    go_ret
    exact ⟨rfl, Below.refl _ _⟩
  have HL := Lib.hid hlong
  have hl0 : len0 ≤ 3000 := by simp at hlong; omega
  have hl1 : len1 ≤ 3000 := by simp at hlong; omega
  clear hlong
  go_enter Try.func6, Try.ntmps6
  go_wp2_with fail
  refine (a2Long_any _ _ _ _ _ _ _).mono ?_
  rintro e w' ⟨rfl, rfl⟩
  rw [HL.out]
  go_wp2_with fail
  refine (A2Eph_any a0 len0 cap0 w hb0 (by omega)).mono ?_
  rintro e w1 ⟨ee, pp, rfl, e1, e2, p1, p2, hB1⟩
  have hbx := PtC.fresh w1 44 ee pp
  have BV : Below w.heap.size w (w1.alloc (.cells #[.int .i64 ee, .int .i64 pp] 44)) := hB1.alloc hB1.size _
  have hb1V := hb1.below BV
  clear hb0 hb1
  go_wp2_with fail
  generalize w1.alloc (.cells #[.int .i64 ee, .int .i64 pp] 44) = V at hbx BV hb1V ⊢
  have hb2V : LstB V V.heap.size a1 len1 := fun i hi => by
    obtain ⟨b, off, v, e, hlt, hc, h0, h1⟩ := hb1V i hi
    exact ⟨b, off, v, e, by have := BV.size; omega, hc, h0, h1⟩
  refine (A2Curve_any a1 len1 cap1 V hb2V (by omega)).mono ?_
  rintro e w2 ⟨ca, n, cc, xs, rfl, hL1, hok, hn12, hnc, -, hB2⟩
  have hb2 := hb2V.below hB2
  have hbx2 := hbx.mono hB2
  have D2 := belowCall BV hB2
  have HVZ := Lib.hid hB2.size
  have hE : ephB ee pp = true := ephB_iff.2 ⟨⟨e1, by omega⟩, p1, by omega⟩
  have hxl := hL1.1
  obtain ⟨L, hLd⟩ : ∃ L, (idxL n).mergeSort (leF ee pp xs) = L := ⟨_, rfl⟩
  obtain ⟨fl, fr, fnd, fst⟩ := fold_facts hLd.symm
  have HND := Lib.hid (fun k (hk : k < n) => nodup_take fnd (show k < L.length by omega))
  have HR := Lib.hid fr
  have HST := Lib.hid fst
  have HXL := Lib.hid hxl
  have HFL := Lib.hid fl
  obtain ⟨-, hbd, -⟩ := okP_num hxl hok
  have HBD := Lib.hid hbd
  have HOK := Lib.hid hok
  have HE := Lib.hid hE
  have hnn : (n : Int) ≤ 12 := by omega
  obtain ⟨hltc, k0, k1⟩ := hbx2.parts
  rw [Nat.zero_add] at k1
  clear fr fnd fst fl hb1V hb2V hbd
  go_wp2_with fail
  refine (iFoldC_any ee pp (some ⟨ca, 0, none⟩) n cc xs w2 hL1 (by omega) HE.out HOK.out).mono ?_
  rintro e w3 ⟨ob, rfl, hown, b3⟩
  rw [hLd] at hown
  have HO := Lib.hid hown
  have hbx3 := hbx2.mono b3
  have D3 := belowCall D2 b3
  have hb3 := hb2.below (b3.mono HVZ.out)
  have hL3 := hL1.mono b3
  have hobw := (hown.lt ob rfl).2
  clear hown hok hE hxl k0 k1 hltc
  go_wp2_with fail
  go_loopw [9, 10] (fun l i wr => ∃ k : Nat, k ≤ n ∧ i = .int .i64 (k : Int) ∧ l = .int .i64 (lastF ee pp xs L k) ∧ Below w3.heap.size w3 wr) (fun _ i _ => n - (Go.RowKit.intOf i).toNat)
  case atStart => exact ⟨0, Nat.zero_le _, rfl, rfl, Below.refl _ _⟩
  case round =>
    obtain ⟨k, hk, rfl, rfl, hB⟩ := hrel
    by_cases hlt : k < n
    · have hrow := ownKeepF HO.out hB
      have hFL := HFL.out
      obtain ⟨q, hq, hqn⟩ := HR.out k hlt
      have hcell : ∀ j, j < n → wr.cell? ⟨ob, j, none⟩ = some (.int .i64 (L[j]?.getD 0)) := fun j hj => by rw [hrow.cellAt j (by omega), List.getElem?_map, List.getElem?_eq_getElem (by omega)]; rfl
      have co := hcell k hlt
      rw [hq] at co
      have hobr : ob < wr.heap.size := Nat.lt_of_lt_of_le hobw hB.size
      have hPre : Lst wr (some ⟨ob, 0, none⟩) k (L.take k) := ⟨by rw [List.length_take]; omega, fun j hj => ⟨ob, 0, rfl, hobr, by rw [Nat.zero_add, hcell j (by omega), List.getElem?_take_of_lt hj]⟩⟩
      have hnd := HND.out k hlt
      rw [hq] at hnd
      have hkk : (k : Int) < (n : Int) := by omega
      have hk00 : (0 : Int) ≤ (k : Int) := by omega
      have hkle : (k : Int) ≤ (n : Int) := by omega
      have hqq : (q : Int) < (n : Int) := by omega
      have hq0 : (0 : Int) ≤ (q : Int) := by omega
      have hq00 : ¬ (q : Int) < 0 := by omega
      have hqn0 : ¬ (n : Int) ≤ (q : Int) := by omega
      have g1 : decide ((q : Int) < 0) = false := by simp
      have g2 : ¬ n ≤ q := by omega
      have g3 : decide (n ≤ q) = false := by simp; omega
      have g4 : decide ((n : Int) ≤ (q : Int)) = false := by simp; omega
      have HCELL := Lib.hid hcell
      have HQ := Lib.hid hq
      clear hcell hq hFL
      go_wp2_with fail
      go_region_held3 (fun W' => W'.cell? ⟨ob, k, none⟩ = some (.int .i64 (q : Int))) (first | assumption | exact ((show Below wr.heap.size wr _ by (repeat (first | assumption | exact Below.refl _ _ | refine belowDN ?_ _ | refine Below.drew ?_ | refine Below.setCell ?_ (by first | omega | (simp <;> omega)) _ | refine Below.alloc ?_ (by first | omega | (simp <;> omega)) _ | refine belowCall ?_ (by assumption)))).cell (p := ⟨ob, k, none⟩) hobr).trans co) (first | (go_at_call 25; refine (a2No_any _ _ _ _ _ _ (hPre.mono (by (repeat (first | assumption | exact Below.refl _ _ | refine belowDN ?_ _ | refine Below.drew ?_ | refine Below.setCell ?_ (by first | omega | (simp <;> omega)) _ | refine Below.alloc ?_ (by first | omega | (simp <;> omega)) _ | refine belowCall ?_ (by assumption))))) (by omega) hnd).mono ?_; rintro x wA ⟨rfl, hwA⟩; have bA : Below wr.heap.size wr wA := (by rw [← hwA]; (repeat (first | assumption | exact Below.refl _ _ | refine belowDN ?_ _ | refine Below.drew ?_ | refine Below.setCell ?_ (by first | omega | (simp <;> omega)) _ | refine Below.alloc ?_ (by first | omega | (simp <;> omega)) _ | refine belowCall ?_ (by assumption)))); clear hwA))
      clear hPre hnd g1 g2 g3 g4 hq00 hqn0
      have hLc := hL3.mono (hB.trans (bA.mono hB.size))
      have hbxA := hbx3.mono (hB.trans (bA.mono hB.size))
      obtain ⟨cb, cof, e', hcp⟩ := hLc.2 q hqn
      obtain ⟨rfl, rfl⟩ : ca = cb ∧ 0 = cof := by injection e' with e'; injection e' with e1 e2; exact ⟨e1, e2⟩
      obtain ⟨⟨tq, mq⟩, htq⟩ : ∃ x, xs[q]?.getD pt0 = x := ⟨_, rfl⟩
      have hbt := HBD.out q hqn
      rw [htq] at hcp hbt
      have y3 := hcp.parts.2.1
      rw [Nat.zero_add] at y3
      have z3 := hcp.1
      obtain ⟨z1, y0, y1⟩ := hbxA.parts
      rw [Nat.zero_add] at y1
      have y2 := (bA.cell (p := ⟨ob, k, none⟩) hobr).trans co
      have z2 : ob < wA.heap.size := Nat.lt_of_lt_of_le hobr bA.size
      have HKY : Hid (keyP ee pp xs q = phs ee pp tq) := Lib.hid (by unfold keyP; rw [htq])
      have HPV := Lib.hid (show phsV ee pp tq = .tuple #[.int .i64 (phs ee pp tq), .int .i64 0] from phV_0 HE.out (tmB_iff.2 ⟨hbt.1, hbt.2.1⟩))
      have HPO : ∀ W, Calls Try.prog 26 #[.agg #[.int .i64 ee, .int .i64 pp], .int .i64 tq] W fun x w' => x = .returned (.tuple #[.int .i64 (phs ee pp tq), .int .i64 0]) ∧ Below W.heap.size W w' := fun W => by rw [← HPV.out]; exact sPhsOf_any ee pp tq W
      have hf0 := (phs_bd (e := ee) (t := tq) p1).1
      have hcase : lastF ee pp xs L k < phs ee pp tq ∨ (0 < k ∧ lastF ee pp xs L k = phs ee pp tq ∧ ∃ r : Nat, L[k - 1]?.getD 0 = (r : Int) ∧ r ≤ q) := by
        by_cases hk0 : 0 < k
        · obtain ⟨k', rfl⟩ : ∃ k', k = k' + 1 := ⟨k - 1, by omega⟩
          obtain ⟨r, hr, -⟩ := HR.out k' (by omega)
          have h9 := fold_step (HST.out k' (by omega)) hr HQ.out
          rw [lastF_succ, hr, Int.toNat_natCast, ← HKY.out]
          rcases h9 with h9 | ⟨h9, h10⟩
          · exact .inl h9
          · exact .inr ⟨by omega, h9, r, hr, h10⟩
        · obtain rfl : k = 0 := by omega
          exact .inl (by rw [lastF, if_pos rfl]; omega)
      have HNX : Hid (lastF ee pp xs L (k + 1) = phs ee pp tq) := Lib.hid (by rw [lastF_succ, HQ.out, Int.toNat_natCast, HKY.out])
      obtain ⟨f, hf⟩ : ∃ f, phs ee pp tq = f := ⟨_, rfl⟩
      obtain ⟨ls, hls⟩ : ∃ f, lastF ee pp xs L k = f := ⟨_, rfl⟩
      rw [hf] at HPO HNX hcase hf0
      rw [hls] at hcase ⊢
      clear hf hls hcp htq e' hLc hbxA
      go_wp2_with fail
      go_region_held3 (fun W' => W'.cell? ⟨w1.heap.size, 0, none⟩ = some (.int .i64 ee) ∧ W'.cell? ⟨w1.heap.size, 1, none⟩ = some (.int .i64 pp) ∧ W'.cell? ⟨ob, k, none⟩ = some (.int .i64 (q : Int)) ∧ W'.cell? ⟨ca, q * 2, none⟩ = some (.int .i64 tq)) (refine ⟨(by first | assumption | exact ((show Below wA.heap.size wA _ by (repeat (first | assumption | exact Below.refl _ _ | refine belowDN ?_ _ | refine Below.drew ?_ | refine Below.setCell ?_ (by first | omega | (simp <;> omega)) _ | refine Below.alloc ?_ (by first | omega | (simp <;> omega)) _ | refine belowCall ?_ (by assumption)))).cell (p := ⟨w1.heap.size, 0, none⟩) z1).trans y0), (by first | assumption | exact ((show Below wA.heap.size wA _ by (repeat (first | assumption | exact Below.refl _ _ | refine belowDN ?_ _ | refine Below.drew ?_ | refine Below.setCell ?_ (by first | omega | (simp <;> omega)) _ | refine Below.alloc ?_ (by first | omega | (simp <;> omega)) _ | refine belowCall ?_ (by assumption)))).cell (p := ⟨w1.heap.size, 1, none⟩) z1).trans y1), (by first | assumption | exact ((show Below wA.heap.size wA _ by (repeat (first | assumption | exact Below.refl _ _ | refine belowDN ?_ _ | refine Below.drew ?_ | refine Below.setCell ?_ (by first | omega | (simp <;> omega)) _ | refine Below.alloc ?_ (by first | omega | (simp <;> omega)) _ | refine belowCall ?_ (by assumption)))).cell (p := ⟨ob, k, none⟩) z2).trans y2), (by first | assumption | exact ((show Below wA.heap.size wA _ by (repeat (first | assumption | exact Below.refl _ _ | refine belowDN ?_ _ | refine Below.drew ?_ | refine Below.setCell ?_ (by first | omega | (simp <;> omega)) _ | refine Below.alloc ?_ (by first | omega | (simp <;> omega)) _ | refine belowCall ?_ (by assumption)))).cell (p := ⟨ca, q * 2, none⟩) z3).trans y3)⟩) (first | (go_at_call 26; refine (HPO _).mono ?_; rintro x wB ⟨rfl, bB'⟩; have bB : Below wA.heap.size wA wB := belowCall (show Below wA.heap.size wA _ by (repeat (first | assumption | exact Below.refl _ _ | refine belowDN ?_ _ | refine Below.drew ?_ | refine Below.setCell ?_ (by first | omega | (simp <;> omega)) _ | refine Below.alloc ?_ (by first | omega | (simp <;> omega)) _ | refine belowCall ?_ (by assumption)))) bB'; clear bB'))
      have DB := belowCall bA bB
      have HBB := Lib.hid (hB.trans (DB.mono hB.size))
      rcases hcase with hc | ⟨hk0, heq, r, hr, hrq⟩
      · have c1 : ¬ f < ls := by omega
        have c2 : ¬ f = ls := by omega
        clear hc
        go_wp2_with fail
        go_quiet (fail)
        have hBn := belowDN HBB.out nq
        generalize wB.drewN nq = wC at hBn ⊢
        go_wp2
        go_roundw
        case rel => exact ⟨k + 1, by omega, by go_num, by rw [HNX.out], hBn⟩
        case measure => simp [Go.RowKit.intOf]; omega
      · obtain ⟨k', hk'⟩ : ∃ k', k - 1 = k' := ⟨_, rfl⟩
        have hc1 := HCELL.out (k - 1) (by omega)
        rw [hr, hk'] at hc1
        have p1 := (DB.cell (p := ⟨ob, k', none⟩) hobr).trans hc1
        have p2 := (DB.cell (p := ⟨ob, k, none⟩) hobr).trans co
        have s1 : (k : Int) - 1 = (k' : Int) := by omega
        have wS : IntKind.i64.wrap (k' : Int) = (k' : Int) := IntWalk.i64_in _ (by omega)
        have s3 : (k' : Int) < (n : Int) := by omega
        have s4 : (0 : Int) ≤ (k' : Int) := by omega
        have c1 : ¬ q < r := by omega
        have c2 : ¬ (q : Int) < (r : Int) := by omega
        have c3 : decide (q < r) = false := by simp; omega
        rw [heq]
        clear heq hc1 hk'
        go_wp2_with fail
        go_quiet (fail)
        have hBn := belowDN HBB.out nq
        generalize wB.drewN nq = wC at hBn ⊢
        go_wp2
        go_roundw
        case rel => exact ⟨k + 1, by omega, by go_num, by rw [HNX.out], hBn⟩
        case measure => simp [Go.RowKit.intOf]; omega
    · obtain rfl : k = n := by omega
      have hLr := hL3.mono hB
      have hbxr := hbx3.mono hB
      obtain ⟨-, k0, k1⟩ := hbxr.parts
      rw [Nat.zero_add] at k1
      have hbr := hb3.below (hB.mono (Nat.le_trans HVZ.out b3.size))
      have DR := belowCall D3 hB
      go_wp2_with fail
      refine (a2At_any _ a1 len1 cap1 0 20 wr hbr (by omega) (by decide) (by decide)).mono ?_
      rintro e wX ⟨v, rfl, v0, v1, rfl⟩
      obtain ⟨B, hBv⟩ : ∃ B : Nat, 1 + v = (B : Int) := ⟨(1 + v).toNat, by omega⟩
      have hB1 : 1 ≤ B := by omega
      have hB20 : B ≤ 20 := by omega
      have HBV := Lib.hid hBv
      have hpc := pc_0 (e := ee) (p := pp) (b := (B : Int)) (xs := xs) (by rw [HE.out, HOK.out]; rfl) (by rw [binsB, inB_iff]; omega)
      have hpm := pm_0 (e := ee) (p := pp) (b := (B : Int)) (xs := xs) (by rw [HE.out, HOK.out]; rfl) (by rw [binsB, inB_iff]; omega)
      have hcs := counts_sum (e := ee) (p := pp) (b := (B : Int)) (xs := xs) p1 (by omega)
      rw [Int.toNat_natCast] at hpc hpm hcs
      rw [HXL.out] at hcs
      have HCA := Lib.hid (fun j (hj : j < B) => cnt_map_at (e := ee) (p := pp) (xs := xs) hj)
      have HCL : Hid (((List.range B).map fun i : Nat => (cntB ee pp (B : Int) xs i : Int)).length = B) := Lib.hid (by simp)
      have HCB := Lib.hid (fun i => show cntB ee pp (B : Int) xs i ≤ 12 from Nat.le_trans (ptsIn_len _ _ _ _ _ _) (by have := HXL.out; omega))
      have HPC := Lib.hid hpc
      have HPM := Lib.hid hpm
      have HCS := Lib.hid hcs
      have HMA := Lib.hid (fun j (hj : j < B) h => mns_at (e := ee) (p := pp) (b := (B : Int)) (xs := xs) (k := j) (B := B) hj h)
      have hBz1 : 1 ≤ (B : Int) := by omega
      have hBz2 : (B : Int) ≤ 20 := by omega
      clear hpc hpm hcs hbr hBv
      go_wp2_with fail
      (try rw [HBV.out])
      refine (iCnts_any ee pp (some ⟨ca, 0, none⟩) k cc xs (B : Int) wr hLr (by omega) hnc).mono ?_
      rintro e w5 ⟨⟨qa, qc, rfl, hCO⟩, b5⟩
      rw [HPC.out.1]
      have hLC := (hCO 1).toL
      rw [HPC.out.2] at hLC ⊢
      generalize ((List.range B).map fun i : Nat => (cntB ee pp (B : Int) xs i : Int)) = C at hLC HCA HCL HCS HPC ⊢
      rw [HCL.out] at hLC ⊢
      have D5 := belowCall DR b5
      have hbx5 := hbxr.mono b5
      clear k0 k1 hCO
      obtain ⟨-, k0, k1⟩ := hbx5.parts
      rw [Nat.zero_add] at k1
      go_wp2_with fail
      refine (iMeans_any ee pp (some ⟨ca, 0, none⟩) k cc xs (B : Int) w5 (hLr.mono b5) (by omega) hnc).mono ?_
      rintro e w6 ⟨⟨ma, mc, rfl, hMO⟩, b6⟩
      rw [HPC.out.1]
      have hLM := (hMO 1).toL
      rw [HPM.out] at hLM ⊢
      obtain ⟨m, hm⟩ : ∃ m, (mnsB ee pp (B : Int) xs B).length = m := ⟨_, rfl⟩
      rw [hm] at hLM ⊢
      have HMZ := Lib.hid hm
      have D6 := belowCall D5 b6
      have hLC6 := hLC.mono b6
      clear hMO hm hLC k0 k1
      go_wp2_with fail
      refine (a2Sum_any qa B qc C w6 hLC6 (by omega) (fun j hj => by rw [HCA.out j (by have := HCL.out; omega)]; have := HCB.out j; omega)).mono ?_
      rintro e wY ⟨rfl, rfl⟩
      rw [HCS.out]
      go_wp2_with fail
      go_loopw [18, 19] (fun a i wr => ∃ j : Nat, j ≤ B ∧ i = .int .i64 (j : Int) ∧ a = .int .i64 ((mnsB ee pp (B : Int) xs j).length : Int) ∧ Below w6.heap.size w6 wr) (fun _ i _ => B - (Go.RowKit.intOf i).toNat)
      case atStart => exact ⟨0, Nat.zero_le _, rfl, rfl, Below.refl _ _⟩
      case round =>
        obtain ⟨j, hj, rfl, rfl, hB6⟩ := hrel
        have hLC7 := hLC6.mono hB6
        have hLM7 := hLM.mono hB6
        have D7 := belowCall D6 hB6
        by_cases hlt : j < B
        · obtain ⟨cb, cof, rfl, hcb, hcc⟩ := hLC7.2 j hlt
          rw [HCA.out j hlt] at hcc
          have hjB : (j : Int) < (B : Int) := by omega
          have hj0 : (0 : Int) ≤ (j : Int) := by omega
          by_cases h0 : 0 < cntB ee pp (B : Int) xs j
          · obtain ⟨hj1, hj2⟩ := HMA.out j hlt h0
            rw [HMZ.out] at hj1
            have HSZ : Hid ((mnsB ee pp (B : Int) xs (j + 1)).length = (mnsB ee pp (B : Int) xs j).length + 1) := Lib.hid (by rw [mnsB_yes h0]; simp)
            obtain ⟨at0, hat⟩ : ∃ z, (mnsB ee pp (B : Int) xs j).length = z := ⟨_, rfl⟩
            rw [hat] at hj1 hj2 HSZ ⊢
            obtain ⟨mb, mo, rfl, hmp⟩ := hLM7.2 at0 hj1
            obtain ⟨⟨tm, mm⟩, htm⟩ : ∃ x, (mnsB ee pp (B : Int) xs B)[at0]?.getD pt0 = x := ⟨_, rfl⟩
            rw [htm] at hmp hj2
            obtain rfl : tm = (j : Int) := hj2
            have hmc := hmp.parts.2.1
            obtain ⟨cn, hcn⟩ : ∃ z, cntB ee pp (B : Int) xs j = z := ⟨_, rfl⟩
            rw [hcn] at hcc h0
            have hz : ¬ cn = 0 := by omega
            have hz1 : ¬ (cn : Int) = 0 := by omega
            have ha1 : (at0 : Int) < (m : Int) := by omega
            have ha0 : (0 : Int) ≤ (at0 : Int) := by omega
            have ha2 : ¬ m ≤ at0 := by omega
            have ha3 : ¬ (m : Int) ≤ (at0 : Int) := by omega
            have ha4 : decide (m ≤ at0) = false := by simp; omega
            have ha5 : decide ((m : Int) ≤ (at0 : Int)) = false := by simp; omega
            have ham : (at0 : Int) ≤ 100000 := by
              have h9 := mnsB_len ee pp (B : Int) xs j
              omega
            clear hcn htm hat hmp
            go_wp2
            go_roundw
            case rel => exact ⟨j + 1, by omega, by go_num, by rw [HSZ.out]; go_num, hB6⟩
            case measure => simp [Go.RowKit.intOf]; omega
          · have HSZ : Hid ((mnsB ee pp (B : Int) xs (j + 1)).length = (mnsB ee pp (B : Int) xs j).length) := Lib.hid (by rw [mnsB_no h0])
            have hz : cntB ee pp (B : Int) xs j = 0 := by omega
            rw [hz] at hcc
            have hcc0 : World.cell? wr ⟨cb, cof + j, none⟩ = some (.int .i64 0) := hcc
            clear hcc hz
            obtain ⟨at0, hat⟩ : ∃ z, (mnsB ee pp (B : Int) xs j).length = z := ⟨_, rfl⟩
            rw [hat] at HSZ ⊢
            clear hat
            go_wp2
            go_roundw
            case rel => exact ⟨j + 1, by omega, by go_num, by rw [HSZ.out], hB6⟩
            case measure => simp [Go.RowKit.intOf]; omega
        · obtain rfl : j = B := by omega
          rw [HMZ.out]
          go_wp2
          go_ret
          exact ⟨rfl, D7⟩

set_option maxRecDepth 100000 in
theorem lifted (os : Os) (started : os.Started) (H : Type) (enc : TypeId × Value → H) :
    ReturnsInHanded {} Try.checked os 6 .any (Rows.fnFoldsSpec.pre6 enc Try.prog Try.f6 Rows.fnFoldsRow.domain false) (Rows.fnFoldsSpec.post enc Try.prog Try.f6 false true false false) := by
  refine returnsInHanded_of_change (C := Try.checked) own started (by kernel_rfl) Try.func6
    (ChangeSpec.witness6 (enc := enc) (C := Try.checked) false ⟨#[], #[.slice none 0 0, .slice none 0 0], []⟩ 8 (by kernel_rfl) (by kernel_rfl) (by kernel_rfl) (by kernel_rfl)) ?_
  intro W base args ds gs before hval0 hW hcnd _
  have hval : ∀ (j : Nat) t v, Try.f6.params[j]? = some t → args[j]? = some v → Value.okWide Try.prog W .any base t v := hval0
  have hW' := hW
  obtain ⟨p, q, hA0, hV, rfl, hfz, hnd⟩ := hW
  have hA : DataW.TrodAll enc Try.prog W 0 (fun _ => true) true Try.f6.params.toList args.toList ds p := hA0
  rw [Try.params6] at hA hval
  obtain ⟨v0, vs0, d0, ds0, p0, q0, hargs, rfl, rfl, h0, r0⟩ := trodAll_cons hA
  obtain ⟨v1, vs1, d1, ds1, p1, q1, rfl, rfl, rfl, h1, r1⟩ := trodAll_cons r0
  obtain ⟨rfl, rfl, rfl⟩ := trodAll_nil r1
  obtain rfl : args = #[v0, v1] := by cases args; simp_all
  obtain ⟨rfl, rfl⟩ := trodVars_none hV
  have k0 := h0
  have lt0 : ∀ x ∈ p0, x.block < W.heap.size := by obtain ⟨m, hm⟩ := k0; exact DataW.trod_lt m _ _ _ hm
  obtain ⟨a0, len0, cap0, rfl⟩ := okWide_slice Try.underlying47 (hval 0 47 v0 rfl rfl)
  obtain ⟨z0, w0⟩ : ∃ zs, IsRow .u8 W a0 len0 cap0 zs := by
    obtain ⟨fuel, hf⟩ := h0
    rcases open_ints Try.underlying47 Try.underlying5 (by kernel_rfl) hf with ⟨hcs, _⟩ | ⟨x, l, c, zs, hcs, _, hl, hm, hz, _, hcell, hwz⟩
    · simp [Value.cells] at hcs
      obtain ⟨rfl, rfl, rfl⟩ := hcs
      exact ⟨[], .inl ⟨rfl, rfl, rfl, rfl⟩⟩
    · simp [Value.cells] at hcs
      obtain ⟨rfl, rfl, rfl⟩ := hcs
      exact ⟨zs, .inr ⟨_, rfl, hl, hm, by simpa using hz, hcell, hwz⟩⟩
  have k1 := h1
  have lt1 : ∀ x ∈ p1, x.block < W.heap.size := by obtain ⟨m, hm⟩ := k1; exact DataW.trod_lt m _ _ _ hm
  obtain ⟨a1, len1, cap1, rfl⟩ := okWide_slice Try.underlying47 (hval 1 47 v1 rfl rfl)
  obtain ⟨z1, w1⟩ : ∃ zs, IsRow .u8 W a1 len1 cap1 zs := by
    obtain ⟨fuel, hf⟩ := h1
    rcases open_ints Try.underlying47 Try.underlying5 (by kernel_rfl) hf with ⟨hcs, _⟩ | ⟨x, l, c, zs, hcs, _, hl, hm, hz, _, hcell, hwz⟩
    · simp [Value.cells] at hcs
      obtain ⟨rfl, rfl, rfl⟩ := hcs
      exact ⟨[], .inl ⟨rfl, rfl, rfl, rfl⟩⟩
    · simp [Value.cells] at hcs
      obtain ⟨rfl, rfl, rfl⟩ := hcs
      exact ⟨zs, .inr ⟨_, rfl, hl, hm, by simpa using hz, hcell, hwz⟩⟩
  clear hA0 hval0
  refine (walk a0 len0 cap0 z0 a1 len1 cap1 z1 W w0 w1).mono fun e W' ⟨he, bel⟩ => ?_
  subst he
  exact ⟨_, rfl, _, _, _, [], _, [], hW', trodAll_mk1 (shut_bool Try.underlying4 _), (trodAll_cons_mk (Below.trod laidOut (by kernel_rfl) (of_decide_eq_true (by kernel_rfl)) k0 bel lt0) (trodAll_cons_mk (Below.trod laidOut (by kernel_rfl) (of_decide_eq_true (by kernel_rfl)) k1 bel lt1) trodAll_mk0)), rfl, bel.frame _, fun h => by cases h⟩

theorem over : Rows.fnFoldsRow.holds Try.pinned (OpenSpec.ofChange Rows.fnFoldsSpec) :=
  OpenClaim.holds_of_wide 6 Try.f6 rfl rfl rfl rfl rfl rfl rfl ⟨rfl, rfl, rfl, rfl, rfl⟩ rfl rfl rfl rfl rfl (by kernel_rfl) Try.func6 (by kernel_rfl)
    (of_decide_eq_true (by kernel_rfl)) (by unfold Func.isWrapper; first | (rw [if_pos (by decide +kernel)]; kernel_rfl) | (rw [if_neg (by decide +kernel)]; exact ⟨rfl, rfl⟩))
    (fun os started H enc _ => lifted os started H enc)

theorem proved : Rows.FnFoldsSaid := over
#print axioms proved
end Go.Proofs.Ytidiiladlmaigaa.fnFolds
