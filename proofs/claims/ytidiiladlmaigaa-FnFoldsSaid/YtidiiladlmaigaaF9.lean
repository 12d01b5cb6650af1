/- PhaseCounts, the program's. -/
import Derived.Test.YtidiiladlmaigaaF8
import Derived.Deep.Cut
namespace Go.Proofs.Ytidiiladlmaigaa
open Go.ChangeShapes Go.WideShapes Go.ChangeAt Go.RowKit Go.Deep

theorem okP_bd {xs : List Pt} {n : Nat} (hn : xs.length = n) (h : okP xs = true) : ∀ k, k < n → bdP (xs[k]?.getD pt0) := (okP_num hn h).2.1
theorem pcC_parts {e p b : Int} {xs : List Pt} (h : pcC e p xs b = 0) : (ephB e p && okP xs) = true ∧ binsB b = true := by
  unfold pcC at h
  cases h1 : (ephB e p && okP xs)
  · simp [h1] at h
  · cases h2 : binsB b
    · simp [h1, h2] at h
    · exact ⟨rfl, rfl⟩
theorem pc_not {e p b : Int} {xs : List Pt} (h : pcC e p xs b ≠ 0) : pcL e p xs b = [] ∧ pmL e p xs b = [] := by
  simp [pcL, pmL, h]
def ZZ50 : Array Value := #[.slice none 0 0, .slice none 0 0, .slice none 0 0, .slice none 0 0, .slice none 0 0, .slice none 0 0, .slice none 0 0, .slice none 0 0, .slice none 0 0, .slice none 0 0, .slice none 0 0, .slice none 0 0, .slice none 0 0, .slice none 0 0, .slice none 0 0, .slice none 0 0, .slice none 0 0, .slice none 0 0, .slice none 0 0, .slice none 0 0, .slice none 0 0, .slice none 0 0, .slice none 0 0, .slice none 0 0, .slice none 0 0, .slice none 0 0, .slice none 0 0, .slice none 0 0, .slice none 0 0, .slice none 0 0, .slice none 0 0, .slice none 0 0, .slice none 0 0, .slice none 0 0, .slice none 0 0, .slice none 0 0, .slice none 0 0, .slice none 0 0, .slice none 0 0, .slice none 0 0, .slice none 0 0, .slice none 0 0, .slice none 0 0, .slice none 0 0, .slice none 0 0, .slice none 0 0, .slice none 0 0, .slice none 0 0, .slice none 0 0, .slice none 0 0]
theorem zz50_lit : (#[.slice none 0 0, .slice none 0 0, .slice none 0 0, .slice none 0 0, .slice none 0 0, .slice none 0 0, .slice none 0 0, .slice none 0 0, .slice none 0 0, .slice none 0 0, .slice none 0 0, .slice none 0 0, .slice none 0 0, .slice none 0 0, .slice none 0 0, .slice none 0 0, .slice none 0 0, .slice none 0 0, .slice none 0 0, .slice none 0 0, .slice none 0 0, .slice none 0 0, .slice none 0 0, .slice none 0 0, .slice none 0 0, .slice none 0 0, .slice none 0 0, .slice none 0 0, .slice none 0 0, .slice none 0 0, .slice none 0 0, .slice none 0 0, .slice none 0 0, .slice none 0 0, .slice none 0 0, .slice none 0 0, .slice none 0 0, .slice none 0 0, .slice none 0 0, .slice none 0 0, .slice none 0 0, .slice none 0 0, .slice none 0 0, .slice none 0 0, .slice none 0 0, .slice none 0 0, .slice none 0 0, .slice none 0 0, .slice none 0 0, .slice none 0 0] : Array Value) = ZZ50 := rfl
theorem there_zz (W : World) (U : TypeId) : (W.alloc (.cells ZZ50 U)).there W.heap.size 0 50 := there_start W U
theorem there_zv (W : World) (U : TypeId) (vs : Nat → Value) : (W.alloc (.cells ZZ50 U)).there W.heap.size 0 (arrV vs).toArray.size := by
  have e : (arrV vs).toArray.size = 50 := by rw [List.size_toArray]; exact arrV_len vs
  rw [e]; exact there_zz W U
/-- the world behind the storing of an array of slices into a variable of its own -/
def boxW (W : World) (U : TypeId) (vs : Nat → Value) : World := (W.alloc (.cells ZZ50 U)).setCells W.heap.size 0 (arrV vs)
theorem boxW_below (W : World) (U : TypeId) (vs : Nat → Value) : Below W.heap.size W (boxW W U vs) := belSets (Nat.le_refl _) _ _ _ ((Below.refl _ _).alloc (Nat.le_refl _) _)
theorem boxW_size (W : World) (U : TypeId) (vs : Nat → Value) : W.heap.size < (boxW W U vs).heap.size :=
  Nat.lt_of_lt_of_le (by rw [World.size_alloc]; omega) (gSets W.heap.size (arrV vs) 0 (W.alloc (.cells ZZ50 U))).size
theorem boxW_cell (W : World) (U : TypeId) (vs : Nat → Value) {i : Nat} (hi : i < 50) : (boxW W U vs).cell? ⟨W.heap.size, i, none⟩ = some (vs i) := by
  have h := World.rangeAt_setCells_same (W.alloc (.cells ZZ50 U)) W.heap.size 0 (arrV vs) (by rw [arrV_len]; exact there_zz W U) i _ (arrV_at vs hi)
  rwa [Nat.zero_add] at h
theorem arr_inf (vs : Nat → Value) : (Try.prog.info? 76).map (·.size) = some (arrV vs).toArray.size := by rw [List.size_toArray, arrV_len]; exact arr_info
set_option maxRecDepth 100000 in
set_option maxHeartbeats 1000000 in
theorem iCnts_any (e p : Int) (a : Option Addr) (n c : Nat) (xs : List Pt) (b : Int) (w : World) (h : PtL w a n xs) (hn : n ≤ 1048576) (_hc : n ≤ c) :
    Calls Try.prog 28 #[.agg #[.int .i64 e, .int .i64 p], .slice a n c, .int .i64 b] w fun x w' => IntRes w.heap.size (pcL e p xs b) (.int .i64 (pcC e p xs b)) w' x ∧ Below w.heap.size w w' := by
  have hbx := PtC.fresh w 44 e p
  have B1 : Below w.heap.size w (w.alloc (.cells #[.int .i64 e, .int .i64 p] 44)) := (Below.refl _ w).alloc (Nat.le_refl _) _
  by_cases hz : pcC e p xs b = 0
  rotate_left
  · have HD := Lib.hid (pc_not hz)
    obtain ⟨cc, hcc⟩ : ∃ cc, pcC e p xs b = cc := ⟨_, rfl⟩
    rw [hcc] at hz
    have HC := Lib.hid hcc
    have hzd : (cc != 0) = true := by simpa using hz
    clear hz hcc
    go_enter Try.func28, Try.ntmps28
    go_wp2_with fail
    refine (checkB_any e p b a n c xs _ (h.mono B1) hn).mono ?_
    rintro x w2 ⟨rfl, b2⟩
    rw [HC.out]
    go_wp2
    go_ret2
    exact ⟨by rw [HD.out.1, HC.out]; exact IntRes.nil _ _ _, belowCall B1 b2⟩
  have HC := Lib.hid hz
  obtain ⟨hboth, hb⟩ := pcC_parts hz
  have HD := Lib.hid (pc_0 hboth hb).2
  rw [Bool.and_eq_true] at hboth
  obtain ⟨he, hok⟩ := hboth
  obtain ⟨⟨h1, h2⟩, h3, h4⟩ := ephB_iff.1 he
  obtain ⟨hb1, hb2⟩ := inB_iff.1 hb
  obtain ⟨h100, -, -⟩ := okP_num h.1 hok
  have HBD := Lib.hid (okP_bd h.1 hok)
  have HXL := Lib.hid h.1
  obtain ⟨B, rfl⟩ : ∃ B : Nat, b = (B : Int) := ⟨b.toNat, by omega⟩
  obtain ⟨i0, hi, hz0, hz1, hz2⟩ := info_parts A_info
  have hB0 : 1 ≤ B := by omega
  have hB50 : B ≤ 50 := by omega
  clear hz hb he hok
  go_enter Try.func28, Try.ntmps28
  go_wp2_with fail
  refine (checkB_any e p B a n c xs _ (h.mono B1) hn).mono ?_
  rintro x w2 ⟨rfl, b2⟩
  rw [HC.out]
  have B2 := belowCall B1 b2
  obtain ⟨hlt, k0, k1⟩ := (hbx.mono b2).parts
  rw [Nat.zero_add] at k1
  go_wp2_with fail
  refine (pbb_any e p B a n c xs _ (h.mono B2) h100 h1 h2 h3 h4 hb1 hb2 HBD.out).mono ?_
  rintro x w3 ⟨vs, rfl, hform, b3⟩
  have B3 := belowCall B2 b3
  have HFO := Lib.hid hform
  have HONE : Hid ((arrV vs).toArray.all (·.oneCell') = true) := Lib.hid (all_oneCell_toArray fun v hv => by
    simp only [arrV, List.mem_map, List.mem_range] at hv
    obtain ⟨i, hi, rfl⟩ := hv
    obtain ⟨a, c, e, _⟩ := HFO.out i hi
    rw [e]; rfl)
  have hTH := there_zv w3 76 vs
  have hinf' := arr_inf vs
  have b4 := boxW_below w3 76 vs
  have hs4 := boxW_size w3 76 vs
  have HCELL := Lib.hid (fun i hi => boxW_cell w3 76 vs (i := i) hi)
  have HTH := Lib.hid hTH
  have HINF := Lib.hid hinf'
  clear hform k0 k1 hTH hinf'
  have HCL : Hid (((List.range B).map fun i : Nat => (cntB e p B xs i : Int)).length = B) := Lib.hid (by simp)
  have HCA : Hid (∀ k, k < B → ((List.range B).map fun i : Nat => (cntB e p B xs i : Int))[k]?.getD 0 = ((ptsIn e p B xs n k).length : Int)) := Lib.hid (fun k hk => by
    rw [List.getElem?_map, List.getElem?_range hk]
    show (cntB e p B xs k : Int) = _
    rw [cntB, HXL.out])
  have HDD : Hid (pcL e p xs (B : Int) = (List.range B).map fun i : Nat => (cntB e p B xs i : Int)) := Lib.hid (by rw [HD.out, Int.toNat_natCast])
  generalize ((List.range B).map fun i : Nat => (cntB e p B xs i : Int)) = CS at HCL HCA HDD
  clear HD
  go_wp2_with (first | ((with_reducible (show wpList _ _ _ ({ dst := _, op := Op.store _ _ _, type := _, pos := _, after := _, guard := _ } :: _) _ _)); refine wpList_store_mid rfl 76 _ _ rfl w3.heap.size 0 (arrV vs).toArray rfl rfl HTH.out HINF.out HONE.out ?_; change wpList _ _ _ _ _ (boxW w3 76 vs); generalize boxW w3 76 vs = w4 at b4 hs4 HCELL ⊢) | (at_make; refine wpList_make_full _ rfl _ _ 51 rfl w4.heap.size 2 i0 (.int .i64 0) 1 Try.underlying51 hi hz0 hz1 .i64 .i64 B B B rfl rfl rfl rfl (by rw [hz2]; omega) (by unfold maxLen; omega) (Nat.le_refl _) ?_; intro w5 hown hgrow))
  rw [cop_zero CS] at hown
  have B4 := belowCall B3 b4
  have b5 : Below w4.heap.size w4 w5 := (Below.refl _ _).grown hgrow (Nat.le_refl _) (fun k hk => by cases hk)
  have hB5z : (B : Int) ≤ 50 := by omega
  clear hgrow
  go_loopw [28] (fun i wr => ∃ k : Nat, k ≤ B ∧ i = .int .i64 k ∧ wr.ownsRow w4.heap.size 2 1 (.slice (some ⟨w4.heap.size, 0, none⟩) B B) B (cop CS k B) ∧ Below w4.heap.size w4 wr) (fun i _ => B - (Go.RowKit.intOf i).toNat)
  case atStart => exact ⟨0, Nat.zero_le _, rfl, hown, b5⟩
  case round =>
    obtain ⟨k, hk, rfl, hownr, hB⟩ := hrel
    clear hown
    by_cases hltk : k < B
    · obtain ⟨ak, ck, hvk, hck, -⟩ := HFO.out k (by omega)
      have hcell := HCELL.out k (by omega)
      rw [hvk] at hcell
      obtain ⟨L, hL⟩ : ∃ L, (ptsIn e p B xs n k).length = L := ⟨_, rfl⟩
      have hca := HCA.out k hltk
      rw [hL] at hcell hca
      have hcw : wr.cell? ⟨w3.heap.size, k, none⟩ = some (.slice ak L ck) := (hB.cell (p := ⟨w3.heap.size, k, none⟩) hs4).trans hcell
      have hfz := hownr.frozenAt k
      have hco : wr.cell? ⟨w4.heap.size, k, none⟩ = some (.int .i64 0) := by rw [hownr.cellAt k (by omega)]; exact cop_at CS k B hltk HCL.out
      obtain ⟨hs1, hs2⟩ := hownr.stored k (.int .i64 (L : Int))
      have HS1 : Hid ((wr.setCell ⟨w4.heap.size, k, none⟩ (.int .i64 (L : Int))).ownsRow w4.heap.size 2 1 (.slice (some ⟨w4.heap.size, 0, none⟩) B B) B (cop CS (k + 1) B)) := Lib.hid (by rw [← cop_set CS k B hltk HCL.out, hca]; exact hs1)
      have HB2 := Lib.hid (hB.grown hs2 hB.size (fun j hj => by cases hj; exact Nat.le_refl _))
      have hkz : (k : Int) < (B : Int) := by omega
      have hk50 : (k : Int) < 50 := by omega
      clear hvk hcell hca hs1 hs2 hL hownr
      go_wp2
      go_roundw
      case rel => exact ⟨k + 1, by omega, by go_num, HS1.out, HB2.out⟩
      case measure => simp [Go.RowKit.intOf]; omega
    · obtain rfl : k = B := by omega
      rw [cop_full CS k HCL.out] at hownr
      have HO := Lib.hid hownr
      clear hownr
      go_wp2
      go_ret2
      exact ⟨by rw [HDD.out, HC.out]; exact IntRes.own (ownLow HO.out B4.size) HCL.out, belowCall B4 hB⟩
end Go.Proofs.Ytidiiladlmaigaa
