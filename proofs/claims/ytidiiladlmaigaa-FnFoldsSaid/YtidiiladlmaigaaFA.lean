/- PhaseMeans, the program's. -/
import Derived.Test.YtidiiladlmaigaaF9
namespace Go.Proofs.Ytidiiladlmaigaa
open Go.ChangeShapes Go.WideShapes Go.ChangeAt Go.RowKit Go.Deep

theorem arr_index (vs : Nat → Value) {i : Nat} (hi : i < 50) (W : World) : (Instr.index 76 (.agg (arrV vs).toArray) (.int .i64 (i : Int))).run Try.prog W = .ok (vs i) W := by
  have hu := Try.underlying76
  have hz : (sizeOf 34).run Try.prog W = .ok 1 W := Try.sizeOf34 W
  simp [Instr.index, run_underlying hu, asIntOf, hz, go_sem]
  rw [if_pos hi, arrV_at vs hi]
  rfl
theorem mnB_mean (e p b : Int) (xs : List Pt) (i : Nat) : mnB e p b xs i = ((i : Int), rnd (sumV [false] (ptsIn e p b xs xs.length i) (cntB e p b xs i)) (cntB e p b xs i)) := by
  rw [sumV_mag]; rfl
theorem ptsIn_bd {e p b : Int} {xs : List Pt} {n : Nat} (hn : xs.length = n) (h : ∀ k, k < n → bdP (xs[k]?.getD pt0)) (k i : Nat) : ∀ j, j < (ptsIn e p b xs k i).length → bdP ((ptsIn e p b xs k i)[j]?.getD pt0) := fun j hj => by
  rw [List.getElem?_eq_getElem hj, Option.getD_some]
  have hm := (List.mem_filter.1 (List.getElem_mem (l := ptsIn e p b xs k i) hj)).1
  have hm2 := List.mem_of_mem_take hm
  obtain ⟨t, ht, he⟩ := List.getElem_of_mem hm2
  have := h t (by omega)
  rw [List.getElem?_eq_getElem ht, Option.getD_some, he] at this
  exact this
set_option maxRecDepth 100000 in
set_option maxHeartbeats 1000000 in
theorem iMeans_any (e p : Int) (a : Option Addr) (n c : Nat) (xs : List Pt) (b : Int) (w : World) (h : PtL w a n xs) (hn : n ≤ 1048576) (_hc : n ≤ c) :
    Calls Try.prog 20 #[.agg #[.int .i64 e, .int .i64 p], .slice a n c, .int .i64 b] w fun x w' => PtRes w.heap.size (pmL e p xs b) (.int .i64 (pcC e p xs b)) w' x ∧ Below w.heap.size w w' := by
  have hbx := PtC.fresh w 44 e p
  have B1 : Below w.heap.size w (w.alloc (.cells #[.int .i64 e, .int .i64 p] 44)) := (Below.refl _ w).alloc (Nat.le_refl _) _
  by_cases hz : pcC e p xs b = 0
  rotate_left
  · have HD := Lib.hid (pc_not hz)
    obtain ⟨cc, hcc⟩ : ∃ cc, pcC e p xs b = cc := ⟨_, rfl⟩
    rw [hcc] at hz
    have HC := Lib.hid hcc
    have hzd : (cc != 0) = true := by simpa using hz
    clear hz hcc
    go_enter Try.func20, Try.ntmps20
    go_wp2_with fail
    refine (checkB_any e p b a n c xs _ (h.mono B1) hn).mono ?_
    rintro x w2 ⟨rfl, b2⟩
    rw [HC.out]
    go_wp2
    go_ret2
    exact ⟨by rw [HD.out.2, HC.out]; exact PtRes.nil _ _ _, belowCall B1 b2⟩
  have HC := Lib.hid hz
  obtain ⟨hboth, hb⟩ := pcC_parts hz
  have HD := Lib.hid (pm_0 hboth hb)
  rw [Bool.and_eq_true] at hboth
  obtain ⟨he, hok⟩ := hboth
  obtain ⟨⟨h1, h2⟩, h3, h4⟩ := ephB_iff.1 he
  obtain ⟨hb1, hb2⟩ := inB_iff.1 hb
  obtain ⟨h100, -, -⟩ := okP_num h.1 hok
  have HBD := Lib.hid (okP_bd h.1 hok)
  have HXL := Lib.hid h.1
  obtain ⟨i0, hi, hz0, hz1, hz2⟩ := info_parts Pt_info
  have H50 : Hid (mnsB e p b xs 50 = mnsB e p b xs b.toNat) := Lib.hid (by
    have h9 := mnsB_more (e := e) (xs := xs) h3 hb1 (50 - b.toNat)
    rwa [show b.toNat + (50 - b.toNat) = 50 by omega] at h9)
  clear hz hb he hok
  go_enter Try.func20, Try.ntmps20
  go_wp2_with fail
  refine (checkB_any e p b a n c xs _ (h.mono B1) hn).mono ?_
  rintro x w2 ⟨rfl, b2⟩
  rw [HC.out]
  have B2 := belowCall B1 b2
  obtain ⟨hlt, k0, k1⟩ := (hbx.mono b2).parts
  rw [Nat.zero_add] at k1
  go_wp2_with fail
  refine (pbb_any e p b a n c xs _ (h.mono B2) h100 h1 h2 h3 h4 hb1 hb2 HBD.out).mono ?_
  rintro x w3 ⟨vs, rfl, hform, b3⟩
  have B3 := belowCall B2 b3
  have HFO := Lib.hid hform
  have HIX := Lib.hid (fun (i : Nat) (hi : i < 50) => arr_index vs hi)
  obtain ⟨V, hV⟩ : ∃ V, V = Value.agg (arrV vs).toArray := ⟨_, rfl⟩
  rw [← hV] at HIX ⊢
  clear hform k0 k1 hV
  go_wp2
  go_loopw [9, 24] (fun o i wr => ∃ k : Nat, k ≤ 50 ∧ i = .int .i64 k ∧ wr.ownsRow w3.heap.size 28 2 o (mnsB e p b xs k).length (flatPt (mnsB e p b xs k)) ∧ Below w3.heap.size w3 wr) (fun _ i _ => 50 - (Go.RowKit.intOf i).toNat)
  case atStart => exact ⟨0, by omega, rfl, World.ownsRow_nil _ _ _ _, Below.refl _ _⟩
  case round =>
    obtain ⟨k, hk, rfl, hown, hB⟩ := hrel
    have hsz := hB.size
    by_cases hltk : k < 50
    · obtain ⟨ak, ck, hvk, hck, hpk⟩ := HFO.out k hltk
      have hix := HIX.out k hltk
      rw [hvk] at hix
      have hcnt : cntB e p b xs k = (ptsIn e p b xs n k).length := by rw [cntB, HXL.out]
      have hY := mnsB_yes (e := e) (p := p) (b := b) (xs := xs) (k := k)
      have hN := mnsB_no (e := e) (p := p) (b := b) (xs := xs) (k := k)
      have hpb := ptsIn_bd (e := e) (p := p) (b := b) HXL.out HBD.out n k
      have hln := ptsIn_len e p b xs n k
      have hM := mnB_mean e p b xs k
      rw [hcnt] at hY hN hM
      rw [HXL.out] at hM
      obtain ⟨P, hP⟩ : ∃ P, ptsIn e p b xs n k = P := ⟨_, rfl⟩
      rw [hP] at hpk hix hpb hln hM hY hN
      obtain ⟨L, hL⟩ : ∃ L, P.length = L := ⟨_, rfl⟩
      rw [hL] at hpk hix hpb hln hM hY hN
      have HY := Lib.hid hY
      have HN := Lib.hid hN
      have HM := Lib.hid hM
      have hkz : (k : Int) < 50 := by omega
      have hll := mnsB_len e p b xs k
      clear hvk hcnt hY hN hM hP hL hck
      generalize hLk : mnsB e p b xs k = Q at hown hll HY HN
      clear hLk
      by_cases hL0 : 0 < L
      · have hL0z : (0 : Int) < (L : Int) := by omega
        obtain ⟨M, hMM⟩ : ∃ M, rnd (sumV [false] P L) L = M := ⟨_, rfl⟩
        have HMM := Lib.hid hMM
        have HS : Hid (mnsB e p b xs (k + 1) = Q ++ [((k : Int), M)]) := Lib.hid (by rw [HY.out hL0, HM.out, hMM])
        clear hMM
        go_wp2_with fail
        refine (meanOf_any ak L ck P false wr (hpk.mono hB) hL0 (by omega) hpb).mono ?_
        rintro x w5 ⟨rfl, b5⟩
        rw [HMM.out]
        have hown5 := ownKeepF hown b5
        have hB5 := hB.trans (b5.mono hsz)
        have hs5 := hB5.size
        clear hown
        go_wp2_with (at_builtin; refine wpList_append_own _ rfl _ _ 34 rfl w3.heap.size 28 i0 _ 2 16 Try.underlying34 hi hz0 hz1 hz2 rfl (by decide) _ _ _ rfl (hown5.alloc _) ⟨w5.heap.size, 0, none⟩ 1 1 [.int .i64 k, .int .i64 M] rfl rfl (cellsPt w5 _ _ _) (by intro u hu; simp at hu; rcases hu with rfl | rfl <;> rfl) (by unfold maxLen; omega) (by omega) (by simp; omega) ?_; intro v7 w7 hown7 hg7 hnil7; have hB7 : Below w3.heap.size w3 w7 := (show Below w3.heap.size w3 (w5.alloc (.cells #[.int .i64 k, .int .i64 M] 28)) from hB5.alloc (by omega) _).grown hg7 (by simp; omega) (fun j e => (hown5.lt j e).1); clear hg7 hnil7)
        have HO := Lib.hid hown7
        clear hown7 hown5
        go_roundw
        case rel => exact ⟨k + 1, by omega, by go_num, by rw [HS.out, flatPt_snoc, List.length_append]; exact HO.out, hB7⟩
        case measure => simp [Go.RowKit.intOf]; omega
      · have hL0z : ¬ (0 : Int) < (L : Int) := by omega
        have HS := Lib.hid (HN.out hL0)
        have HO := Lib.hid hown
        clear hown
        go_wp2
        go_roundw
        case rel => exact ⟨k + 1, by omega, by go_num, by rw [HS.out]; exact HO.out, hB⟩
        case measure => simp [Go.RowKit.intOf]; omega
    · obtain rfl : k = 50 := by omega
      have HO := Lib.hid hown
      have h50 : ((50 : Nat) : Int) = 50 := rfl
      clear hown
      go_wp2
      go_ret2
      exact ⟨by rw [HD.out, HC.out, ← H50.out]; exact PtRes.own (ownLow HO.out B3.size) rfl, belowCall B3 hB⟩
end Go.Proofs.Ytidiiladlmaigaa
