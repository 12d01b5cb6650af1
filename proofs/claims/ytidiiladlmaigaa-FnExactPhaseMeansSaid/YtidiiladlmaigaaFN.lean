/- l09Sums, PhaseCounts, the model's. -/
import Derived.Test.YtidiiladlmaigaaFM
namespace Go.Proofs.Ytidiiladlmaigaa
open Go.ChangeShapes Go.WideShapes Go.ChangeAt Go.RowKit Go.Deep

set_option maxRecDepth 100000 in
set_option maxHeartbeats 1000000 in
theorem sums_any (e p : Int) (a : Option Addr) (n c : Nat) (xs : List Pt) (B : Nat) (w : World) (h : PtL w a n xs) (h100 : n ≤ 100) (h1 : 0 ≤ e) (h2 : e ≤ 10000000) (h3 : 1 ≤ p) (h4 : p ≤ 1000000) (hB1 : 1 ≤ B) (hB50 : B ≤ 50) (hbd : ∀ k, k < n → bdP (xs[k]?.getD pt0)) :
    Calls Try.prog 43 #[.agg #[.int .i64 e, .int .i64 p], .slice a n c, .int .i64 (B : Int)] w fun x w' => ∃ g1 g2, x = .returned (.tuple #[.slice (some ⟨g1, 0, none⟩) B B, .slice (some ⟨g2, 0, none⟩) B B]) ∧ w'.ownsRow w.heap.size 2 1 (.slice (some ⟨g1, 0, none⟩) B B) B ((cntR e p B xs B n).map (Value.int .i64)) ∧ w'.ownsRow w.heap.size 2 1 (.slice (some ⟨g2, 0, none⟩) B B) B ((sumR e p B xs B n).map (Value.int .i64)) ∧ Below w.heap.size w w' := by
  obtain ⟨i0, hi, hz0, hz1, hz2⟩ := info_parts A_info
  have mixed : Try.prog.follows .mixedOrders = true := by kernel_rfl
  have hl : (n : Int) ≤ 100 := by omega
  have HX := Lib.hid h.1
  have HBD := Lib.hid hbd
  have hbx := PtC.fresh w 44 e p
  have BW : Below w.heap.size w (w.alloc (.cells #[.int .i64 e, .int .i64 p] 44)) := (Below.refl _ w).alloc (Nat.le_refl _) _
  have hBz : (B : Int) ≤ 50 := by omega
  have hB1z : 1 ≤ (B : Int) := by omega
  clear hbd
  go_enter Try.func43, Try.ntmps43
  go_wp2_with (first | (at_make; refine wpList_make_full _ rfl _ _ 51 rfl (w.alloc (.cells #[.int .i64 e, .int .i64 p] 44)).heap.size 2 i0 (.int .i64 0) 1 Try.underlying51 hi hz0 hz1 .i64 .i64 B B B rfl rfl rfl rfl (by rw [hz2]; omega) (by unfold maxLen; omega) (Nat.le_refl _) ?_; intro w1 hown1 hgrow1) | (at_make; refine wpList_make_full _ rfl _ _ 51 rfl w1.heap.size 2 i0 (.int .i64 0) 1 Try.underlying51 hi hz0 hz1 .i64 .i64 B B B rfl rfl rfl rfl (by rw [hz2]; omega) (by unfold maxLen; omega) (Nat.le_refl _) ?_; intro w2 hown2 hgrow2))
  have hv1 : (w.alloc (.cells #[.int .i64 e, .int .i64 p] 44)).heap.size = w.heap.size + 1 := by simp
  have b1 : Below (w.alloc (.cells #[.int .i64 e, .int .i64 p] 44)).heap.size (w.alloc (.cells #[.int .i64 e, .int .i64 p] 44)) w1 := (Below.refl _ _).grown hgrow1 (Nat.le_refl _) (fun k hk => by cases hk)
  have b2 : Below w1.heap.size w1 w2 := (Below.refl _ _).grown hgrow2 (Nat.le_refl _) (fun k hk => by cases hk)
  generalize w.alloc (.cells #[.int .i64 e, .int .i64 p] 44) = v at hbx BW hv1 b1 hown1 hgrow1
  rw [hv1] at hown1
  have zv := BW.size
  have z1 : w.heap.size + 1 < w1.heap.size := (hown1.lt _ rfl).2
  obtain ⟨G, hG⟩ : ∃ G, w1.heap.size = G := ⟨_, rfl⟩
  have B2 : Below w.heap.size w w2 := belowCall (belowCall BW b1) b2
  have z2 : w1.heap.size < w2.heap.size := (hown2.lt _ rfl).2
  have hbx2 := (hbx.mono b1).mono b2
  have hown1' := ownKeepF hown1 b2
  rw [range_zero B (fun i : Nat => ((ptsIn e p B xs 0 i).length : Int)) (fun i => by rw [ptsIn_zero]; rfl)] at hown1'
  rw [range_zero B (fun i : Nat => sumS (ptsIn e p B xs 0 i)) (fun i => by rw [ptsIn_zero]; rfl), hG] at hown2
  rw [hG] at z1 z2 ⊢
  clear hgrow1 hgrow2 hown1 b1 b2 hG
  go_loopw [10] (fun i wr => ∃ k : Nat, k ≤ n ∧ i = .int .i64 k ∧ Hid (wr.ownsRow (w.heap.size + 1) 2 1 (.slice (some ⟨w.heap.size + 1, 0, none⟩) B B) B ((cntR e p B xs B k).map (Value.int .i64))) ∧ Hid (wr.ownsRow G 2 1 (.slice (some ⟨G, 0, none⟩) B B) B ((sumR e p B xs B k).map (Value.int .i64))) ∧ Below (w.heap.size + 1) w2 wr) (fun i _ => n - (Go.RowKit.intOf i).toNat)
  case atStart => exact ⟨0, Nat.zero_le _, rfl, Lib.hid hown1', Lib.hid hown2, Below.refl _ _⟩
  case round =>
    obtain ⟨k, hk, rfl, HR1, HR2, hB⟩ := hrel
    clear hown1' hown2
    have hsz := hB.size
    by_cases hlt : k < n
    · obtain ⟨b1, o1, rfl, hc⟩ := h.2 k hlt
      have hkk : (k : Int) < (n : Int) := by omega
      have hbx' := HBD.out k hlt
      obtain ⟨⟨x0, x1⟩, hx⟩ : ∃ x, xs[k]?.getD pt0 = x := ⟨_, rfl⟩
      rw [hx] at hc hbx'
      unfold bdP at hbx'
      have hbw := hc.1
      obtain ⟨-, p0, p1⟩ := ((hc.mono B2).of_block hsz (hB.block b1 (by omega))).parts
      obtain ⟨hlw, e0, e1⟩ := (hbx2.of_block hsz (hB.block w.heap.size (by omega))).parts
      rw [Nat.zero_add] at e1
      have hbn := bnN_is (e := e) (t := x0) h3 hB1z
      have hbl := bnN_lt (e := e) (t := x0) h3 hB1z
      obtain ⟨q, hq⟩ : ∃ q, bnN e p B x0 = q := ⟨_, rfl⟩
      rw [hq] at hbn hbl
      have HQ := Lib.hid hq
      have HXX := Lib.hid hx
      have hqB : q < B := by omega
      have hph := bnI_big (e := e) (t := x0) h3 h4 hB1z (by omega)
      have hqd := tdiv_bd ((B : Int) * phs e p x0) p 1000000000 (by omega) (by omega)
      have hne : ¬ p = 0 := by omega
      have HPH : ∀ W, Calls Try.prog 54 #[.agg #[.int .i64 e, .int .i64 p], .int .i64 x0] W fun x w' => x = .returned (.int .i64 (phs e p x0)) ∧ Below W.heap.size W w' := fun W => sPhs_any e p x0 W h1 h2 h3 h4 hbx'.1 (by omega)
      have HBN : Hid (((B : Int) * phs e p x0).tdiv p = (q : Int)) := Lib.hid hbn
      obtain ⟨f, hf⟩ : ∃ f, phs e p x0 = f := ⟨_, rfl⟩
      rw [hf] at hph hqd HPH HBN
      replace HBN : Hid (IntKind.i64.wrap ((IntKind.i64.wrap ((B : Int) * f)).tdiv p) = (q : Int)) := Lib.hid (by rw [IntWalk.i64_in ((B : Int) * f) (by omega), IntWalk.i64_in _ (by omega)]; exact HBN.out)
      clear hc hx hbn hq hf
      have hbr : b1 < wr.heap.size := by omega
      go_wp2_with fail
      go_region_held3 (fun W' => W'.cell? ⟨w.heap.size, 0, none⟩ = some (.int .i64 e) ∧ W'.cell? ⟨w.heap.size, 1, none⟩ = some (.int .i64 p) ∧ W'.cell? ⟨b1, o1 + k * 2, none⟩ = some (.int .i64 x0)) (refine ⟨?_, ?_, ?_⟩ <;> first | assumption | exact ((show Below wr.heap.size wr _ by (repeat (first | assumption | exact Below.refl _ _ | refine belowDN ?_ _ | refine Below.drew ?_ | refine Below.setCell ?_ (by first | omega | (simp <;> omega)) _ | refine Below.alloc ?_ (by first | omega | (simp <;> omega)) _ | refine belowCall ?_ (by assumption)))).cell (p := ⟨w.heap.size, 0, none⟩) hlw).trans e0 | exact ((show Below wr.heap.size wr _ by (repeat (first | assumption | exact Below.refl _ _ | refine belowDN ?_ _ | refine Below.drew ?_ | refine Below.setCell ?_ (by first | omega | (simp <;> omega)) _ | refine Below.alloc ?_ (by first | omega | (simp <;> omega)) _ | refine belowCall ?_ (by assumption)))).cell (p := ⟨w.heap.size, 1, none⟩) hlw).trans e1 | exact ((show Below wr.heap.size wr _ by (repeat (first | assumption | exact Below.refl _ _ | refine belowDN ?_ _ | refine Below.drew ?_ | refine Below.setCell ?_ (by first | omega | (simp <;> omega)) _ | refine Below.alloc ?_ (by first | omega | (simp <;> omega)) _ | refine belowCall ?_ (by assumption)))).cell (p := ⟨b1, o1 + k * 2, none⟩) hbr).trans p0) (first | (go_at_call 54; refine (HPH _).mono ?_; rintro x wA ⟨rfl, bA⟩))
      rw [HBN.out]
      have D : Below wr.heap.size wr wA := belowCall (Below.drew (Below.refl _ _)) bA
      have hrow1 := ownKeepF HR1.out D
      have hrow2 := ownKeepF HR2.out D
      have hl1 := ptsIn_len e p (B : Int) xs k q
      have hsb := sumS_bd (ptsIn e p (B : Int) xs k q) (fun y hy => by
        have hm := List.mem_of_mem_take (List.mem_filter.1 hy).1
        obtain ⟨t, ht, he⟩ := List.getElem_of_mem hm
        have h9 := HBD.out t (by have := HX.out; omega)
        rw [List.getElem?_eq_getElem ht, Option.getD_some, he] at h9
        exact h9.2.2)
      have HC1 := Lib.hid (cntR_set (B := B) (by have := HX.out; omega) HXX.out HQ.out)
      have HC2 := Lib.hid (sumR_set (B := B) (by have := HX.out; omega) HXX.out HQ.out)
      have c1 : wA.cell? ⟨w.heap.size + 1, q, none⟩ = some (.int .i64 ((ptsIn e p B xs k q).length : Int)) := by rw [hrow1.cellAt q (by omega)]; exact cntR_at hqB
      have c2 : wA.cell? ⟨G, q, none⟩ = some (.int .i64 (sumS (ptsIn e p B xs k q))) := by rw [hrow2.cellAt q (by omega)]; exact sumR_at hqB
      have f1 := hrow1.frozenAt q
      have f2 := hrow2.frozenAt q
      have m1 : wA.cell? ⟨b1, o1 + k * 2 + 1, none⟩ = some (.int .i64 x1) := (D.cell (p := ⟨b1, o1 + k * 2 + 1, none⟩) hbr).trans p1
      obtain ⟨hs1, hs2⟩ := hrow1.stored q (.int .i64 (((ptsIn e p (B : Int) xs k q).length : Int) + 1))
      rw [HC1.out] at hs1
      obtain ⟨L, hL⟩ : ∃ L, (ptsIn e p (B : Int) xs k q).length = L := ⟨_, rfl⟩
      obtain ⟨Sm, hSm⟩ : ∃ L, sumS (ptsIn e p (B : Int) xs k q) = L := ⟨_, rfl⟩
      rw [hL] at hl1 hsb c1 hs1 hs2
      rw [hSm] at hsb c2 HC2
      have hGne : w.heap.size + 1 ≠ G := by omega
      have hbne : w.heap.size + 1 ≠ b1 := by omega
      have hrow2' := hrow2.kept hs2 (.inr (fun e => by have e' : G = w.heap.size + 1 := Option.some.inj e; omega))
      have c2' : (wA.setCell ⟨w.heap.size + 1, q, none⟩ (.int .i64 ((L : Int) + 1))).cell? ⟨G, q, none⟩ = some (.int .i64 Sm) := (World.cell?_setCell_other _ _ _ _ (by intro e; simp only [Addr.mk.injEq] at e; omega)).trans c2
      have m1' : (wA.setCell ⟨w.heap.size + 1, q, none⟩ (.int .i64 ((L : Int) + 1))).cell? ⟨b1, o1 + k * 2 + 1, none⟩ = some (.int .i64 x1) := (World.cell?_setCell_other _ _ _ _ (by intro e; simp only [Addr.mk.injEq] at e; omega)).trans m1
      have f2' : (wA.setCell ⟨w.heap.size + 1, q, none⟩ (.int .i64 ((L : Int) + 1))).frozen? ⟨G, q, none⟩ = false := by rw [World.frozen?_setCell]; exact f2
      have D6 : Below (w.heap.size + 1) w2 (wA.setCell ⟨w.heap.size + 1, q, none⟩ (.int .i64 ((L : Int) + 1))) := Below.setCell (hB.trans (D.mono (by omega))) (Nat.le_refl _) _
      have HS1 := Lib.hid hs1
      have HR2' := Lib.hid hrow2'
      have hqz : (q : Int) < (B : Int) := by omega
      have hq0 : (0 : Int) ≤ (q : Int) := by omega
      clear hs1 hs2 hrow1 hrow2 hrow2' hL hSm HR1 HR2 c2 f2 m1
      go_wp2_with fail
      generalize wA.setCell ⟨w.heap.size + 1, q, none⟩ (.int .i64 ((L : Int) + 1)) = w6 at c2' m1' f2' D6 HS1 HR2' ⊢
      have wS : IntKind.i64.wrap (Sm + x1) = Sm + x1 := IntWalk.i64_in _ (by omega)
      go_big_region_o
      obtain ⟨hs3, hs4⟩ := HR2'.out.stored q (.int .i64 (Sm + x1))
      rw [HC2.out] at hs3
      have HE2 := Lib.hid (ownKeepF hs3 (Below.drew (Below.refl _ _)))
      have HE1 := Lib.hid (ownKeepF (HS1.out.kept hs4 (.inr (fun e => by have e' : w.heap.size + 1 = G := Option.some.inj e; omega))) (Below.drew (Below.refl _ _)))
      have hBE : Below (w.heap.size + 1) w2 (w6.setCell ⟨G, q, none⟩ (.int .i64 (Sm + x1))).drew := Below.drew (Below.setCell D6 (by show w.heap.size + 1 ≤ G; omega) _)
      clear hs3 hs4 D6
      generalize (w6.setCell ⟨G, q, none⟩ (.int .i64 (Sm + x1))).drew = w9 at HE1 HE2 hBE ⊢
      go_wp2
      go_roundw
      case rel => exact ⟨k + 1, by omega, by go_num, HE1, HE2, hBE⟩
      case measure => simp [Go.RowKit.intOf]; omega
    · obtain rfl : k = n := by omega
      go_wp2
      go_ret2
      exact ⟨_, _, rfl, ownLow HR1.out (by omega), ownLow HR2.out (by omega), B2.trans (hB.mono (by omega))⟩
theorem l09Bins_any (e p b : Int) (a : Option Addr) (n c : Nat) (xs : List Pt) (w : World) (h : PtL w a n xs) (hn : n ≤ 1048576) :
    Calls Try.prog 42 #[.agg #[.int .i64 e, .int .i64 p], .slice a n c, .int .i64 b] w fun x w' => x = .returned (.int .i64 (pcC e p xs b)) ∧ Below w.heap.size w w' := by
  have B1 : Below w.heap.size w (w.alloc (.cells #[.int .i64 e, .int .i64 p] 44)) := (Below.refl _ w).alloc (Nat.le_refl _) _
  cases he : ephB e p
  · have HD := Lib.hid (pc_1 (b := b) (xs := xs) (show (ephB e p && okP xs) = false by rw [he]; rfl)).1
    go_enter Try.func42, Try.ntmps42
    go_wp2_with fail
    refine (l09Ok_any e p _).mono ?_
    rintro x w2 ⟨rfl, b2⟩
    rw [he]
    go_wp2
    go_ret
    exact ⟨by rw [HD.out]; rfl, belowCall B1 b2⟩
  cases hok : okP xs
  · have HD := Lib.hid (pc_1 (b := b) (xs := xs) (show (ephB e p && okP xs) = false by rw [he, hok]; rfl)).1
    go_enter Try.func42, Try.ntmps42
    go_wp2_with fail
    refine (l09Ok_any e p _).mono ?_
    rintro x w2 ⟨rfl, b2⟩
    rw [he]
    have B2 := belowCall B1 b2
    go_wp2_with fail
    refine (l08Ok_below a n c xs w2 (h.mono B2) hn).mono ?_
    rintro x w3 ⟨rfl, b3⟩
    rw [hok]
    go_wp2
    go_ret
    exact ⟨by rw [HD.out]; rfl, belowCall B2 b3⟩
  have hboth : (ephB e p && okP xs) = true := by rw [he, hok]; rfl
  cases hb : binsB b
  · have HD := Lib.hid (pc_2 (e := e) (p := p) (xs := xs) hboth hb).1
    have hin : inB b 1 50 = false := hb
    go_enter Try.func42, Try.ntmps42
    go_wp2_with fail
    refine (l09Ok_any e p _).mono ?_
    rintro x w2 ⟨rfl, b2⟩
    rw [he]
    have B2 := belowCall B1 b2
    go_wp2_with fail
    refine (l08Ok_below a n c xs w2 (h.mono B2) hn).mono ?_
    rintro x w3 ⟨rfl, b3⟩
    rw [hok]
    go_wp2_with (go_at_call 36; refine (l00In_any _ _ _ _).mono ?_; rintro x w' ⟨rfl, rfl⟩; rw [hin])
    go_ret
    exact ⟨by rw [HD.out]; rfl, belowCall B2 b3⟩
  · have HD := Lib.hid (pc_0 (e := e) (p := p) (xs := xs) hboth hb).1
    have hin : inB b 1 50 = true := hb
    go_enter Try.func42, Try.ntmps42
    go_wp2_with fail
    refine (l09Ok_any e p _).mono ?_
    rintro x w2 ⟨rfl, b2⟩
    rw [he]
    have B2 := belowCall B1 b2
    go_wp2_with fail
    refine (l08Ok_below a n c xs w2 (h.mono B2) hn).mono ?_
    rintro x w3 ⟨rfl, b3⟩
    rw [hok]
    go_wp2_with (go_at_call 36; refine (l00In_any _ _ _ _).mono ?_; rintro x w' ⟨rfl, rfl⟩; rw [hin])
    go_ret
    exact ⟨by rw [HD.out]; rfl, belowCall B2 b3⟩
theorem okP_bdM {xs : List Pt} {n : Nat} (hn : xs.length = n) (h : okP xs = true) : ∀ k, k < n → bdP (xs[k]?.getD pt0) := (okP_num hn h).2.1
theorem pcC_partsM {e p b : Int} {xs : List Pt} (h : pcC e p xs b = 0) : (ephB e p && okP xs) = true ∧ binsB b = true := by
  unfold pcC at h
  cases h1 : (ephB e p && okP xs)
  · simp [h1] at h
  · cases h2 : binsB b
    · simp [h1, h2] at h
    · exact ⟨rfl, rfl⟩
theorem pc_notM {e p b : Int} {xs : List Pt} (h : pcC e p xs b ≠ 0) : pcL e p xs b = [] ∧ pmL e p xs b = [] := by
  simp [pcL, pmL, h]
set_option maxRecDepth 100000 in
set_option maxHeartbeats 1000000 in
theorem sMeans_any (e p : Int) (a : Option Addr) (n c : Nat) (xs : List Pt) (b : Int) (w : World) (h : PtL w a n xs) (hn : n ≤ 1048576) :
    Calls Try.prog 18 #[.agg #[.int .i64 e, .int .i64 p], .slice a n c, .int .i64 b] w fun x w' => PtRes w.heap.size (pmL e p xs b) (.int .i64 (pcC e p xs b)) w' x ∧ Below w.heap.size w w' := by
  (have hbx := PtC.fresh w 44 e p; have B1 : Below w.heap.size w (w.alloc (.cells #[.int .i64 e, .int .i64 p] 44)) := (Below.refl _ w).alloc (Nat.le_refl _) _)
  by_cases hz : pcC e p xs b = 0
  rotate_left
  · have HD := Lib.hid (pc_notM hz)
    obtain ⟨cc, hcc⟩ : ∃ cc, pcC e p xs b = cc := ⟨_, rfl⟩
    rw [hcc] at hz
    have HC := Lib.hid hcc
    have hzd : (cc != 0) = true := by simpa using hz
    clear hz hcc
    go_enter Try.func18, Try.ntmps18
    go_wp2_with fail
    refine (l09Bins_any e p b a n c xs _ (h.mono B1) hn).mono ?_
    rintro x w2 ⟨rfl, b2⟩
    rw [HC.out]
    go_wp2
    go_ret2
    exact ⟨by rw [HD.out.2, HC.out]; exact PtRes.nil _ _ _, belowCall B1 b2⟩
  have HC := Lib.hid hz
  obtain ⟨hboth, hb⟩ := pcC_partsM hz
  have HD := Lib.hid (pm_0 hboth hb)
  rw [Bool.and_eq_true] at hboth
  obtain ⟨he, hok⟩ := hboth
  obtain ⟨⟨h1, h2⟩, h3, h4⟩ := ephB_iff.1 he
  obtain ⟨hb1, hb2⟩ := inB_iff.1 hb
  obtain ⟨h100, -, -⟩ := okP_num h.1 hok
  have HBD := Lib.hid (okP_bdM h.1 hok)
  have HXL := Lib.hid h.1
  obtain ⟨B, rfl⟩ : ∃ B : Nat, b = (B : Int) := ⟨b.toNat, by omega⟩
  have HDD : Hid (pmL e p xs (B : Int) = mnsB e p B xs B) := Lib.hid (by rw [HD.out, Int.toNat_natCast])
  obtain ⟨i0, hi, hz0, hz1, hz2⟩ := info_parts Pt_info
  have hB50 : B ≤ 50 := by omega
  clear hz hb he hok
  go_enter Try.func18, Try.ntmps18
  go_wp2_with fail
  refine (l09Bins_any e p B a n c xs _ (h.mono B1) hn).mono ?_
  rintro x w2 ⟨rfl, b2⟩
  rw [HC.out]
  have B2 := belowCall B1 b2
  obtain ⟨hlt, k0, k1⟩ := (hbx.mono b2).parts
  rw [Nat.zero_add] at k1
  go_wp2_with fail
  refine (sums_any e p a n c xs B _ (h.mono B2) h100 h1 h2 h3 h4 (by omega) (by omega) HBD.out).mono ?_
  rintro x w3 ⟨g1, g2, rfl, hr1, hr2, b3⟩
  have B3 := belowCall B2 b3
  have HR1 := Lib.hid hr1
  have HR2 := Lib.hid hr2
  have hg1 := (hr1.lt _ rfl).2
  have hg2 := (hr2.lt _ rfl).2
  clear hr1 hr2 k0 k1
  go_wp2
  go_loopw [11, 12] (fun o i wr => ∃ k g c : Nat, k ≤ B ∧ i = .int .i64 k ∧ o = .slice (some ⟨g, 0, none⟩) (mnsB e p B xs k).length c ∧ wr.ownsRow w3.heap.size 28 2 (.slice (some ⟨g, 0, none⟩) (mnsB e p B xs k).length c) (mnsB e p B xs k).length (flatPt (mnsB e p B xs k)) ∧ Below w3.heap.size w3 wr) (fun _ i _ => B - (Go.RowKit.intOf i).toNat)
  case atStart => exact ⟨0, w3.heap.size, 0, by omega, rfl, rfl, World.ownsRow_lit w3 #[] 0 (Nat.le_refl _) (by unfold maxLen; omega) rfl, by (repeat (first | assumption | exact Below.refl _ _ | refine belowDN ?_ _ | refine Below.drew ?_ | refine Below.setCell ?_ (by first | omega | (simp <;> omega)) _ | refine Below.alloc ?_ (by first | omega | (simp <;> omega)) _ | refine belowCall ?_ (by assumption)))⟩
  case round =>
    obtain ⟨k, g, cg, hk, rfl, rfl, hown, hB⟩ := hrel
    have hsz := hB.size
    by_cases hltk : k < B
    · have hcnt : cntB e p B xs k = (ptsIn e p B xs n k).length := by rw [cntB, HXL.out]
      have hY := mnsB_yes (e := e) (p := p) (b := (B : Int)) (xs := xs) (k := k)
      have hN := mnsB_no (e := e) (p := p) (b := (B : Int)) (xs := xs) (k := k)
      have hln := ptsIn_len e p (B : Int) xs n k
      have hM := mnB_sum e p (B : Int) xs k
      rw [hcnt] at hY hN hM
      rw [HXL.out] at hM
      have hsb := sumS_bd (ptsIn e p (B : Int) xs n k) (fun y hy => by
        have hm := List.mem_of_mem_take (List.mem_filter.1 hy).1
        obtain ⟨t, ht, he⟩ := List.getElem_of_mem hm
        have h9 := HBD.out t (by have := HXL.out; omega)
        rw [List.getElem?_eq_getElem ht, Option.getD_some, he] at h9
        exact h9.2.2)
      have c1 : wr.cell? ⟨g1, k, none⟩ = some (.int .i64 ((ptsIn e p B xs n k).length : Int)) := by rw [hB.cell (p := ⟨g1, k, none⟩) hg1, HR1.out.cellAt k (by omega)]; exact cntR_at hltk
      have c2 : wr.cell? ⟨g2, k, none⟩ = some (.int .i64 (sumS (ptsIn e p B xs n k))) := by rw [hB.cell (p := ⟨g2, k, none⟩) hg2, HR2.out.cellAt k (by omega)]; exact sumR_at hltk
      obtain ⟨L, hL⟩ : ∃ L, (ptsIn e p (B : Int) xs n k).length = L := ⟨_, rfl⟩
      obtain ⟨Sm, hSm⟩ : ∃ L, sumS (ptsIn e p (B : Int) xs n k) = L := ⟨_, rfl⟩
      rw [hL] at hln hsb c1 hY hN hM
      rw [hSm] at hsb c2 hM
      have HY := Lib.hid hY
      have HN := Lib.hid hN
      have HM := Lib.hid hM
      have hkz : (k : Int) < (B : Int) := by omega
      have hk0 : (0 : Int) ≤ (k : Int) := by omega
      have hll := mnsB_len e p (B : Int) xs k
      have hgg := (hown.lt _ rfl).1
      have hgl := (hown.lt _ rfl).2
      clear hcnt hY hN hM hL hSm
      generalize hLk : mnsB e p B xs k = Q at hown hll HY HN
      clear hLk
      by_cases hL0 : 0 < L
      · have hL0z : (0 : Int) < (L : Int) := by omega
        obtain ⟨M, hMM⟩ : ∃ M, rnd Sm L = M := ⟨_, rfl⟩
        have HMM := Lib.hid hMM
        have HS : Hid (mnsB e p B xs (k + 1) = Q ++ [((k : Int), M)]) := Lib.hid (by rw [HY.out hL0, HM.out, hMM])
        have hRN : ∀ W, Calls Try.prog 37 #[.int .i64 Sm, .int .i64 (L : Int)] W fun e w' => e = .returned (.int .i64 M) ∧ W = w' := fun W => by rw [← hMM]; exact l02Round_any Sm L W (by omega) (by omega) (by omega) (by omega)
        have hownd : wr.drew.ownsRow w3.heap.size 28 2 (.slice (some ⟨g, 0, none⟩) Q.length cg) Q.length (flatPt Q) := ownKeepF hown (Below.drew (Below.refl _ _))
        clear hMM
        go_wp2_with fail
        go_region_held3 (fun W' => W'.cell? ⟨g1, k, none⟩ = some (.int .i64 (L : Int)) ∧ W'.cell? ⟨g2, k, none⟩ = some (.int .i64 Sm)) (refine ⟨?_, ?_⟩ <;> first | assumption | go_keep) (first | (go_at_call 37; refine (hRN _).mono ?_; rintro x w' ⟨rfl, rfl⟩) | (refine Go.step_append_lies _ rfl _ _ 34 rfl w3.heap.size 28 i0 _ 2 16 Try.underlying34 hi hz0 hz1 hz2 rfl (by decide) (.slice (some ⟨g, 0, none⟩) Q.length cg) Q.length (flatPt Q) rfl (hownd.alloc _) ⟨wr.heap.size, 0, none⟩ 1 1 [.int .i64 k, .int .i64 M] rfl rfl (cellsPt _ _ _ _) (by intro u hu; simp at hu; rcases hu with rfl | rfl <;> rfl) (by decide) (by unfold maxLen; omega) (by omega) (by simp; omega) _ rfl ?_; intro g7 c7 w7 hown7 hg7 hat7 hlt7; have hB7 : Below w3.heap.size w3 w7 := (show Below w3.heap.size w3 _ by (repeat (first | assumption | exact Below.refl _ _ | refine belowDN ?_ _ | refine Below.drew ?_ | refine Below.setCell ?_ (by first | omega | (simp <;> omega)) _ | refine Below.alloc ?_ (by first | omega | (simp <;> omega)) _ | refine belowCall ?_ (by assumption)))).grown hg7 (by simp; omega) (fun j e => by have hh : g = j := Option.some.inj e; omega); have s1 := hg7.cell (a := ⟨g1, k, none⟩) (v := .int .i64 (L : Int)) (by go_keep) (fun e => by have hh : g1 = g := Option.some.inj e; omega); have s2 := hg7.cell (a := ⟨g2, k, none⟩) (v := .int .i64 Sm) (by go_keep) (fun e => by have hh : g2 = g := Option.some.inj e; omega); have HOWN7 := Lib.hid hown7; clear hg7 hat7 hown7))
        all_goals
          have hN7 : Hid (w7.ownsRow w3.heap.size 28 2 (.slice (some ⟨g7, 0, none⟩) (Q ++ [((k : Int), M)]).length c7) (Q ++ [((k : Int), M)]).length (flatPt (Q ++ [((k : Int), M)]))) := Lib.hid (by rw [flatPt_snoc, List.length_append]; exact HOWN7.out)
          clear hown hownd HOWN7
          go_wp2
          go_roundw
          case rel => exact ⟨k + 1, g7, c7, by omega, by go_num, by rw [HS.out, List.length_append]; rfl, by rw [HS.out]; exact hN7.out, hB7⟩
          case measure => simp [Go.RowKit.intOf]; omega
      · have hL0z : ¬ (0 : Int) < (L : Int) := by omega
        have HS := Lib.hid (HN.out hL0)
        have HO := Lib.hid hown
        clear hown
        go_wp2
        go_roundw
        case rel => exact ⟨k + 1, g, cg, by omega, by go_num, by rw [HS.out], by rw [HS.out]; exact HO.out, hB⟩
        case measure => simp [Go.RowKit.intOf]; omega
    · obtain rfl : k = B := by omega
      have HO := Lib.hid hown
      clear hown
      go_wp2
      go_ret2
      exact ⟨by rw [HDD.out, HC.out]; exact PtRes.own (ownLow HO.out B3.size) rfl, belowCall B3 hB⟩
end Go.Proofs.Ytidiiladlmaigaa
