/- The program's binned. -/
import Derived.Test.YtidiiladlmaigaaJV
namespace Go.Proofs.Ytidiiladlmaigaa
open Go.ChangeShapes Go.WideShapes Go.ChangeAt Go.RowKit Go.Deep Go.Shelf

theorem binP_eq (wd : Int) (ys : List Pt) : binP wd ys = (rnd (sumV [true] (ys.take (grp wd ys)) (grp wd ys)) (grp wd ys), rnd (sumV [false] (ys.take (grp wd ys)) (grp wd ys)) (grp wd ys)) := by
  rw [sumV_time, sumV_mag, sT_take, sM_take]; rfl
theorem lenV_own {w : World} {b e s n : Nat} {v : Value} {xs : List Value} (h : w.ownsRow b e s v n xs) : lenV v = n := by
  rcases h.2 with ⟨rfl, h0⟩ | ⟨g, cap, cur, rfl, _⟩
  · exact h0.symm
  · rfl
theorem ownPut {w : World} {b e s n : Nat} {v : Value} {xs : List Value} (h : w.ownsRow (b + 1) e s v n xs) (o : Nat) (u : Value) : (w.setCell ⟨b, o, none⟩ u).ownsRow (b + 1) e s v n xs :=
  h.kept (gSet w ⟨b, o, none⟩ u) (by
    cases hv : v.ownBlock with
    | none => exact .inl rfl
    | some g => exact .inr (fun e => by cases e; have := (h.lt b hv).1; omega))
theorem PtL.cut {w : World} {b o n k c : Nat} {xs : List Pt} (h : PtL w (some ⟨b, o, none⟩) n xs) (hk : k ≤ n) (hc : n ≤ c) : PtL w (if c = k then some ⟨b, o, none⟩ else some ⟨b, o + k * 2, none⟩) (n - k) (xs.drop k) := by
  by_cases e : c = k
  · rw [if_pos e]
    exact ⟨by rw [List.length_drop, h.1], fun i hi => absurd hi (by omega)⟩
  · rw [if_neg e]; exact h.drop hk
set_option maxRecDepth 100000 in
set_option maxHeartbeats 4000000 in
theorem binned_any (a : Option Addr) (n c : Nat) (xs : List Pt) (wd : Int) (w : World) (h : PtL w a n xs) (hn : n ≤ 100) (hcap : n ≤ c) (hs : SB xs) (hw : 1 ≤ wd) (hw2 : wd ≤ 1000000) :
    Calls Try.prog 40 #[.slice a n c, .int .i64 wd] w fun e w' => ∃ v, e = .returned v ∧ w'.ownsRow w.heap.size 28 2 v (binsF wd xs).length (flatPt (binsF wd xs)) ∧ Below w.heap.size w w' := by
  obtain ⟨i0, hi, hz0, hz1, hz2⟩ := info_parts Pt_info
  have hl : (n : Int) ≤ 100 := by omega
  have HX := Lib.hid h.1
  go_enter Try.func40, Try.ntmps40
  go_wp2
  go_loopw [5] (fun o wr => ∃ (ys B : List Pt) (a1 : Option Addr) (c1 : Nat), binsF wd xs = B ++ binsF wd ys ∧ B.length + ys.length ≤ n ∧ ys.length ≤ c1 ∧ SB ys ∧ PtL w a1 ys.length ys ∧ wr.cell? ⟨w.heap.size, 0, none⟩ = some (.slice a1 ys.length c1) ∧ wr.frozen? ⟨w.heap.size, 0, none⟩ = false ∧ lenV o = B.length ∧ wr.ownsRow (w.heap.size + 1) 28 2 o B.length (flatPt B) ∧ Below w.heap.size w wr ∧ w.heap.size < wr.heap.size) (fun o _ => n - lenV o)
  case atStart => exact ⟨xs, [], a, c, by simp, by simp [HX.out], by rw [HX.out]; exact hcap, hs, by rw [HX.out]; exact h, by rw [HX.out]; go_keep, by go_keep, rfl, World.ownsRow_nil _ _ _ _, by (repeat (first | assumption | exact Below.refl _ _ | refine belowDN ?_ _ | refine Below.drew ?_ | refine Below.setCell ?_ (by first | omega | (simp <;> omega)) _ | refine Below.alloc ?_ (by first | omega | (simp <;> omega)) _ | refine belowCall ?_ (by assumption))), by simp⟩
  case round =>
    obtain ⟨ys, B, a1, c1, hbin, hlen, hc1, hsb, hy, hbox, hfz, hlo, hown, hB, hsz⟩ := hrel
    have HBI := Lib.hid hbin
    obtain ⟨L, hL⟩ : ∃ L, ys.length = L := ⟨_, rfl⟩
    rw [hL] at hlen hc1 hy hbox
    have HLY := Lib.hid hL
    clear hbin hL
    by_cases h0 : 0 < L
    · have hL0 : (0 : Int) < (L : Int) := by omega
      have hLn : (L : Int) ≤ 100 := by omega
      obtain ⟨b1, o1, rfl, hc⟩ := hy.2 0 h0
      have hG1 := grp_pos wd (xs := ys) (by rw [HLY.out]; exact h0)
      have hG2 := grp_le wd ys
      rw [HLY.out] at hG2
      obtain ⟨⟨t0, m0⟩, ht⟩ : ∃ x, ys[0]?.getD pt0 = x := ⟨_, rfl⟩
      have hb0 := hsb.1 0 (by rw [HLY.out]; exact h0)
      rw [ht] at hc hb0
      have ht0 : 0 ≤ t0 ∧ t0 ≤ 10000000 := ⟨hb0.1, hb0.2.1⟩
      have hq := tdiv_bd t0 wd 10000000 (by omega) (by omega)
      have hq0 : 0 ≤ t0.tdiv wd := Int.tdiv_nonneg (by omega) (by omega)
      have hp := absMul (a := t0.tdiv wd + 1) (b := wd) (A := 10000001) (B := 1000000) (by omega) (by omega) (by omega) (by omega)
      obtain ⟨-, p0, -⟩ := (hc.mono hB).parts
      simp only [Nat.zero_mul, Nat.add_zero] at p0
      have hne : ¬ wd = 0 := by omega
      have hyr := hy.mono hB
      have hEE' : (((ys[0]?.getD pt0).1.tdiv wd + 1) * wd) = (t0.tdiv wd + 1) * wd := by rw [ht]
      have HEE := Lib.hid hEE'
      clear hc ht hEE' hb0
      have hB1 : Below w.heap.size w (wr.alloc (.cells #[.int .i64 ((t0.tdiv wd + 1) * wd)] 2)) := hB.alloc (by omega) _
      have hbox1 : (wr.alloc (.cells #[.int .i64 ((t0.tdiv wd + 1) * wd)] 2)).cell? ⟨w.heap.size, 0, none⟩ = some (.slice (some ⟨b1, o1, none⟩) L c1) := by go_keep
      have hend1 : (wr.alloc (.cells #[.int .i64 ((t0.tdiv wd + 1) * wd)] 2)).cell? ⟨wr.heap.size, 0, none⟩ = some (.int .i64 ((t0.tdiv wd + 1) * wd)) := by go_keep
      have hown1 := hown.alloc (.cells #[.int .i64 ((t0.tdiv wd + 1) * wd)] 2)
      have hfz1 : (wr.alloc (.cells #[.int .i64 ((t0.tdiv wd + 1) * wd)] 2)).frozen? ⟨w.heap.size, 0, none⟩ = false := (((Below.refl wr.heap.size wr).alloc (Nat.le_refl _) _).frozen (p := ⟨w.heap.size, 0, none⟩) hsz).trans hfz
      have hz1' : (wr.alloc (.cells #[.int .i64 ((t0.tdiv wd + 1) * wd)] 2)).heap.size = wr.heap.size + 1 := by simp
      go_wp2_with fail
      refine (binSearch_any w.heap.size wr.heap.size b1 o1 L c1 wd ys _ (hy.mono hB1) h0 hw hsb (by omega) hbox1 (by rw [HEE.out]; exact hend1)).mono ?_
      generalize wr.alloc (.cells #[.int .i64 ((t0.tdiv wd + 1) * wd)] 2) = w1 at hB1 hbox1 hend1 hown1 hfz1 hz1' ⊢
      rintro e w3 ⟨rfl, b3⟩
      have hB3 := belowCall hB1 b3
      have hbox3 := (b3.cell (p := ⟨w.heap.size, 0, none⟩) (by show w.heap.size < _; omega)).trans hbox1
      have hfz3 := (b3.frozen (p := ⟨w.heap.size, 0, none⟩) (by show w.heap.size < _; omega)).trans hfz1
      have hown3 := ownKeepJ hown1 b3
      have hs3 := b3.size
      have hBD : Hid (∀ k, k < grp wd ys → bdP ((ys.take (grp wd ys))[k]?.getD pt0)) := Lib.hid fun k hk => by rw [take_at ys hk]; exact hsb.1 k (by rw [HLY.out]; omega)
      have HBP := Lib.hid (binP_eq wd ys)
      have HCO := Lib.hid (binsF_cons (wd := wd) (xs := ys) (by rw [HLY.out]; exact h0))
      obtain ⟨G, hG⟩ : ∃ G, grp wd ys = G := ⟨_, rfl⟩
      rw [hG] at hG1 hG2 hBD HBP HCO ⊢
      have hyG := hy.take hG2
      have hGn : (G : Int) ≤ 100 := by omega
      have hGL : (G : Int) ≤ (L : Int) := by omega
      have hGc : (G : Int) ≤ (c1 : Int) := by omega
      have hLc : (L : Int) ≤ (c1 : Int) := by omega
      clear hG hown hown1 hbox hbox1 hfz hfz1 hend1 p0
      go_wp2_with fail
      refine (meanG_any (some ⟨b1, o1, none⟩) G c1 (ys.take G) true _ rfl w3 (hyG.mono hB3) hG1 (by omega) hBD.out).mono ?_
      rintro e w4 ⟨rfl, b4⟩
      have hB4 := belowCall hB3 b4
      go_wp2_with fail
      refine (meanG_any (some ⟨b1, o1, none⟩) G c1 (ys.take G) false _ rfl w4 (hyG.mono hB4) hG1 (by omega) hBD.out).mono ?_
      rintro e w5 ⟨rfl, b5⟩
      have hB5 := belowCall hB4 b5
      have b45 := belowCall b4 b5
      have hbox5 := (b45.cell (p := ⟨w.heap.size, 0, none⟩) (by show w.heap.size < _; omega)).trans hbox3
      have hfz5 := (b45.frozen (p := ⟨w.heap.size, 0, none⟩) (by show w.heap.size < _; omega)).trans hfz3
      have hown5 := ownKeepJ hown3 b45
      have hs5 := b45.size
      obtain ⟨x0, hx0⟩ : ∃ v, rnd (sumV [true] (ys.take G) G) G = v := ⟨_, rfl⟩
      obtain ⟨x1, hx1⟩ : ∃ v, rnd (sumV [false] (ys.take G) G) G = v := ⟨_, rfl⟩
      rw [hx0, hx1] at HBP
      rw [hx0, hx1]
      have hBlen : B.length < n := by omega
      clear hx0 hx1 hown3 hbox3 hfz3
      go_wp2_with (at_builtin; refine wpList_append_own _ rfl _ _ 34 rfl (w.heap.size + 1) 28 i0 _ 2 16 Try.underlying34 hi hz0 hz1 hz2 rfl (by decide) _ _ _ rfl (hown5.alloc _) ⟨w5.heap.size, 0, none⟩ 1 1 [.int .i64 x0, .int .i64 x1] rfl rfl (cellsPt w5 _ _ _) (by intro u hu; simp at hu; rcases hu with rfl | rfl <;> rfl) (by unfold maxLen; omega) (by omega) (by simp; omega) ?_; intro v7 w7 hown7 hg7 hnil7; have hB7 : Below (w.heap.size + 1) w5 w7 := (show Below (w.heap.size + 1) w5 (w5.alloc (.cells #[.int .i64 x0, .int .i64 x1] 28)) from (Below.refl _ _).alloc (by omega) _).grown hg7 (by simp; omega) (fun j e => (hown5.lt j e).1); have hbox7 := (hB7.cell (p := ⟨w.heap.size, 0, none⟩) (by show w.heap.size < _; omega)).trans hbox5; have hfz7 := (hB7.frozen (p := ⟨w.heap.size, 0, none⟩) (by show w.heap.size < _; omega)).trans hfz5; clear hg7 hnil7)
      have hv7 := lenV_own hown7
      have HO := Lib.hid (ownPut hown7 0 (.slice (if c1 = G then some ⟨b1, o1, none⟩ else some ⟨b1, o1 + G * 2, none⟩) (L - G) (c1 - G)))
      have hBs : Below w.heap.size w (w7.setCell ⟨w.heap.size, 0, none⟩ (.slice (if c1 = G then some ⟨b1, o1, none⟩ else some ⟨b1, o1 + G * 2, none⟩) (L - G) (c1 - G))) := (hB5.trans (hB7.mono (by omega))).setCell (Nat.le_refl _) _
      have hs7 := hB7.size
      have hdl : (ys.drop G).length = L - G := by rw [List.length_drop, HLY.out]
      have HFB : Hid (flatPt (B ++ [(x0, x1)]) = flatPt B ++ [.int .i64 x0, .int .i64 x1]) := Lib.hid (flatPt_snoc B (x0, x1))
      have hbox8 : (w7.setCell ⟨w.heap.size, 0, none⟩ (.slice (if c1 = G then some ⟨b1, o1, none⟩ else some ⟨b1, o1 + G * 2, none⟩) (L - G) (c1 - G))).cell? ⟨w.heap.size, 0, none⟩ = some (.slice (if c1 = G then some ⟨b1, o1, none⟩ else some ⟨b1, o1 + G * 2, none⟩) (L - G) (c1 - G)) := scS hbox7
      go_roundw
      case rel => exact ⟨ys.drop G, B ++ [(x0, x1)], _, c1 - G, by rw [HBI.out, HCO.out, HBP.out, List.append_assoc]; rfl, by rw [List.length_append, List.length_singleton, hdl]; omega, by rw [hdl]; omega, hsb.drop G, by rw [hdl]; exact hy.cut hG2 hc1, by rw [hdl]; exact hbox8, by rw [World.frozen?_setCell]; exact hfz7, by rw [hv7, List.length_append]; rfl, by rw [HFB.out, List.length_append]; exact HO.out, hBs, by simp; omega⟩
      case measure =>
        rw [hv7, hlo]
        omega
    · obtain rfl : L = 0 := by omega
      have HE := Lib.hid (binsF_nil (wd := wd) HLY.out)
      go_wp2
      go_ret
      exact ⟨_, rfl, by rw [HBI.out, HE.out, List.append_nil]; exact ownLow hown (by omega), hB⟩
def widB (wd : Int) : Bool := inB wd 1 1000000
def biC (xs : List Pt) (wd : Int) : Int := if okP xs then (if widB wd then 0 else 2) else 1
def biL (xs : List Pt) (wd : Int) : List Pt := if biC xs wd = 0 then binsF wd xs else []
theorem bi_1 {xs : List Pt} {wd : Int} (h : okP xs = false) : biC xs wd = 1 ∧ biL xs wd = [] := by simp [biL, biC, h]
theorem bi_2 {xs : List Pt} {wd : Int} (h : okP xs = true) (h2 : widB wd = false) : biC xs wd = 2 ∧ biL xs wd = [] := by simp [biL, biC, h, h2]
theorem bi_0 {xs : List Pt} {wd : Int} (h : okP xs = true) (h2 : widB wd = true) : biC xs wd = 0 ∧ biL xs wd = binsF wd xs := by simp [biL, biC, h, h2]
theorem biL_len {xs : List Pt} {wd : Int} {n : Nat} (h : xs.length ≤ n) : (biL xs wd).length ≤ n := by
  unfold biL
  split
  · have := binsF_len wd _ xs (Nat.le_refl _); omega
  · simp
set_option maxHeartbeats 1000000 in
theorem iBin_any (a : Option Addr) (n c : Nat) (xs : List Pt) (wd : Int) (w : World) (h : PtL w a n xs) (hn : n ≤ 1048576) (hcap : n ≤ c) :
    Calls Try.prog 14 #[.slice a n c, .int .i64 wd] w fun e w' => PtRes w.heap.size (biL xs wd) (.int .i64 (biC xs wd)) w' e ∧ Below w.heap.size w w' := by
  cases hok : okP xs
  · have HC := Lib.hid (bi_1 (wd := wd) hok)
    go_enter Try.func14, Try.ntmps14
    go_wp2_with fail
    refine (iValidCv_any a n c xs w h hn).mono ?_
    rintro e w2 ⟨rfl, b2⟩
    rw [hok]
    go_wp2
    go_ret2
    exact ⟨by rw [HC.out.1, HC.out.2]; exact PtRes.nil _ _ _, b2⟩
  cases hwb : widB wd
  · have HC := Lib.hid (bi_2 hok hwb)
    have hin : inB wd 1 1000000 = false := hwb
    go_enter Try.func14, Try.ntmps14
    go_wp2_with fail
    refine (iValidCv_any a n c xs w h hn).mono ?_
    rintro e w2 ⟨rfl, b2⟩
    rw [hok]
    go_wp2_with (go_at_call 39; refine (inRange_any _ _ _ _).mono ?_; rintro e w' ⟨rfl, rfl⟩; rw [hin])
    go_ret2
    exact ⟨by rw [HC.out.1, HC.out.2]; exact PtRes.nil _ _ _, b2⟩
  have HC := Lib.hid (bi_0 hok hwb)
  have hin : inB wd 1 1000000 = true := hwb
  obtain ⟨hw1, hw2⟩ := inB_iff.1 hin
  obtain ⟨h100, -, -⟩ := okP_num h.1 hok
  have hsb := SB.of_ok hok
  go_enter Try.func14, Try.ntmps14
  go_wp2_with fail
  refine (iValidCv_any a n c xs w h hn).mono ?_
  rintro e w2 ⟨rfl, b2⟩
  rw [hok]
  go_wp2_with (go_at_call 39; refine (inRange_any _ _ _ _).mono ?_; rintro e w' ⟨rfl, rfl⟩; rw [hin])
  refine (binned_any a n c xs wd w2 (h.mono b2) h100 hcap hsb hw1 hw2).mono ?_
  rintro e w3 ⟨v, rfl, hown, b3⟩
  go_wp2
  go_ret2
  exact ⟨by rw [HC.out.1, HC.out.2]; exact PtRes.own (ownLow hown b2.size) rfl, belowCall b2 b3⟩
end Go.Proofs.Ytidiiladlmaigaa
