/- SmoothCurve and OutliersOf, the program's. -/
import Derived.Test.YtiogffjhhhpolaaJ6
import Derived.Test.YtiogffjhhhpolaaH7R
namespace Go.Proofs.Ytiogffjhhhpolaa
open Go.ChangeShapes Go.WideShapes Go.ChangeAt Go.RowKit Go.Deep

/-- the points, the first k with their medians -/
def smk (xs : List Pt) (s k : Nat) : List Pt := (List.range xs.length).map fun i => ((xs[i]?.getD pt0).1, if i < k then rmed xs s i else (xs[i]?.getD pt0).2)
theorem smk_len (xs : List Pt) (s k : Nat) : (smk xs s k).length = xs.length := by simp [smk]
theorem smk_zero (xs : List Pt) (s : Nat) : smk xs s 0 = xs := by
  refine List.ext_getElem (by rw [smk_len]) fun i h1 h2 => ?_
  simp [smk, List.getElem?_eq_getElem h2]
theorem smk_full {xs : List Pt} {n : Nat} (hn : xs.length = n) (s : Nat) : smk xs s n = smP xs s n := by
  refine List.ext_getElem (by rw [smk_len, smP_len, hn]) fun i h1 h2 => ?_
  rw [smP_len] at h2
  simp [smk, smP, h2]
theorem smk_set {xs : List Pt} {k : Nat} (s : Nat) : (smk xs s k).set k ((xs[k]?.getD pt0).1, rmed xs s k) = smk xs s (k + 1) := by
  refine List.ext_getElem (by rw [List.length_set, smk_len, smk_len]) fun i h1 h2 => ?_
  rw [List.getElem_set]
  by_cases e : k = i
  · subst e
    rw [if_pos rfl]
    simp [smk]
  · rw [if_neg e]
    simp only [smk, List.getElem_map, List.getElem_range]
    by_cases hl : i < k
    · rw [if_pos hl, if_pos (by omega)]
    · rw [if_neg hl, if_neg (by omega)]
theorem smk_at {xs : List Pt} {n k : Nat} (hn : xs.length = n) (hk : k < n) (s j : Nat) : ((smk xs s j)[k]?.getD pt0).1 = (xs[k]?.getD pt0).1 := by
  rw [smk, List.getElem?_map, List.getElem?_range (by omega)]
  rfl
theorem flatPt_set : ∀ (L : List Pt) (k : Nat) (m : Int), k < L.length → (flatPt L).set (k * 2 + 1) (.int .i64 m) = flatPt (L.set k ((L[k]?.getD pt0).1, m))
  | [], _, _, h => absurd h (by simp)
  | x :: L, 0, m, _ => by simp [flatPt, fldPt]
  | x :: L, k + 1, m, h => by
    have ih := flatPt_set L k m (by simpa using h)
    rw [show (k + 1) * 2 + 1 = (k * 2 + 1) + 2 by omega]
    simpa [flatPt] using ih
theorem smk_put {xs : List Pt} {n k : Nat} (hn : xs.length = n) (hk : k < n) (s : Nat) : (flatPt (smk xs s k)).set (k * 2 + 1) (.int .i64 (rmed xs s k)) = flatPt (smk xs s (k + 1)) := by
  rw [flatPt_set _ _ _ (by rw [smk_len, hn]; exact hk), smk_at hn hk, smk_set]
set_option maxRecDepth 100000 in
set_option maxHeartbeats 1000000 in
theorem cloneP_any (a : Option Addr) (n c : Nat) (xs : List Pt) (w : World) (h : PtL w a n xs) (hn : n ≤ 1048576) :
    Calls Try.prog 56 #[.slice a n c] w fun e w' => ∃ v, e = .returned v ∧ w'.ownsRow w.heap.size 37 2 v n (flatPt xs) ∧ Below w.heap.size w w' := by
  have qT : ∀ (w : World) (a : Option Addr) (n c n' c' : Nat), (binOp .eql 24 (.slice a n c) (.slice none n' c')).run Try.prog w = .ok (.bool a.isNone) w := fun w a n c n' c' => Lib.run_eql_slice_nil w _ _ a n c n' c' Try.underlying24
  obtain ⟨i0, hi, hz0, hz1, hz2⟩ := info_parts Pt_info
  have hl := h.1
  rcases a with _ | y
  · have h0 : n = 0 := by
      by_cases hz : n = 0
      · exact hz
      · obtain ⟨b, off, e, _⟩ := h.2 0 (by omega)
        cases e
    subst h0
    have hx : xs = [] := List.length_eq_zero_iff.1 hl
    subst hx
    go_enter Try.func56, Try.ntmps56
    go_wp2
    go_ret
    exact ⟨_, rfl, World.ownsRow_nil _ _ _ _, by (repeat (first | assumption | exact Below.refl _ _ | refine belowDN ?_ _ | refine Below.drew ?_ | refine Below.setCell ?_ (by first | omega | (simp <;> omega)) _ | refine Below.alloc ?_ (by first | omega | (simp <;> omega)) _ | refine belowCall ?_ (by assumption)))⟩
  · have hB0 : Below w.heap.size w (w.alloc (.cells #[] 37)) := (Below.refl _ _).alloc (Nat.le_refl _) _
    have hcl := flatPt_cells (h.mono hB0)
    go_enter Try.func56, Try.ntmps56
    go_wp2_with (at_builtin; refine wpList_append_own _ rfl _ _ 24 rfl w.heap.size 37 i0 _ 2 16 Try.underlying24 hi hz0 hz1 hz2 rfl (by decide) _ 0 [] rfl ?c0 y n c (flatPt xs) rfl (by rw [flatPt_len, hl]) hcl (flatPt_one xs) (by unfold maxLen; omega) (by omega) (by simp) ?_)
    case c0 => exact World.ownsRow_lit w #[] 0 (Nat.le_refl _) (by unfold maxLen; omega) rfl
    intro v' wb hownb hgb _
    have hBb : Below w.heap.size w wb := hB0.grown hgb (by simp) (fun k hk => by simp [Value.ownBlock] at hk; omega)
    go_wp2
    go_ret
    exact ⟨_, rfl, hownb, hBb⟩
theorem iSideM_any (s : Int) (w : World) :
    Calls Try.prog 55 #[.int .i64 s] w fun e w' => e = .returned (.bool (sideB s)) ∧ w = w' := by
  go_enter Try.func55, Try.ntmps55
  go_wp2_with (go_at_call 53; refine (inRange_any _ _ _ _).mono ?_; rintro e w' ⟨rfl, rfl⟩)
  go_ret
  exact ⟨rfl, rfl⟩
set_option maxRecDepth 100000 in
set_option maxHeartbeats 4000000 in
theorem iSmooth_any (a : Option Addr) (n c : Nat) (xs : List Pt) (s : Int) (w : World) (h : PtL w a n xs) (hn : n ≤ 1048576) :
    Calls Try.prog 19 #[.slice a n c, .int .i64 s] w fun e w' => PtRes w.heap.size (smL xs s) (.int .i64 (smC xs s)) w' e ∧ Below w.heap.size w w' := by
  cases hok : okP xs
  · have HC := Lib.hid (sm_1 (s := s) hok)
    go_enter Try.func19, Try.ntmps19
    go_wp2_with fail
    refine (iValidCv_any a n c xs w h hn).mono ?_
    rintro e w2 ⟨rfl, b2⟩
    rw [hok]
    go_wp2
    go_ret2
    exact ⟨by rw [HC.out.1, HC.out.2]; exact PtRes.nil _ _ _, b2⟩
  cases hsd : sideB s
  · have HC := Lib.hid (sm_2 hok hsd)
    go_enter Try.func19, Try.ntmps19
    go_wp2_with fail
    refine (iValidCv_any a n c xs w h hn).mono ?_
    rintro e w2 ⟨rfl, b2⟩
    rw [hok]
    go_wp2_with (go_at_call 55; refine (iSideM_any _ _).mono ?_; rintro e w' ⟨rfl, rfl⟩; rw [hsd])
    go_ret2
    exact ⟨by rw [HC.out.1, HC.out.2]; exact PtRes.nil _ _ _, b2⟩
  obtain ⟨s, rfl, hs⟩ := side_nat hsd
  have HC := Lib.hid (sm_0 h.1 hok hsd)
  have HL := Lib.hid h.1
  obtain ⟨h100, -, -⟩ := okP_num h.1 hok
  have hl : (n : Int) ≤ 100 := by omega
  have hss : (s : Int) ≤ 10 := by omega
  go_enter Try.func19, Try.ntmps19
  go_wp2_with fail
  refine (iValidCv_any a n c xs w h hn).mono ?_
  rintro e w2 ⟨rfl, b2⟩
  rw [hok]
  go_wp2_with (go_at_call 55; refine (iSideM_any _ _).mono ?_; rintro e w' ⟨rfl, rfl⟩; rw [hsd])
  refine (cloneP_any a n c xs w2 (h.mono b2) hn).mono ?_
  rintro e w3 ⟨v3, rfl, hown3, b3⟩
  have B3 := belowCall b2 b3
  go_wp2_with fail
  refine (iRun_any a n c xs s w3 (h.mono B3) hok hs).mono ?_
  rintro e w4 ⟨g4, rfl, hown4, b4⟩
  have hM4 := Lst.of_own hown4
  have hg4 := hown4.lt g4 rfl
  have hownS := ownKeepJ hown3 b4
  have hgs3 : ∀ g, v3.ownBlock = some g → g < w3.heap.size := fun g e => (hown3.lt g e).2
  have B4 := belowCall B3 b4
  have hz2 := b2.size
  have hz3 := b3.size
  clear hown3 hown4 hok hsd
  rcases hownS.2 with ⟨rfl, h0⟩ | ⟨gs, cs, cur, rfl, hgs, _⟩
  · subst h0
    have hx : xs = [] := List.length_eq_zero_iff.1 h.1
    have HX : Hid (smP xs s 0 = []) := Lib.hid rfl
    clear hx hownS hM4 hgs3
    go_wp2
    go_loopw [21] (fun i wr => i = .int .i64 0 ∧ wr = w4) (fun i _ => 0)
    case atStart => exact ⟨rfl, rfl⟩
    case round =>
      obtain ⟨rfl, rfl⟩ := hrel
      go_wp2
      go_ret2
      exact ⟨by rw [HC.out.1, HC.out.2, HX.out]; exact PtRes.nil _ _ _, B4⟩
  · have hgs2 := (hownS.lt gs rfl).2
    replace hgs3 := hgs3 gs rfl
    go_wp2
    go_loopw [21] (fun i wr => ∃ k : Nat, k ≤ n ∧ i = .int .i64 k ∧ wr.ownsRow w2.heap.size 37 2 (.slice (some ⟨gs, 0, none⟩) n cs) n (flatPt (smk xs s k)) ∧ w4.grownBy wr (some gs)) (fun i _ => n - (Go.RowKit.intOf i).toNat)
    case atStart => exact ⟨0, Nat.zero_le _, rfl, by rw [smk_zero]; exact hownS, gRefl _ _⟩
    case round =>
      obtain ⟨k, hk, rfl, hownr, hgr⟩ := hrel
      clear hownS
      by_cases hlt : k < n
      · have hMr := hM4.far hgr (by omega)
        obtain ⟨bm, om, hem, hbm, hcm⟩ := hMr.2 k hlt
        cases hem
        rw [rmL_at HL.out hlt s, Nat.zero_add] at hcm
        have hkk : (k : Int) < (n : Int) := by omega
        have hfz := hownr.frozenAt (k * 2 + 1)
        have hll : (flatPt (smk xs s k)).length = n * 2 := by rw [flatPt_len, smk_len, HL.out]
        have hco : wr.cell? ⟨gs, k * 2 + 1, none⟩ = some (.int .i64 ((smk xs s k)[k]?.getD pt0).2) := by rw [hownr.cellAt (k * 2 + 1) (by omega), flatPt_at _ k 1 (by rw [smk_len, HL.out]; exact hlt) (by decide)]; rfl
        obtain ⟨hs1, hs2⟩ := hownr.stored (k * 2 + 1) (.int .i64 (rmed xs s k))
        rw [smk_put HL.out hlt s] at hs1
        have HO := Lib.hid hs1
        have HG := Lib.hid (hgr.trans hs2)
        clear hs1 hs2 hownr hMr hll
        go_wp2
        go_roundw
        case rel => exact ⟨k + 1, by omega, by go_num, HO.out, HG.out⟩
        case measure => simp [Go.RowKit.intOf]; omega
      · obtain rfl : k = n := by omega
        rw [smk_full HL.out] at hownr
        go_wp2
        go_ret2
        exact ⟨by rw [HC.out.1, HC.out.2]; exact PtRes.own (ownLow hownr hz2) (smP_len _ _ _), B4.grown hgr B4.size (fun j e => by cases e; omega)⟩
set_option maxRecDepth 100000 in
set_option maxHeartbeats 4000000 in
theorem iOut_any (a : Option Addr) (n c : Nat) (xs : List Pt) (s b : Int) (w : World) (h : PtL w a n xs) (hn : n ≤ 1048576) :
    Calls Try.prog 20 #[.slice a n c, .int .i64 s, .int .i64 b] w fun e w' => IntRes w.heap.size (ouL xs s b) (.int .i64 (ouC xs s b)) w' e ∧ Below w.heap.size w w' := by
  cases hok : okP xs
  · have HC := Lib.hid (ou_1 (s := s) (b := b) hok)
    go_enter Try.func20, Try.ntmps20
    go_wp2_with fail
    refine (iValidCv_any a n c xs w h hn).mono ?_
    rintro e w2 ⟨rfl, b2⟩
    rw [hok]
    go_wp2
    go_ret2
    exact ⟨by rw [HC.out.1, HC.out.2]; exact IntRes.nil _ _ _, b2⟩
  cases hsd : sideB s
  · have HC := Lib.hid (ou_2 (b := b) hok (by rw [hsd]; rfl))
    go_enter Try.func20, Try.ntmps20
    go_wp2_with fail
    refine (iValidCv_any a n c xs w h hn).mono ?_
    rintro e w2 ⟨rfl, b2⟩
    rw [hok]
    go_wp2_with (first | (go_at_call 55; refine (iSideM_any _ _).mono ?_; rintro e w' ⟨rfl, rfl⟩; rw [hsd]) | (go_at_call 53; refine (inRange_any _ _ _ _).mono ?_; rintro e w' ⟨rfl, rfl⟩; rw [hby]))
    go_ret2
    exact ⟨by rw [HC.out.1, HC.out.2]; exact IntRes.nil _ _ _, b2⟩
  cases hbb : byB b
  · have HC := Lib.hid (ou_2 (b := b) hok (by rw [hsd, hbb]; rfl))
    have hby : inB b 1 20000 = false := hbb
    go_enter Try.func20, Try.ntmps20
    go_wp2_with fail
    refine (iValidCv_any a n c xs w h hn).mono ?_
    rintro e w2 ⟨rfl, b2⟩
    rw [hok]
    go_wp2_with (first | (go_at_call 55; refine (iSideM_any _ _).mono ?_; rintro e w' ⟨rfl, rfl⟩; rw [hsd]) | (go_at_call 53; refine (inRange_any _ _ _ _).mono ?_; rintro e w' ⟨rfl, rfl⟩; rw [hby]))
    go_ret2
    exact ⟨by rw [HC.out.1, HC.out.2]; exact IntRes.nil _ _ _, b2⟩
  have hby : inB b 1 20000 = true := hbb
  obtain ⟨i0, hi, hz0, hz1, hz2⟩ := info_parts A_info
  obtain ⟨s, rfl, hs⟩ := side_nat hsd
  have HC := Lib.hid (ou_0 h.1 hok hsd hbb)
  have HL := Lib.hid h.1
  have HOK := Lib.hid hok
  obtain ⟨h100, hbd, -⟩ := okP_num h.1 hok
  have hl : (n : Int) ≤ 100 := by omega
  have hss : (s : Int) ≤ 10 := by omega
  have HBD := Lib.hid hbd
  clear hbd
  go_enter Try.func20, Try.ntmps20
  go_wp2_with fail
  refine (iValidCv_any a n c xs w h hn).mono ?_
  rintro e w2 ⟨rfl, b2⟩
  rw [hok]
  go_wp2_with (first | (go_at_call 55; refine (iSideM_any _ _).mono ?_; rintro e w' ⟨rfl, rfl⟩; rw [hsd]) | (go_at_call 53; refine (inRange_any _ _ _ _).mono ?_; rintro e w' ⟨rfl, rfl⟩; rw [hby]))
  refine (iRun_any a n c xs s w2 (h.mono b2) hok hs).mono ?_
  rintro e w4 ⟨g4, rfl, hown4, b4⟩
  have hM4 := Lst.of_own hown4
  have B4 := belowCall b2 b4
  have h4 := h.mono B4
  have hzz := B4.size
  clear hown4 hok hsd hbb hby
  go_wp2
  go_loopw [8, 26] (fun o i wr => ∃ k : Nat, k ≤ n ∧ i = .int .i64 k ∧ wr.ownsRow w4.heap.size 2 1 o (ouP xs s b k).length ((ouP xs s b k).map (Value.int .i64)) ∧ Below w4.heap.size w4 wr) (fun _ i _ => n - (Go.RowKit.intOf i).toNat)
  case atStart => exact ⟨0, Nat.zero_le _, rfl, by rw [ouP_zero]; exact World.ownsRow_nil _ _ _ _, Below.refl _ _⟩
  case round =>
    obtain ⟨k, hk, rfl, hown, hB⟩ := hrel
    have hsz := hB.size
    by_cases hlt : k < n
    · obtain ⟨b1, o1, rfl, hc⟩ := h4.2 k hlt
      obtain ⟨⟨x0, x1⟩, hx⟩ : ∃ x, xs[k]?.getD pt0 = x := ⟨_, rfl⟩
      have hbx := HBD.out k hlt
      obtain ⟨m1, m2⟩ := rmed_bd (s := s) HL.out HOK.out hlt
      obtain ⟨bm, om, hem, hbm, hcm⟩ := (hM4.mono hB).2 k hlt
      cases hem
      rw [rmL_at HL.out hlt s, Nat.zero_add] at hcm
      have hF : farP xs s b k = decide (b < ((x1 - rmed xs s k).natAbs : Int)) := by rw [farP, hx]
      have HY := Lib.hid (ouP_yes (xs := xs) (s := s) (k := k) (b := b))
      have HN := Lib.hid (ouP_no (xs := xs) (s := s) (k := k) (b := b))
      have hpl := ouP_len xs s b k
      rw [hF] at HY HN
      rw [hx] at hc hbx
      obtain ⟨-, p0, p1⟩ := (hc.mono hB).parts
      have hkk : (k : Int) < (n : Int) := by omega
      clear hx hc hF
      generalize rmed xs s k = m at m1 m2 hcm HY HN
      generalize hLk : ouP xs s b k = L at hown hpl HY HN
      clear hLk
      cases hfar : decide (b < ((x1 - m).natAbs : Int))
      · have HS := Lib.hid (HN.out hfar)
        go_wp2_with (go_at_call 58; refine (dist_any _ _ _ (by omega) (by omega) (by omega) (by omega)).mono ?_; rintro e w' ⟨rfl, rfl⟩)
        go_roundw
        case rel => exact ⟨k + 1, by omega, by go_num, by rw [HS.out]; exact hown, hB⟩
        case measure => simp [Go.RowKit.intOf]; omega
      · have HS := Lib.hid (HY.out hfar)
        go_wp2_with (first | (go_at_call 58; refine (dist_any _ _ _ (by omega) (by omega) (by omega) (by omega)).mono ?_; rintro e w' ⟨rfl, rfl⟩) | (at_builtin; refine wpList_append_own _ rfl _ _ 29 rfl w4.heap.size 2 i0 (.int .i64 0) 1 8 Try.underlying29 hi hz0 hz1 hz2 rfl (by decide) _ _ _ rfl (hown.alloc _) ⟨wr.heap.size, 0, none⟩ 1 1 [.int .i64 k] rfl rfl (cell_one_new _ _ _) (by intro u hu; simp at hu; subst hu; rfl) (by unfold maxLen; omega) (by omega) (by have := hB.size; simp; omega) ?_; intro v7 w7 hown7 hg7 hnil7; have hB7 : Below w4.heap.size w4 w7 := (show Below w4.heap.size w4 (wr.alloc (.cells #[.int .i64 k] 2)) by (repeat (first | assumption | exact Below.refl _ _ | refine belowDN ?_ _ | refine Below.drew ?_ | refine Below.setCell ?_ (by first | omega | (simp <;> omega)) _ | refine Below.alloc ?_ (by first | omega | (simp <;> omega)) _ | refine belowCall ?_ (by assumption)))).grown hg7 (by have := hB.size; simp; omega) (fun j e => (hown.lt j e).1); clear hg7 hnil7))
        have HO := Lib.hid hown7
        clear hown hown7
        go_roundw
        case rel => exact ⟨k + 1, by omega, by go_num, by rw [HS.out.1, HS.out.2]; exact HO.out, hB7⟩
        case measure => simp [Go.RowKit.intOf]; omega
    · obtain rfl : k = n := by omega
      go_wp2
      go_ret2
      exact ⟨by rw [HC.out.1, HC.out.2]; exact IntRes.own (ownLow hown hzz) rfl, belowCall B4 hB⟩
end Go.Proofs.Ytiogffjhhhpolaa
