/- MergeEstimates, the model's. -/
import Derived.Test.YtfnjndbnogeddaaDoorQM
import Derived.Test.YtfnjndbnogeddaaDoorP5
namespace Go.Proofs.YtfnjndbnogeddaaDoor
open Go.ChangeShapes Go.WideShapes Go.ChangeAt Go.RowKit Go.Deep

theorem own_shape5 {w : World} {B e n : Nat} {v : Value} {xs : List Value} (h : w.ownsRow B e 5 v n xs) (h0 : v ≠ .slice none 0 0) : ∃ g c, v = .slice (some ⟨g, 0, none⟩) n c ∧ n ≤ c := by
  rcases h.2 with ⟨rfl, rfl⟩ | ⟨g, cap, cur, rfl, _, _, hnc, _⟩
  · exact absurd rfl h0
  · exact ⟨g, cap, rfl, hnc⟩
theorem ownKeep5 {w w' : World} {B e s n : Nat} {v : Value} {xs : List Value} (h : w.ownsRow B e s v n xs) (hb : Below w.heap.size w w') : w'.ownsRow B e s v n xs :=
  h.kept ⟨hb.os, hb.tape, hb.output, hb.size, fun k hk _ => hb.block k hk⟩ (row := none) (by
    cases hv : v.ownBlock with
    | none => exact .inl rfl
    | some g => exact .inr (by simp))
set_option maxRecDepth 100000 in
set_option maxHeartbeats 4000000 in
theorem sMg_any (ba oa n ca bb ob m cb : Nat) (A B : List Es) (w : World) (hA : EsL w (some ⟨ba, oa, none⟩) n A) (hB : EsL w (some ⟨bb, ob, none⟩) m B) (hn : n ≤ 1048576) (hm : m ≤ 1048576) :
    Calls Tryd.prog 10 #[.slice (some ⟨ba, oa, none⟩) n ca, .slice (some ⟨bb, ob, none⟩) m cb] w fun x w' => EsRes w.heap.size (mgLs A B) (.int .i64 (mgC A B)) w' x ∧ Below w.heap.size w w' := by
  have HAL := Lib.hid hA.1
  have HBL := Lib.hid hB.1
  cases ha : okE A
  · have HD := Lib.hid (mg_1 (A := A) (B := B) (by rw [ha]; rfl))
    go_enter Tryd.func10, Tryd.ntmps10
    go_wp2_with fail
    refine (l06Ok_below _ n ca A w hA hn).mono ?_
    rintro e w2 ⟨rfl, b2⟩
    rw [ha]
    go_wp2
    go_ret2
    exact ⟨by rw [HD.out.1, HD.out.2]; exact EsRes.nil _ _ _, b2⟩
  cases hb : okE B
  · have HD := Lib.hid (mg_1 (A := A) (B := B) (by rw [ha, hb]; rfl))
    go_enter Tryd.func10, Tryd.ntmps10
    go_wp2_with fail
    refine (l06Ok_below _ n ca A w hA hn).mono ?_
    rintro e w2 ⟨rfl, b2⟩
    rw [ha]
    go_wp2_with fail
    refine (l06Ok_below _ m cb B w2 (hB.mono b2) hm).mono ?_
    rintro e w3 ⟨rfl, b3⟩
    rw [hb]
    go_wp2
    go_ret2
    exact ⟨by rw [HD.out.1, HD.out.2]; exact EsRes.nil _ _ _, belowCall b2 b3⟩
  have hab : (okE A && okE B) = true := by rw [ha, hb]; rfl
  have h100 : n ≤ 100 := (okE_at HAL.out ha).1
  have m100 : m ≤ 100 := (okE_at HBL.out hb).1
  have RA := Lib.hid (okE_rise ha)
  have RB := Lib.hid (okE_rise hb)
  have H9 := Lib.hid (fun hc => mg_9 hab (md_clash RA.out RB.out hc))
  have H5 := Lib.hid (fun (T : List Es) hT h3 => mg_5 (T := T) hab hT h3)
  have H0 := Lib.hid (fun (T : List Es) hT h3 => mg_0 (T := T) hab hT h3)
  obtain ⟨i0, hi, hz0, hz1, hz2⟩ := info_parts Es_info
  have hmz : (m : Int) ≤ 100 := by omega
  have hnz : (n : Int) ≤ 100 := by omega
  go_enter Tryd.func10, Tryd.ntmps10
  go_wp2_with fail
  refine (l06Ok_below _ n ca A w hA hn).mono ?_
  rintro e w2 ⟨rfl, b2⟩
  rw [ha]
  go_wp2_with fail
  refine (l06Ok_below _ m cb B w2 (hB.mono b2) hm).mono ?_
  rintro e w3 ⟨rfl, b3⟩
  rw [hb]
  have B3 := belowCall b2 b3
  have hA3 := hA.mono B3
  have hB3 := hB.mono B3
  have hB0 : Below w3.heap.size w3 (w3.alloc (.cells #[] 37)) := (Below.refl _ _).alloc (Nat.le_refl _) _
  have hcl := flatEs_cells (hA3.mono hB0)
  clear ha hb hab
  go_wp2_with (at_builtin; refine wpList_append_own _ rfl _ _ 25 rfl w3.heap.size 37 i0 _ 5 56 Tryd.underlying25 hi hz0 hz1 hz2 rfl (by decide) _ 0 [] rfl (World.ownsRow_lit w3 #[] 0 (Nat.le_refl _) (by unfold maxLen; omega) rfl) ⟨ba, oa, none⟩ n ca (flatEs A) rfl (by rw [flatEs_len, HAL.out]) hcl (flatEs_one A) (by unfold maxLen; omega) (by omega) (by simp) ?_)
  intro v' wb hownb hgb hnil
  have bb4 : Below w3.heap.size w3 wb := hB0.grown hgb (by simp) (fun k hk => by simp [Value.ownBlock] at hk; omega)
  obtain ⟨g0, c0, rfl, hgc⟩ := own_shape5 hownb hnil
  clear hnil hgb hcl hB0
  go_wp2
  go_loopw [6, 7] (fun o i wr => ∃ (k g c : Nat) (out : List Es), k ≤ m ∧ i = .int .i64 k ∧ o = .slice (some ⟨g, 0, none⟩) out.length c ∧ out.length ≤ c ∧ out.length ≤ n + k ∧ wr.ownsRow w3.heap.size 37 5 (.slice (some ⟨g, 0, none⟩) out.length c) out.length (flatEs out) ∧ RiseE out ∧ (∀ x ∈ A, ∀ y ∈ B.take k, esEq x y → x = y) ∧ (∀ y, y ∈ out ↔ y ∈ A ∨ y ∈ B.take k) ∧ Below w3.heap.size w3 wr) (fun _ i _ => m - (Go.RowKit.intOf i).toNat)
  case atStart => exact ⟨0, g0, c0, A, Nat.zero_le _, rfl, by rw [HAL.out], by rw [HAL.out]; exact hgc, by rw [HAL.out]; omega, by rw [HAL.out]; exact hownb, RA.out, by simp, by simp, bb4⟩
  case round =>
    obtain ⟨k, g, cg, out, hk, rfl, rfl, hoc, hol, hown, hr, hno, hmm, hBw⟩ := hrel
    clear hownb bb4
    have HOW := Lib.hid hown
    have HRI := Lib.hid hr
    have HNO := Lib.hid hno
    have HMM := Lib.hid hmm
    clear hown hr hno hmm
    by_cases hlt : k < m
    · obtain ⟨b1, o1, he1, hc⟩ := hB3.2 k hlt
      cases he1
      obtain ⟨⟨x0, x1, x2, x3, x4⟩, hx⟩ : ∃ x, B[k]?.getD es0 = x := ⟨_, rfl⟩
      obtain ⟨r1, r2, r3⟩ := md_round (n := n) (m := m) HAL.out HBL.out RA.out RB.out hlt hx HNO.out HRI.out HMM.out
      rw [hx] at hc
      have R1 := Lib.hid r1
      have R2 := Lib.hid r2
      have R3 := Lib.hid r3
      clear r1 r2 r3 hx
      have hkk : (k : Int) < (m : Int) := by omega
      by_cases hf : fndE A (x0, x1, x2, x3, x4) < n
      · have hfv : fndV A (x0, x1, x2, x3, x4) = .int .i64 (fndE A (x0, x1, x2, x3, x4) : Nat) := by rw [fndV, HAL.out, if_pos hf]
        have S2 := Lib.hid (R2.out hf)
        have S3 := Lib.hid (R3.out hf)
        generalize fndE A (x0, x1, x2, x3, x4) = fk at hf hfv S2 S3
        have HFV := Lib.hid hfv
        clear hfv
        have hfz : ¬ (fk : Int) < 0 := by omega
        have hfn : (fk : Int) < (n : Int) := by omega
        obtain ⟨b2', o2', he2, hc2⟩ := hA3.2 fk hf
        cases he2
        obtain ⟨⟨y0, y1, y2, y3, y4⟩, hy⟩ : ∃ y, A[fk]?.getD es0 = y := ⟨_, rfl⟩
        rw [hy] at hc2 S2 S3
        clear hy
        go_wp2_with fail
        refine (l06Find_any _ n ca bb (ob + k * 5) A x0 x1 x2 x3 x4 wr (hA3.mono hBw) (hc.mono hBw) hn).mono ?_
        rintro e w5' ⟨rfl, q5, rfl⟩
        rw [HFV.out]
        have hB5 : Below w3.heap.size w3 (wr.drewN q5) := belowDN hBw _
        have HOW5 := Lib.hid (ownKeep5 HOW.out (belowDN (Below.refl _ wr) q5))
        obtain ⟨-, p0, p1, p2, p3, p4⟩ := (hc.mono hB5).parts
        obtain ⟨-, z0, z1, z2, z3, z4⟩ := (hc2.mono hB5).parts
        generalize wr.drewN q5 = w5 at hB5 HOW5 p0 p1 p2 p3 p4 z0 z1 z2 z3 z4 ⊢
        have hne := neq_Es y0 y1 y2 y3 y4 x0 x1 x2 x3 x4
        cases hq : EsE (y0, y1, y2, y3, y4) (x0, x1, x2, x3, x4)
        · have HC := Lib.hid (H9.out (S3.out (fun e => by rw [e, EsE_self] at hq; cases hq)))
          rw [hq] at hne
          go_wp2
          go_big_quiet (fail)
          go_wp2
          go_ret2
          exact ⟨by rw [HC.out.1, HC.out.2]; exact EsRes.nil _ _ _, belowCall B3 (by (repeat (first | assumption | exact Below.refl _ _ | refine belowDN ?_ _ | refine Below.drew ?_ | refine Below.setCell ?_ (by first | omega | (simp <;> omega)) _ | refine Below.alloc ?_ (by first | omega | (simp <;> omega)) _ | refine belowCall ?_ (by assumption))))⟩
        · have S4 := Lib.hid (S2.out (EsE_eq hq))
          rw [hq] at hne
          go_wp2
          go_big_quiet (fail)
          go_wp2
          go_roundw
          case rel => exact ⟨k + 1, g, cg, out, by omega, by go_num, rfl, hoc, by omega, ownKeep5 HOW5.out (by (repeat (first | assumption | exact Below.refl _ _ | refine belowDN ?_ _ | refine Below.drew ?_ | refine Below.setCell ?_ (by first | omega | (simp <;> omega)) _ | refine Below.alloc ?_ (by first | omega | (simp <;> omega)) _ | refine belowCall ?_ (by assumption)))), HRI.out, S4.out.1, S4.out.2, by (repeat (first | assumption | exact Below.refl _ _ | refine belowDN ?_ _ | refine Below.drew ?_ | refine Below.setCell ?_ (by first | omega | (simp <;> omega)) _ | refine Below.alloc ?_ (by first | omega | (simp <;> omega)) _ | refine belowCall ?_ (by assumption)))⟩
          case measure => simp [Go.RowKit.intOf]; omega
      · have hfv : fndV A (x0, x1, x2, x3, x4) = .int .i64 (-1) := by rw [fndV, HAL.out, if_neg hf]
        have HFV := Lib.hid hfv
        have S1 := Lib.hid (R1.out hf)
        clear hfv hf
        go_wp2_with fail
        refine (l06Find_any _ n ca bb (ob + k * 5) A x0 x1 x2 x3 x4 wr (hA3.mono hBw) (hc.mono hBw) hn).mono ?_
        rintro e w5' ⟨rfl, q5, rfl⟩
        rw [HFV.out]
        have hB5 : Below w3.heap.size w3 (wr.drewN q5) := belowDN hBw _
        have HOW5 := Lib.hid (ownKeep5 HOW.out (belowDN (Below.refl _ wr) q5))
        obtain ⟨-, p0, p1, p2, p3, p4⟩ := (hc.mono hB5).parts
        generalize wr.drewN q5 = w5 at hB5 HOW5 p0 p1 p2 p3 p4 ⊢
        have hLO := EsL.of_own HOW5.out rfl
        have hz5 := hB5.size
        go_wp2_with fail
        refine (l06Put_any g 0 out.length cg out x0 x1 x2 x3 x4 w5 hLO (by omega) hoc HRI.out S1.out.1).mono ?_
        rintro e w6 ⟨v6, rfl, hv6, hown6, b6⟩
        have hown6 := ownLow hown6 hz5
        have hB6 := belowCall hB5 b6
        have hpl := putE_len S1.out.1
        rw [← hpl] at hown6
        obtain ⟨g6, c6, rfl, hoc6⟩ := own_shape5 hown6 hv6
        have HO6 := Lib.hid hown6
        have HPL := Lib.hid hpl
        clear hown6 hv6 hpl hLO
        generalize putE out (x0, x1, x2, x3, x4) = out' at HO6 HPL S1 hoc6 ⊢
        go_wp2
        go_roundw
        case rel => exact ⟨k + 1, g6, c6, out', by omega, by go_num, rfl, hoc6, by rw [HPL.out]; omega, HO6.out, S1.out.2.2.1, S1.out.2.1, S1.out.2.2.2, hB6⟩
        case measure => simp [Go.RowKit.intOf]; omega
    · obtain rfl : k = m := by omega
      have hBt : B.take k = B := List.take_of_length_le (by rw [HBL.out]; omega)
      have hT := md_end RA.out RB.out (by have := HNO.out; rwa [hBt] at this) HRI.out (by have := HMM.out; rwa [hBt] at this)
      by_cases hf : out.length ≤ 100
      · have HD := Lib.hid (H0.out out hT hf)
        have hf1 : ¬ (100 : Int) < (out.length : Int) := by omega
        have hz3 := B3.size
        clear hT hBt
        go_wp2
        go_ret2
        exact ⟨by rw [HD.out.1, HD.out.2]; exact EsRes.own (ownLow HOW.out hz3) rfl, belowCall B3 hBw⟩
      · have HD := Lib.hid (H5.out out hT hf)
        have hf1 : (100 : Int) < (out.length : Int) := by omega
        clear hT hBt
        go_wp2
        go_ret2
        exact ⟨by rw [HD.out.1, HD.out.2]; exact EsRes.nil _ _ _, belowCall B3 hBw⟩
end Go.Proofs.YtfnjndbnogeddaaDoor
