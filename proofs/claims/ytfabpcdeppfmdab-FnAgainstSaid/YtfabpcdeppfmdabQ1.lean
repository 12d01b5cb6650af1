/- Contradictions, the model's. -/
import Derived.Test.YtfabpcdeppfmdabQ0
import Derived.Lib.SliceRun
namespace Go.Proofs.Ytfabpcdeppfmdab
open Go.ChangeShapes Go.WideShapes Go.ChangeAt Go.RowKit Go.Deep

theorem l06Against_d (b o b' o' : Nat) (x0 : Int) (x1 x2 : ByteArray) (x3 : Int) (x4 : Bool) (y0 : Int) (y1 y2 : ByteArray) (y3 : Int) (y4 : Bool) (by' : Int) (w : World) (t : Bool) (n : Nat) (hS : EsC w b o (x0, x1, x2, x3, x4)) (hT : EsC w b' o' (y0, y1, y2, y3, y4)) (hx1 : -2000 ≤ x3) (hx2 : x3 ≤ 20000) (hy1 : -2000 ≤ y3) (hy2 : y3 ≤ 20000) (hb1 : 1 ≤ by') (hb2 : by' ≤ 20000) (hv : agnB by' (x0, x1, x2, x3, x4) (y0, y1, y2, y3, y4) = t) :
    Calls Try.prog 51 #[.pointer (some ⟨b, o, none⟩), .pointer (some ⟨b', o', none⟩), .int .i64 by'] (w.drewN n) fun e w' => e = .returned (.bool t) ∧ ∃ m, w' = w.drewN m :=
  (l06Against_any b o b' o' x0 x1 x2 x3 x4 y0 y1 y2 y3 y4 by' (w.drewN n) (hS.mono (belowDN (Below.refl _ _) _)) (hT.mono (belowDN (Below.refl _ _) _)) hx1 hx2 hy1 hy2 hb1 hb2).mono fun _ _ ⟨h1, m, h2⟩ => ⟨by rw [h1, hv], n + m, by rw [h2, World.drewN_drewN]⟩
set_option maxRecDepth 100000 in
set_option maxHeartbeats 4000000 in
theorem sContra_any (a : Option Addr) (n c : Nat) (xs : List Es) (ap b' : Int) (w : World) (h : EsL w a n xs) (hn : n ≤ 1048576) :
    Calls Try.prog 10 #[.slice a n c, .int .i64 ap, .int .i64 b'] w fun e w' => QqRes w.heap.size (cnL xs ap b') (.int .i64 (cnC xs ap b')) w' e ∧ Below w.heap.size w w' := by
  have HL := Lib.hid h.1
  have hl : (n : Int) ≤ 1048576 := by omega
  obtain ⟨iq, hiq, hzq0, hzq1, hzq2⟩ := info_parts QI_info
  cases hok : okE xs
  · have HC := Lib.hid (cn_1 (ap := ap) (b := b') hok)
    go_enter Try.func10, Try.ntmps10
    go_wp2_with fail
    refine (l06Ok_any a n c xs w h hn).mono ?_
    rintro e w2 ⟨rfl, q, rfl⟩
    rw [hok]
    go_wp2
    go_ret2
    exact ⟨by rw [HC.out.1, HC.out.2]; exact QqRes.nil _ _ _, belowDN (Below.refl _ _) _⟩
  cases hap : inB ap 0 100000
  · have HC := Lib.hid (cn_2 (ap := ap) (b := b') hok (by simp [hap]))
    go_enter Try.func10, Try.ntmps10
    go_wp2_with fail
    refine (l06Ok_any a n c xs w h hn).mono ?_
    rintro e w2 ⟨rfl, q, rfl⟩
    rw [hok]
    go_wp2_with (go_at_call 50; refine (l00In_any _ _ _ _).mono ?_; rintro e w' ⟨rfl, rfl⟩; (first | rw [hap] | rw [hby]))
    go_ret2
    exact ⟨by rw [HC.out.1, HC.out.2]; exact QqRes.nil _ _ _, belowDN (Below.refl _ _) _⟩
  cases hby : inB b' 1 20000
  · have HC := Lib.hid (cn_2 (ap := ap) (b := b') hok (by simp [hap, hby]))
    go_enter Try.func10, Try.ntmps10
    go_wp2_with fail
    refine (l06Ok_any a n c xs w h hn).mono ?_
    rintro e w2 ⟨rfl, q, rfl⟩
    rw [hok]
    go_wp2_with (go_at_call 50; refine (l00In_any _ _ _ _).mono ?_; rintro e w' ⟨rfl, rfl⟩; (first | rw [hap] | rw [hby]))
    go_ret2
    exact ⟨by rw [HC.out.1, HC.out.2]; exact QqRes.nil _ _ _, belowDN (Below.refl _ _) _⟩
  have HC := Lib.hid (cn_0 (ap := ap) (b := b') hok (by simp [hap, hby]))
  have HOK := Lib.hid hok
  have hn100 := (okE_at h.1 hok).1
  go_enter Try.func10, Try.ntmps10
  go_wp2_with fail
  refine (l06Ok_any a n c xs w h hn).mono ?_
  rintro e w2 ⟨rfl, q, rfl⟩
  rw [hok]
  have B2 : Below w.heap.size w (w.drewN q) := belowDN (Below.refl _ _) _
  have h2 := h.mono B2
  generalize w.drewN q = w2 at B2 h2 ⊢
  go_wp2_with (go_at_call 50; refine (l00In_any _ _ _ _).mono ?_; rintro e w' ⟨rfl, rfl⟩; (first | rw [hap] | rw [hby]))
  obtain ⟨ap1, ap2⟩ := inB_iff.1 hap
  obtain ⟨by1, by2⟩ := inB_iff.1 hby
  clear hok hap hby
  go_loopw [8, 9, 10] (fun oo i _ wr => ∃ k : Nat, k ≤ n ∧ i = .int .i64 k ∧ QqB w2.heap.size 39 wr oo (cnP xs ap b' n k) ∧ Below w2.heap.size w2 wr) (fun _ i _ _ => n - (Go.RowKit.intOf i).toNat)
  case atStart => exact ⟨0, Nat.zero_le _, rfl, QqB.lit _ _, by (repeat (first | assumption | exact Below.refl _ _ | refine belowDN ?_ _ | refine Below.drew ?_ | refine Below.setCell ?_ (by first | omega | (simp <;> omega)) _ | refine Below.alloc ?_ (by first | omega | (simp <;> omega)) _ | refine belowCall ?_ (by assumption)))⟩
  case round =>
    obtain ⟨i, hin, rfl, hQ, hB⟩ := hrel
    by_cases hlt : i < n
    · obtain ⟨b1, o1, rfl, hc⟩ := h2.2 i hlt
      obtain ⟨⟨x0, x1, x2, x3, x4⟩, hx⟩ : ∃ x, xs[i]?.getD es0 = x := ⟨_, rfl⟩
      rw [hx] at hc
      obtain ⟨⟨xt1, xt2⟩, xm1, xm2⟩ := okE_bd HL.out HOK.out hlt hx
      have HX := Lib.hid hx
      clear hx
      have hii : (i : Int) < (n : Int) := by omega
      have hi0 : (0 : Int) ≤ (i : Int) := by omega
      have e0 : cnP xs ap b' n i = cnP xs ap b' n i ++ cnR xs ap b' i (i + 1) := by rw [cnR_none (Nat.le_refl _), List.append_nil]
      have hQ0 := hQ
      rw [e0] at hQ0
      clear hQ e0
      go_wp2
      go_loopw [8, 10] (fun oo k wi => ∃ j : Nat, i < j ∧ j ≤ n ∧ k = .int .i64 j ∧ QqB w2.heap.size 39 wi oo (cnP xs ap b' n i ++ cnR xs ap b' i j) ∧ Below w2.heap.size w2 wi) (fun _ k _ => n - (Go.RowKit.intOf k).toNat)
      case atStart => exact ⟨i + 1, by omega, by omega, by go_num, hQ0, hB⟩
      case round =>
        obtain ⟨j, hij, hjn, rfl, hQj, hBi⟩ := hrel
        clear hQ0 hB
        by_cases hj : j < n
        · obtain ⟨b1', o1', he, hc'⟩ := h2.2 j hj
          cases he
          obtain ⟨⟨y0, y1, y2, y3, y4⟩, hy⟩ : ∃ x, xs[j]?.getD es0 = x := ⟨_, rfl⟩
          rw [hy] at hc'
          obtain ⟨⟨yt1, yt2⟩, ym1, ym2⟩ := okE_bd HL.out HOK.out hj hy
          have HY := Lib.hid hy
          clear hy
          have hS := hc.mono hBi
          have hT := hc'.mono hBi
          have hjj : (j : Int) < (n : Int) := by omega
          have hj0 : (0 : Int) ≤ (j : Int) := by omega
          have hcl := cnP_len xs ap b' n i
          have hcr := cnR_len xs ap b' i j
          have hml : i * n ≤ 100 * 100 := Nat.mul_le_mul (by omega) hn100
          obtain ⟨L, hLe⟩ : ∃ L, cnP xs ap b' n i ++ cnR xs ap b' i j = L := ⟨_, rfl⟩
          have hLl : L.length ≤ 20000 := by rw [← hLe, List.length_append]; omega
          rw [hLe] at hQj
          have HLE := Lib.hid hLe
          clear hLe hcl hcr hml
          obtain ⟨-, p0, p1, p2, p3, p4⟩ := hS.parts
          obtain ⟨-, r0, r1, r2, r3, r4⟩ := hT.parts
          by_cases hcon : conB ap b' (x0, x1, x2, x3, x4) (y0, y1, y2, y3, y4) = true
          · have hcon' := hcon
            simp only [conB, Bool.and_eq_true, decide_eq_true_eq] at hcon'
            obtain ⟨heq, hle, hag⟩ := hcon'
            have HS := Lib.hid (cnR_yes hij HX.out HY.out hcon)
            have hd : decide (y0 - x0 ≤ ap) = true := by simpa using hle
            clear hcon
            obtain ⟨bs, hq1, hq2, hq3⟩ := hQj
            have hbl := hBi.size
            go_wp2
            go_big_quiet ((go_at_call 51; exact l06Against_d _ _ _ _ _ _ _ _ _ _ _ _ _ _ _ _ _ _ hS hT (by omega) (by omega) (by omega) (by omega) (by omega) (by omega) hag))
            have hbD : Below wr.heap.size wr (wr.drewN nq) := belowDN (Below.refl _ _) _
            have hBD : Below w2.heap.size w2 (wr.drewN nq) := belowDN hBi _
            have hzD : wr.heap.size ≤ (wr.drewN nq).heap.size := hbD.size
            generalize wr.drewN nq = W at hbD hBD hzD ⊢
            obtain ⟨hrA, hcA, hbA', hszA⟩ := two_news W (i : Int) (j : Int) 2 39 rfl
            have hbA := belowCall hbD hbA'
            have hBA := belowCall hBD hbA'
            go_wp2_with (at_builtin; refine wpList_append_own_at _ rfl _ _ 24 rfl w2.heap.size 39 iq _ 1 24 Try.underlying24 hiq hzq0 hzq1 hzq2 rfl (by decide) _ _ _ rfl (ownKeepQ hq1 hbA) ⟨W.heap.size + 1, 0, none⟩ 1 1 [.slice (some ⟨W.heap.size, 0, none⟩) 2 2] rfl rfl hcA (by intro u hu; simp at hu; subst hu; rfl) (by unfold maxLen; omega) (by omega) (by rw [hszA]; omega) ?_; intro v7 w7 hown7 hg7 hnil7 hl7)
            have hQ' := QqB.snoc hq1 hq2 hq3 hbA hrA (by omega) (by omega) hown7 hg7 hl7
            have hB7 : Below w2.heap.size w2 w7 := hBA.grown hg7 hBA.size (fun r e => (hq1.lt r e).1)
            have HQ := Lib.hid hQ'
            clear hQ' hown7 hg7 hl7 hnil7 hq1 hq2 hq3
            go_wp2
            go_roundw
            case rel => exact ⟨j + 1, by omega, by omega, by go_num, by rw [HS.out, ← List.append_assoc, HLE.out]; exact HQ.out, hB7⟩
            case measure => simp [Go.RowKit.intOf]; omega
          · have hcon' : conB ap b' (x0, x1, x2, x3, x4) (y0, y1, y2, y3, y4) = false := by simpa using hcon
            have HS := Lib.hid (cnR_no (i := i) HX.out HY.out hcon')
            have HQ := Lib.hid hQj
            clear hQj
            have hfin : ∀ q, (∃ j' : Nat, i < j' ∧ j' ≤ n ∧ Value.int .i64 ((j : Int) + 1) = .int .i64 (j' : Int) ∧ QqB w2.heap.size 39 (wr.drewN q) u8 (cnP xs ap b' n i ++ cnR xs ap b' i j') ∧ Below w2.heap.size w2 (wr.drewN q)) := fun q =>
              ⟨j + 1, by omega, by omega, by go_num, by rw [HS.out, HLE.out]; exact HQ.out.below (belowDN (Below.refl _ _) q), belowDN hBi q⟩
            have HF := Lib.hid hfin
            clear hfin hcon
            cases heq : (x1.toList == y1.toList)
            · go_wp2
              go_big_quiet (fail)
              go_wp2
              go_roundw
              case rel => exact HF.out _
              case measure => simp [Go.RowKit.intOf]; omega
            · by_cases hle : y0 - x0 ≤ ap
              · have hag : agnB b' (x0, x1, x2, x3, x4) (y0, y1, y2, y3, y4) = false := by
                  simpa [conB, heq, hle] using hcon'
                have hd : decide (y0 - x0 ≤ ap) = true := by simpa using hle
                clear hcon'
                go_wp2
                go_big_quiet ((go_at_call 51; exact l06Against_d _ _ _ _ _ _ _ _ _ _ _ _ _ _ _ _ _ _ hS hT (by omega) (by omega) (by omega) (by omega) (by omega) (by omega) hag))
                go_wp2
                go_roundw
                case rel => exact HF.out _
                case measure => simp [Go.RowKit.intOf]; omega
              · have hd : decide (y0 - x0 ≤ ap) = false := by simpa using hle
                clear hcon'
                go_wp2
                go_big_quiet (fail)
                go_wp2
                go_roundw
                case rel => exact HF.out _
                case measure => simp [Go.RowKit.intOf]; omega
        · obtain rfl : j = n := by omega
          rw [← cnP_step] at hQj
          have HQ := Lib.hid hQj
          clear hQj
          go_wp2
          go_roundw
          case rel => exact ⟨i + 1, by omega, by go_num, HQ.out, hBi⟩
          case measure => simp [Go.RowKit.intOf]; omega
    · obtain rfl : i = n := by omega
      have HN : Hid (cnP xs ap b' i i = cnP xs ap b' xs.length xs.length) := Lib.hid (by rw [HL.out])
      rw [HN.out] at hQ
      have HQ := Lib.hid (hQ.low B2.size)
      clear hQ
      go_wp2
      go_ret2
      exact ⟨by rw [HC.out.1, HC.out.2]; exact QqRes.own HQ.out, belowCall B2 hB⟩
end Go.Proofs.Ytfabpcdeppfmdab
