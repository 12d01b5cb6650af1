/- Contradictions, the program's. -/
import Derived.Test.YtichcfahmdlndabQ1
namespace Go.Proofs.Ytichcfahmdlndab
open Go.ChangeShapes Go.WideShapes Go.ChangeAt Go.RowKit Go.Deep

/-- the outer element's box, away from the slice that is made -/
def BoxA (w : World) (v : Value) (Be : Nat) (x : Es) : Prop := EsC w Be 0 x ∧ v.ownBlock ≠ some Be
theorem BoxA.below {w w' : World} {v : Value} {Be : Nat} {x : Es} (h : BoxA w v Be x) (hb : Below w.heap.size w w') : BoxA w' v Be x := ⟨h.1.mono hb, h.2⟩
theorem QqB.away {B T : Nat} {w : World} {v : Value} {L : List (Int × Int)} (h : QqB B T w v L) : v.ownBlock ≠ some w.heap.size := fun e => by
  obtain ⟨bs, h1, -⟩ := h
  have := (h1.lt _ e).2
  omega
set_option maxRecDepth 100000 in
set_option maxHeartbeats 4000000 in
theorem iContra_any (a : Option Addr) (n c : Nat) (xs : List Es) (ap b' : Int) (w : World) (h : EsL w a n xs) (hn : n ≤ 1048576) :
    Calls Try.prog 14 #[.slice a n c, .int .i64 ap, .int .i64 b'] w fun e w' => QqRes w.heap.size (cnL xs ap b') (.int .i64 (cnC xs ap b')) w' e ∧ Below w.heap.size w w' := by
  have HL := Lib.hid h.1
  have hl : (n : Int) ≤ 1048576 := by omega
  obtain ⟨iq, hiq, hzq0, hzq1, hzq2⟩ := info_parts QI_info
  cases hok : okE xs
  · have HC := Lib.hid (cn_1 (ap := ap) (b := b') hok)
    go_enter Try.func14, Try.ntmps14
    go_wp2_with fail
    refine (iValidEs_any a n c xs w h hn).mono ?_
    rintro e w2 ⟨rfl, b2⟩
    rw [hok]
    go_wp2
    go_ret2
    exact ⟨by rw [HC.out.1, HC.out.2]; exact QqRes.nil _ _ _, b2⟩
  cases hap : inB ap 0 100000
  · have HC := Lib.hid (cn_2 (ap := ap) (b := b') hok (by simp [hap]))
    go_enter Try.func14, Try.ntmps14
    go_wp2_with fail
    refine (iValidEs_any a n c xs w h hn).mono ?_
    rintro e w2 ⟨rfl, b2⟩
    rw [hok]
    go_wp2_with (go_at_call 47; refine (inRange_any _ _ _ _).mono ?_; rintro e w' ⟨rfl, rfl⟩; (first | rw [hap] | rw [hby]))
    go_ret2
    exact ⟨by rw [HC.out.1, HC.out.2]; exact QqRes.nil _ _ _, b2⟩
  cases hby : inB b' 1 20000
  · have HC := Lib.hid (cn_2 (ap := ap) (b := b') hok (by simp [hap, hby]))
    go_enter Try.func14, Try.ntmps14
    go_wp2_with fail
    refine (iValidEs_any a n c xs w h hn).mono ?_
    rintro e w2 ⟨rfl, b2⟩
    rw [hok]
    go_wp2_with (go_at_call 47; refine (inRange_any _ _ _ _).mono ?_; rintro e w' ⟨rfl, rfl⟩; (first | rw [hap] | rw [hby]))
    go_ret2
    exact ⟨by rw [HC.out.1, HC.out.2]; exact QqRes.nil _ _ _, b2⟩
  have HC := Lib.hid (cn_0 (ap := ap) (b := b') hok (by simp [hap, hby]))
  have HOK := Lib.hid hok
  have hn100 := (okE_at h.1 hok).1
  go_enter Try.func14, Try.ntmps14
  go_wp2_with fail
  refine (iValidEs_any a n c xs w h hn).mono ?_
  rintro e w2 ⟨rfl, B2⟩
  rw [hok]
  have h2 := h.mono B2
  go_wp2_with (go_at_call 47; refine (inRange_any _ _ _ _).mono ?_; rintro e w' ⟨rfl, rfl⟩; (first | rw [hap] | rw [hby]))
  obtain ⟨ap1, ap2⟩ := inB_iff.1 hap
  obtain ⟨by1, by2⟩ := inB_iff.1 hby
  clear hok hap hby
  go_loopw [8, 26] (fun oo i wr => ∃ k : Nat, k ≤ n ∧ i = .int .i64 k ∧ QqB w2.heap.size 41 wr oo (cnP xs ap b' n k) ∧ Below w2.heap.size w2 wr) (fun _ i _ => n - (Go.RowKit.intOf i).toNat)
  case atStart => exact ⟨0, Nat.zero_le _, rfl, QqB.nil _ _ _, Below.refl _ _⟩
  case round =>
    obtain ⟨i, hin, rfl, hQ, hB⟩ := hrel
    by_cases hlt : i < n
    · obtain ⟨b1, o1, rfl, hc⟩ := h2.2 i hlt
      obtain ⟨⟨x0, x1, x2, x3, x4⟩, hx⟩ : ∃ x, xs[i]?.getD es0 = x := ⟨_, rfl⟩
      rw [hx] at hc
      obtain ⟨p, p0, p1, p2, p3, p4⟩ := (hc.mono hB).parts
      obtain ⟨⟨xt1, xt2⟩, xm1, xm2⟩ := okE_bd HL.out HOK.out hlt hx
      have HX := Lib.hid hx
      clear hx
      have hii : (i : Int) < (n : Int) := by omega
      have hi0 : (0 : Int) ≤ (i : Int) := by omega
      have e0 : cnP xs ap b' n i = cnP xs ap b' n i ++ cnR xs ap b' i (i + 1) := by rw [cnR_none (Nat.le_refl _), List.append_nil]
      have hsz := hB.size
      have hBx0 : EsC (wr.alloc (.cells #[.int .i64 x0, .string x1, .string x2, .int .i64 x3, .bool x4] 32)) wr.heap.size 0 (x0, x1, x2, x3, x4) := EsC.fresh wr 32 x0 x1 x2 x3 x4
      have hBA : Below wr.heap.size wr (wr.alloc (.cells #[.int .i64 x0, .string x1, .string x2, .int .i64 x3, .bool x4] 32)) := (Below.refl _ _).alloc (Nat.le_refl _) _
      have hQ0 := hQ.below hBA
      have hBd := belowCall hB hBA
      have hAw := hQ.away
      have hBx : BoxA _ _ _ _ := ⟨hBx0, hAw⟩
      rw [e0] at hQ0
      clear hQ e0 hBx0 hB hBA hAw
      go_wp2_with fail
      generalize hBe : wr.heap.size = Be at hBx
      generalize wr.alloc (.cells #[.int .i64 x0, .string x1, .string x2, .int .i64 x3, .bool x4] 32) = wA at hQ0 hBd hBx ⊢
      go_wp2
      go_loopw [8, 11] (fun oo k wi => ∃ j : Nat, i < j ∧ j ≤ n ∧ k = .int .i64 j ∧ QqB w2.heap.size 41 wi oo (cnP xs ap b' n i ++ cnR xs ap b' i j) ∧ BoxA wi oo Be (x0, x1, x2, x3, x4) ∧ Below w2.heap.size w2 wi) (fun _ k _ => n - (Go.RowKit.intOf k).toNat)
      case atStart => exact ⟨i + 1, by omega, by omega, by go_num, hQ0, hBx, hBd⟩
      case round =>
        obtain ⟨j, hij, hjn, rfl, hQj, hBj, hBi⟩ := hrel
        clear hQ0 hBd hBx
        by_cases hj : j < n
        · obtain ⟨b1', o1', he, hc'⟩ := h2.2 j hj
          cases he
          obtain ⟨⟨y0, y1, y2, y3, y4⟩, hy⟩ : ∃ x, xs[j]?.getD es0 = x := ⟨_, rfl⟩
          rw [hy] at hc'
          obtain ⟨⟨yt1, yt2⟩, ym1, ym2⟩ := okE_bd HL.out HOK.out hj hy
          have HY := Lib.hid hy
          clear hy
          obtain ⟨-, r0, r1, r2, r3, r4⟩ := (hc'.mono hBi).parts
          have hjj : (j : Int) < (n : Int) := by omega
          have hj0 : (0 : Int) ≤ (j : Int) := by omega
          have hbl := hBi.size
          have hBA : Below wr.heap.size wr (wr.alloc (.cells #[.int .i64 y0, .string y1, .string y2, .int .i64 y3, .bool y4] 32)) := (Below.refl _ _).alloc (Nat.le_refl _) _
          have hBA2 : Below w2.heap.size w2 (wr.alloc (.cells #[.int .i64 y0, .string y1, .string y2, .int .i64 y3, .bool y4] 32)) := belowCall hBi hBA
          have hBx1 := hBj.below hBA
          obtain ⟨hBel, q0, q1, q2, q3, q4⟩ := hBj.1.parts
          rw [Nat.zero_add] at q1 q2 q3 q4
          have hne : Be ≠ wr.heap.size := by omega
          by_cases hcon : conB ap b' (x0, x1, x2, x3, x4) (y0, y1, y2, y3, y4) = true
          · have hcon' := hcon
            simp only [conB, Bool.and_eq_true, decide_eq_true_eq] at hcon'
            obtain ⟨heq0, hle, hag⟩ := hcon'
            have heq : (y1.toList == x1.toList) = true := by rw [beq_iff_eq] at heq0 ⊢; exact heq0.symm
            have HS := Lib.hid (cnR_yes hij HX.out HY.out hcon)
            have hd : decide (y0 - x0 ≤ ap) = true := by simpa using hle
            have hcl := cnP_len xs ap b' n i
            have hcr := cnR_len xs ap b' i j
            have hml : i * n ≤ 100 * 100 := Nat.mul_le_mul (by omega) hn100
            obtain ⟨L, hLe⟩ : ∃ L, cnP xs ap b' n i ++ cnR xs ap b' i j = L := ⟨_, rfl⟩
            have hLl : L.length ≤ 20000 := by rw [← hLe, List.length_append]; omega
            rw [hLe] at hQj
            have HLE := Lib.hid hLe
            clear hLe hcl hcr hml hcon heq0
            obtain ⟨bs, hq1, hq2, hq3⟩ := hQj
            go_wp2_with (first | (go_at_call 49; refine (contra_any x0 x1 x2 x3 x4 y0 y1 y2 y3 y4 b' _ xm1 xm2 ym1 ym2 by1 by2).mono ?_; rintro e W ⟨rfl, bW⟩; rw [hag]; have hbD : Below wr.heap.size wr W := belowCall hBA bW; have hBD : Below w2.heap.size w2 W := belowCall hBi hbD; have hzD : wr.heap.size ≤ W.heap.size := hbD.size; obtain ⟨hrA, hcA, hbA', hszA⟩ := two_news W (i : Int) (j : Int) 2 41 rfl; have hbA := belowCall hbD hbA'; have hBA' := belowCall hBD hbA') | (at_builtin; refine wpList_append_own_at _ rfl _ _ 37 rfl w2.heap.size 41 iq _ 1 24 Try.underlying37 hiq hzq0 hzq1 hzq2 rfl (by decide) _ _ _ rfl (ownKeepQ hq1 hbA) ⟨W.heap.size + 1, 0, none⟩ 1 1 [.slice (some ⟨W.heap.size, 0, none⟩) 2 2] rfl rfl hcA (by intro u hu; simp at hu; subst hu; rfl) (by unfold maxLen; omega) (by omega) (by rw [hszA]; omega) ?_; intro v7 w7 hown7 hg7 hnil7 hl7))
            have hQ' := QqB.snoc hq1 hq2 hq3 hbA hrA (by omega) (by omega) hown7 hg7 hl7
            have hB7 : Below w2.heap.size w2 w7 := hBA'.grown hg7 hBA'.size (fun r e => (hq1.lt r e).1)
            have hE1 := hBj.1.mono hbA
            have hBx7 : BoxA w7 v7 Be (x0, x1, x2, x3, x4) := ⟨hE1.of_block hg7.size (hg7.block Be hE1.1 (fun e => hBj.2 e.symm)), fun e => by
              rcases hl7 with h9 | h9
              · rw [h9] at e; exact hBj.2 e
              · rw [h9] at e; have e2 := Option.some.inj e; rw [hszA] at e2; omega⟩
            have HQ := Lib.hid hQ'
            clear hQ' hown7 hg7 hl7 hnil7 hq1 hq2 hq3 hE1
            go_wp2
            go_roundw
            case rel => exact ⟨j + 1, by omega, by omega, by go_num, by rw [HS.out, ← List.append_assoc, HLE.out]; exact HQ.out, hBx7, hB7⟩
            case measure => simp [Go.RowKit.intOf]; omega
          · have hcon' : conB ap b' (x0, x1, x2, x3, x4) (y0, y1, y2, y3, y4) = false := by simpa using hcon
            have HS := Lib.hid (cnR_no (i := i) HX.out HY.out hcon')
            have HQ := Lib.hid hQj
            have HB := Lib.hid hBj
            clear hQj hBj hcon
            cases heq0 : (x1.toList == y1.toList)
            · have heq : (y1.toList == x1.toList) = false := by rw [← heq0]; exact Bool.beq_comm ..
              go_wp2
              go_roundw
              case rel => exact ⟨j + 1, by omega, by omega, by go_num, by rw [HS.out]; exact HQ.out.below hBA, hBx1, hBA2⟩
              case measure => simp [Go.RowKit.intOf]; omega
            · have heq : (y1.toList == x1.toList) = true := by rw [beq_iff_eq] at heq0 ⊢; exact heq0.symm
              by_cases hle : y0 - x0 ≤ ap
              · have hag : agnB b' (x0, x1, x2, x3, x4) (y0, y1, y2, y3, y4) = false := by
                  simpa [conB, heq0, hle] using hcon'
                have hd : decide (y0 - x0 ≤ ap) = true := by simpa using hle
                clear hcon' heq0
                go_wp2_with (go_at_call 49; refine (contra_any x0 x1 x2 x3 x4 y0 y1 y2 y3 y4 b' _ xm1 xm2 ym1 ym2 by1 by2).mono ?_; rintro e W ⟨rfl, bW⟩; rw [hag])
                go_roundw
                case rel => exact ⟨j + 1, by omega, by omega, by go_num, by rw [HS.out]; exact HQ.out.below (belowCall hBA bW), hBx1.below bW, belowCall hBA2 bW⟩
                case measure => simp [Go.RowKit.intOf]; omega
              · have hd : decide (y0 - x0 ≤ ap) = false := by simpa using hle
                clear hcon' heq0
                go_wp2
                go_roundw
                case rel => exact ⟨j + 1, by omega, by omega, by go_num, by rw [HS.out]; exact HQ.out.below hBA, hBx1, hBA2⟩
                case measure => simp [Go.RowKit.intOf]; omega
        · obtain rfl : j = n := by omega
          rw [← cnP_step] at hQj
          have HQ := Lib.hid hQj
          clear hQj
          go_wp2
          go_roundw
          case rel => exact ⟨i + 1, by omega, by go_num, HQ.out, hBi⟩
          case measure => simp [Go.RowKit.intOf]; omega
    · obtain rfl : i = n := by omega
      have HN : Hid (cnP xs ap b' i i = cnP xs ap b' xs.length xs.length) := Lib.hid (by rw [HL.out])
      rw [HN.out] at hQ
      have HQ := Lib.hid (hQ.low B2.size)
      clear hQ
      go_wp2
      go_ret2
      exact ⟨by rw [HC.out.1, HC.out.2]; exact QqRes.own HQ.out, belowCall B2 hB⟩
end Go.Proofs.Ytichcfahmdlndab
