/- The dispersion for a period, the program's. -/
import Derived.Test.YtcjipmpccmppiaaEE
import Derived.Test.YtcjipmpccmppiaaEX
namespace Go.Proofs.Ytcjipmpccmppiaa
open Go.ChangeShapes Go.WideShapes Go.ChangeAt Go.RowKit Go.Deep

/-- block G holds a fraction that is written -/
structure FrS (w : World) (G : Nat) (x y : Int) : Prop where
  lt : G < w.heap.size
  c0 : w.cell? ⟨G, 0, none⟩ = some (.int .i64 x)
  c1 : w.cell? ⟨G, 1, none⟩ = some (.int .i64 y)
  f0 : w.frozen? ⟨G, 0, none⟩ = false
  f1 : w.frozen? ⟨G, 1, none⟩ = false
theorem FrS.mono {w w' : World} {G : Nat} {x y : Int} (h : FrS w G x y) (hb : Below w.heap.size w w') : FrS w' G x y :=
  ⟨Nat.lt_of_lt_of_le h.lt hb.size, (hb.cell (p := ⟨G, 0, none⟩) h.lt).trans h.c0, (hb.cell (p := ⟨G, 1, none⟩) h.lt).trans h.c1, (hb.frozen (p := ⟨G, 0, none⟩) h.lt).trans h.f0, (hb.frozen (p := ⟨G, 1, none⟩) h.lt).trans h.f1⟩
theorem FrS.put0 {w : World} {G : Nat} {x y : Int} (h : FrS w G x y) (z : Int) : FrS (w.setCell ⟨G, 0, none⟩ (.int .i64 z)) G z y :=
  ⟨by simpa using h.lt, scS h.c0, scO (by decide) h.c1, by simp only [World.frozen?_setCell]; exact h.f0, by simp only [World.frozen?_setCell]; exact h.f1⟩
theorem FrS.put1 {w : World} {G : Nat} {x y : Int} (h : FrS w G x y) (z : Int) : FrS (w.setCell ⟨G, 1, none⟩ (.int .i64 z)) G x z :=
  ⟨by simpa using h.lt, scO (by decide) h.c0, scS h.c1, by simp only [World.frozen?_setCell]; exact h.f0, by simp only [World.frozen?_setCell]; exact h.f1⟩
theorem FrS.fresh (w : World) (T : TypeId) (x y : Int) : FrS (w.alloc (.cells #[.int .i64 x, .int .i64 y] T)) w.heap.size x y :=
  ⟨by simp, by rw [World.cell?_alloc_new]; rfl, by rw [World.cell?_alloc_new]; rfl, by go_keep, by go_keep⟩
theorem SmC.far {w : World} {G H : Nat} {c s q : Int} (h : SmC w G c s q) (hne : H ≠ G) (o : Nat) (v : Value) : SmC (w.setCell ⟨H, o, none⟩ v) G c s q :=
  ⟨by simpa using h.lt, (World.cell?_setCell_other _ _ _ _ (by intro e; simp only [Addr.mk.injEq] at e; omega)).trans h.c0, (World.cell?_setCell_other _ _ _ _ (by intro e; simp only [Addr.mk.injEq] at e; omega)).trans h.c1, (World.cell?_setCell_other _ _ _ _ (by intro e; simp only [Addr.mk.injEq] at e; omega)).trans h.c2, by simp only [World.frozen?_setCell]; exact h.f0, by simp only [World.frozen?_setCell]; exact h.f1, by simp only [World.frozen?_setCell]; exact h.f2⟩
theorem trQ_sum {B : Nat → Nat} {m : Nat → Int} {n : Nat} (hn : n ≤ 100) (h : ∀ j, j < n → -2000 ≤ m j ∧ m j ≤ 20000) (k : Nat) : -(10000000000000 * (k : Int)) ≤ sumF (trQ B m n) k ∧ sumF (trQ B m n) k ≤ 10000000000000 * (k : Int) := sumF_bd fun j _ => trQ_bd hn h j
theorem trN_sum {B : Nat → Nat} {n : Nat} (hn : n ≤ 100) (k : Nat) : -(10000 * (k : Int)) ≤ sumF (trN B n) k ∧ sumF (trN B n) k ≤ 10000 * (k : Int) := sumF_bd fun j _ => by have := trN_bd (B := B) hn j; omega
set_option maxRecDepth 100000 in
set_option maxHeartbeats 2000000 in
theorem disp_any (p b : Int) (a : Option Addr) (n c : Nat) (xs : List Pt) (w : World) (h : PtL w a n xs) (hok : okP xs = true) (p1 : 1 ≤ p) (p2 : p ≤ 1000000) (q1 : 1 ≤ b) (q2 : b ≤ 20) :
    Calls Try.prog 77 #[.agg #[.int .i64 0, .int .i64 p, .int .i64 b], .slice a n c] w fun x w' => x = .returned (.agg #[.int .i64 (dpF p b xs n).1, .int .i64 (dpF p b xs n).2]) ∧ Below w.heap.size w w' := by
  obtain ⟨h100, hbd, -⟩ := okP_num h.1 hok
  have hmb := mgX_bd hbd
  obtain ⟨⟨hq1, hq2⟩, hn1, hn2⟩ := dp_bd (p := p) (b := b) h.1 hok
  have HSB := Lib.hid (fun (W : World) (hW : PtL W a n xs) => sbb_any p b a n c xs W hW hok p1 p2 q1 q2)
  have HB1 := Lib.hid (fun k => bCN_bd (bf p b xs) k n)
  have HB2 := Lib.hid (fun k => bCS_bd (B := bf p b xs) (b := k) hmb n (Nat.le_refl _))
  have HB3 := Lib.hid (fun k => bCQ_bd (B := bf p b xs) (b := k) hmb n (Nat.le_refl _))
  have HIX := Lib.hid (fun (i : Nat) (hi : i < 20) (W : World) => arrS_index (smF (bf p b xs) (mgX xs) n) hi W)
  have H0 := Lib.hid (fun q => smF_0 (bf p b xs) (mgX xs) n q)
  have H1 := Lib.hid (fun q => smF_1 (bf p b xs) (mgX xs) n q)
  have H2 := Lib.hid (fun q => smF_2 (bf p b xs) (mgX xs) n q)
  have HT1 : Hid (∀ k, trQ (bf p b xs) (mgX xs) n k = bCN (bf p b xs) k n * bCQ (bf p b xs) (mgX xs) k n - bCS (bf p b xs) (mgX xs) k n * bCS (bf p b xs) (mgX xs) k n) := Lib.hid fun _ => rfl
  have HT2 : Hid (∀ k, trN (bf p b xs) n k = bCN (bf p b xs) k n * (bCN (bf p b xs) k n - 1) / 2) := Lib.hid fun _ => rfl
  have HS1 := Lib.hid (trQ_sum (B := bf p b xs) h100 hmb)
  have HS2 := Lib.hid (trN_sum (B := bf p b xs) h100)
  have HE1 : Hid (sumF (trQ (bf p b xs) (mgX xs) n) 20 = dpQ p b xs n) := Lib.hid (outQ_bins n fun j _ => bf_lt p1 q1 xs (by omega) j)
  have HE2 : Hid (sumF (trN (bf p b xs) n) 20 = dpN p b xs n) := Lib.hid (outN_bins n fun j _ => bf_lt p1 q1 xs (by omega) j)
  have HX1 := Lib.hid (fun k => trQ_bd (B := bf p b xs) h100 hmb k)
  have HX2 := Lib.hid (fun k => trN_bd (B := bf p b xs) h100 k)
  have HD0 := Lib.hid (dpF_0 (p := p) (b := b) (xs := xs) (n := n))
  have HD1 := Lib.hid (dpF_1 (p := p) (b := b) (xs := xs) (n := n))
  obtain ⟨f, hf⟩ : ∃ f, smF (bf p b xs) (mgX xs) n = f := ⟨_, rfl⟩
  rw [hf] at HIX H0 H1 H2
  have HSB2 : Hid (∀ (W : World), PtL W a n xs → Calls Try.prog 108 #[.agg #[.int .i64 0, .int .i64 p, .int .i64 b], .slice a n c] W fun x w' => x = .returned (.agg (arrS f).toArray) ∧ Below W.heap.size W w') := Lib.hid fun W hW => by rw [← hf]; exact HSB.out W hW
  clear HSB hf
  generalize bf p b xs = B at *
  generalize mgX xs = m at *
  generalize dpF p b xs n = DF at *
  generalize dpQ p b xs n = DQ at *
  generalize dpN p b xs n = DN at *
  obtain ⟨tq, htq⟩ : ∃ t, trQ B m n = t := ⟨_, rfl⟩
  obtain ⟨tn, htn⟩ : ∃ t, trN B n = t := ⟨_, rfl⟩
  rw [htq] at HT1 HS1 HE1 HX1
  rw [htn] at HT2 HS2 HE2 HX2
  clear htq htn hmb hbd hok
  have c012 := bp_fresh 0 p b w
  have hb1 : Below w.heap.size w (w.alloc (.cells #[.int .i64 0, .int .i64 p, .int .i64 b] 85)) := (Below.refl _ w).alloc (Nat.le_refl _) _
  have hbv' : Below (w.heap.size + 1) (w.alloc (.cells #[.int .i64 0, .int .i64 p, .int .i64 b] 85)) (((w.alloc (.cells #[.int .i64 0, .int .i64 p, .int .i64 b] 85)).alloc (.cells #[.int .i64 0, .int .i64 0] 27)).alloc (.cells #[.int .i64 0, .int .i64 0] 27)) := ((Below.refl _ _).alloc (by simp) _).alloc (by simp) _
  have hbv : Below w.heap.size w (((w.alloc (.cells #[.int .i64 0, .int .i64 p, .int .i64 b] 85)).alloc (.cells #[.int .i64 0, .int .i64 0] 27)).alloc (.cells #[.int .i64 0, .int .i64 0] 27)) := hb1.trans (hbv'.mono (by omega))
  obtain ⟨-, c0, c1, c2⟩ := c012
  have d0 := (hbv'.cell (p := ⟨w.heap.size, 0, none⟩) (by show w.heap.size < _; omega)).trans c0
  have d1 := (hbv'.cell (p := ⟨w.heap.size, 1, none⟩) (by show w.heap.size < _; omega)).trans c1
  have d2 := (hbv'.cell (p := ⟨w.heap.size, 2, none⟩) (by show w.heap.size < _; omega)).trans c2
  have hR : RF (w.heap.size + 1) (((w.alloc (.cells #[.int .i64 0, .int .i64 p, .int .i64 b] 85)).alloc (.cells #[.int .i64 0, .int .i64 0] 27)).alloc (.cells #[.int .i64 0, .int .i64 0] 27)) := by
    have h := (RF.fresh (w.alloc (.cells #[.int .i64 0, .int .i64 p, .int .i64 b] 85)) 27).mono ((Below.refl _ _).alloc (Nat.le_refl _) (.cells #[.int .i64 0, .int .i64 0] 27))
    rwa [show (w.alloc (.cells #[.int .i64 0, .int .i64 p, .int .i64 b] 85)).heap.size = w.heap.size + 1 by simp] at h
  have hF0 : FrS (((w.alloc (.cells #[.int .i64 0, .int .i64 p, .int .i64 b] 85)).alloc (.cells #[.int .i64 0, .int .i64 0] 27)).alloc (.cells #[.int .i64 0, .int .i64 0] 27)) (w.heap.size + 1 + 1) 0 0 := by
    have h := FrS.fresh ((w.alloc (.cells #[.int .i64 0, .int .i64 p, .int .i64 b] 85)).alloc (.cells #[.int .i64 0, .int .i64 0] 27)) 27 0 0
    rwa [show ((w.alloc (.cells #[.int .i64 0, .int .i64 p, .int .i64 b] 85)).alloc (.cells #[.int .i64 0, .int .i64 0] 27)).heap.size = w.heap.size + 1 + 1 by simp] at h
  clear c0 c1 c2 hb1 hbv'
  go_enter Try.func77, Try.ntmps77
  go_wp2_with fail
  generalize (((w.alloc (.cells #[.int .i64 0, .int .i64 p, .int .i64 b] 85)).alloc (.cells #[.int .i64 0, .int .i64 0] 27)).alloc (.cells #[.int .i64 0, .int .i64 0] 27)) = v at hbv d0 d1 d2 hR hF0 ⊢
  refine (HSB2.out v (h.mono hbv)).mono ?_
  rintro x w4 ⟨rfl, b4⟩
  have B4 := belowCall hbv b4
  have hR4 := hR.mono b4
  have hF4 := hF0.mono b4
  obtain ⟨V, hV⟩ : ∃ V, V = Value.agg (arrS f).toArray := ⟨_, rfl⟩
  rw [← hV] at HIX ⊢
  obtain ⟨F, hF⟩ : ∃ F, w.heap.size + 1 + 1 = F := ⟨_, rfl⟩
  rw [hF] at hF4 ⊢
  have hwF : w.heap.size + 1 < F := by omega
  clear hV HSB2 hF hF0 hR d0 d1 d2
  go_wp2
  go_loopw [11] (fun i wr => ∃ k : Nat, k ≤ 20 ∧ i = .int .i64 k ∧ FrS wr F (sumF tq k) (sumF tn k) ∧ Below F w4 wr) (fun i _ => 20 - (Go.RowKit.intOf i).toNat)
  case atStart => exact ⟨0, by omega, rfl, hF4, Below.refl _ _⟩
  case round =>
    obtain ⟨k, hk, rfl, hFr, hB⟩ := hrel
    have hszr := hB.size
    have s1 := HS1.out k
    have s2 := HS2.out k
    by_cases hlt : k < 20
    · have hix := HIX.out k hlt
      rw [H0.out, H1.out, H2.out] at hix
      have a1 := HB1.out k
      have a2 := HB2.out k
      have a3 := HB3.out k
      have x1 := HX1.out k
      have x2 := HX2.out k
      have t1 := HT1.out k
      have t2 := HT2.out k
      obtain ⟨C, hC⟩ : ∃ C, bCN B k n = C := ⟨_, rfl⟩
      obtain ⟨S, hS⟩ : ∃ C, bCS B m k n = C := ⟨_, rfl⟩
      obtain ⟨Q, hQ⟩ : ∃ C, bCQ B m k n = C := ⟨_, rfl⟩
      rw [hC] at hix a1 t1 t2
      rw [hS] at hix a2 t1
      rw [hQ] at hix a3 t1
      have HN1 : Hid (sumF tq (k + 1) = sumF tq k + tq k) := Lib.hid rfl
      have HN2 : Hid (sumF tn (k + 1) = sumF tn k + tn k) := Lib.hid rfl
      generalize sumF tq k = X at s1 HN1 hFr
      generalize sumF tn k = Y at s2 HN2 hFr
      obtain ⟨U, hU⟩ : ∃ U, tq k = U := ⟨_, rfl⟩
      obtain ⟨T, hT⟩ : ∃ U, tn k = U := ⟨_, rfl⟩
      rw [hU] at x1 t1 HN1
      rw [hT] at x2 t2 HN2
      have hkz : (k : Int) < 20 := by omega
      have hFlt := hFr.lt
      clear hC hS hQ hU hT
      have hSA := SmC.fresh wr 113 C S Q
      have hbA : Below wr.heap.size wr (wr.alloc (.cells #[.int .i64 C, .int .i64 S, .int .i64 Q] 113)) := (Below.refl _ _).alloc (Nat.le_refl _) _
      have hFA := hFr.mono hbA
      have hBA := hB.trans (hbA.mono (by omega))
      have HU : Hid (C * Q - S * S = U) := Lib.hid t1.symm
      have HT : Hid (C * (C - 1) / 2 = T) := Lib.hid t2.symm
      have HPS : ∀ W, Calls Try.prog 114 #[.agg #[.int .i64 C, .int .i64 S, .int .i64 Q]] W fun e w' => e = .returned (.int .i64 U) ∧ Below W.heap.size W w' := fun W => by rw [← HU.out]; exact pSq_any C S Q W (by omega) (by omega) (by omega) (by omega) (by omega) (by omega)
      have HPP : ∀ W, Calls Try.prog 121 #[.agg #[.int .i64 C, .int .i64 S, .int .i64 Q]] W fun e w' => e = .returned (.int .i64 T) ∧ Below W.heap.size W w' := fun W => by rw [← HT.out]; exact pPr_any C S Q W (by omega) (by omega)
      clear t1 t2 hbA hFr
      go_upto_region 5 with fail
      generalize wr.alloc (.cells #[.int .i64 C, .int .i64 S, .int .i64 Q] 113) = wA at hSA hFA hBA ⊢
      have hSlt := hSA.lt
      have hzA := hBA.size
      have hFltA := hFA.lt
      have hneF : F ≠ wr.heap.size := by omega
      have hwX : Hid (IntKind.i64.wrap (X + U) = X + U) := Lib.hid (IntWalk.i64_in _ (by omega))
      have hwY : Hid (IntKind.i64.wrap (Y + T) = Y + T) := Lib.hid (IntWalk.i64_in _ (by omega))
      have qS := hSA
      obtain ⟨-, g0, g1, g2, -, -, -⟩ := qS
      have qF := hFA
      obtain ⟨-, y0, y1, z0, z1⟩ := qF
      go_region_with (first | (go_at_call 114; refine (HPS _).mono ?_; rintro x w5 ⟨rfl, b5⟩; have D5 : Below wA.heap.size wA w5 := belowCall (Below.drew (Below.refl _ _)) b5; have hF5 := hFA.mono D5; have hS5 := hSA.mono D5; have e0 := hF5.c0; have e1 := hF5.c1; have e2 := hF5.f0; have e3 := hF5.f1))
      all_goals
        have hF6 := hF5.put0 (X + U)
        have hS6 := hS5.far hneF 0 (.int .i64 (X + U))
        have hB6 : Below F w4 (w5.setCell ⟨F, 0, none⟩ (.int .i64 (X + U))) := (hBA.trans (D5.mono (by omega))).setCell (Nat.le_refl _) _
        clear e0 e1 e2 e3 g0 g1 g2 y0 y1 z0 z1 hF5 hS5
        go_wp2_with fail
        (try rw [hwX.out])
        generalize w5.setCell ⟨F, 0, none⟩ (.int .i64 (X + U)) = w6 at hF6 hS6 hB6 ⊢
        have qS := hS6
        obtain ⟨hSlt6, g0, g1, g2, -, -, -⟩ := qS
        have qF := hF6
        obtain ⟨hFlt6, y0, y1, z0, z1⟩ := qF
        go_region_with (first | (go_at_call 121; refine (HPP _).mono ?_; rintro x w7 ⟨rfl, b7⟩; have D7 : Below w6.heap.size w6 w7 := belowCall (Below.drew (Below.refl _ _)) b7; have hF7 := hF6.mono D7; have i0 := hF7.c0; have i1 := hF7.c1; have i2 := hF7.f0; have i3 := hF7.f1))
        all_goals
          have HF8 := Lib.hid (hF7.put1 (Y + T))
          have HB8 : Hid (Below F w4 (w7.setCell ⟨F, 1, none⟩ (.int .i64 (Y + T)))) := Lib.hid ((hB6.trans (D7.mono (by omega))).setCell (Nat.le_refl _) _)
          clear hF7
          (try rw [hwY.out])
          go_wp2
          (try rw [hwY.out])
          go_roundw
          case rel => exact ⟨k + 1, by omega, by go_num, by rw [HN1.out, HN2.out]; exact HF8.out, HB8.out⟩
          case measure => simp [Go.RowKit.intOf]; omega
    · obtain rfl : k = 20 := by omega
      have h20 : ((20 : Nat) : Int) = 20 := rfl
      rw [HE1.out, HE2.out] at hFr
      have hRr : RF (w.heap.size + 1) wr := ⟨⟨by have := hR4.1.1; omega, fun f hf => by rw [hB.cell (p := ⟨w.heap.size + 1, 0 + f, none⟩) (by show w.heap.size + 1 < F; omega)]; exact hR4.1.2 f hf⟩, fun f hf => by rw [hB.frozen (p := ⟨w.heap.size + 1, f, none⟩) (by show w.heap.size + 1 < F; omega)]; exact hR4.2 f hf⟩
      have hBW : Below w.heap.size w wr := B4.trans (hB.mono (by omega))
      have qF := hFr
      obtain ⟨hFlt, y0, y1, z0, z1⟩ := qF
      obtain ⟨⟨hBl, r0, r1⟩, u0, u1⟩ := hRr.parts
      by_cases hz : DN = 0
      · have HD := Lib.hid (HD0.out hz)
        have hzd : (DN == 0) = true := by simpa using hz
        clear hz
        go_wp2
        obtain ⟨t0, t1⟩ := hRr.stored 0 0 rfl
        exact bodyPost_ret (v := .agg #[.int .i64 0, .int .i64 0]) (by simp [results, Try.results77, go_sem, t0, t1]) rfl ⟨by rw [HD.out], (hBW.setCell (Nat.le_succ _) _).setCell (Nat.le_succ _) _⟩
      · have HD := Lib.hid (HD1.out hz)
        have hzd : (DN == 0) = false := by simpa using hz
        have hpos : 1 ≤ DN := by omega
        obtain ⟨x, hx⟩ : ∃ x, lowN DQ DN = x := ⟨_, rfl⟩
        obtain ⟨y, hy⟩ : ∃ x, lowD DQ DN = x := ⟨_, rfl⟩
        have HL : ∀ W, Calls Try.prog 66 #[.agg #[.int .i64 DQ, .int .i64 DN]] W fun e w' => e = .returned (.agg #[.int .i64 x, .int .i64 y]) ∧ Below W.heap.size W w' := fun W => by rw [← hx, ← hy]; exact lowestW_any DQ DN W (by omega) (by omega) (by omega) (by omega)
        rw [hx, hy] at HD
        clear hx hy hz
        go_wp2_with fail
        refine (HL _).mono ?_
        rintro e w5 ⟨rfl, b5⟩
        have hR5 := hRr.mono b5
        have hB5 := belowCall hBW b5
        obtain ⟨⟨hBl', r0', r1'⟩, u0', u1'⟩ := hR5.parts
        clear r0 r1 u0 u1 y0 y1 z0 z1
        go_wp2
        obtain ⟨t0, t1⟩ := hR5.stored x y rfl
        exact bodyPost_ret (v := .agg #[.int .i64 x, .int .i64 y]) (by simp [results, Try.results77, go_sem, t0, t1]) rfl ⟨by rw [HD.out], (hB5.setCell (Nat.le_succ _) _).setCell (Nat.le_succ _) _⟩
end Go.Proofs.Ytcjipmpccmppiaa
