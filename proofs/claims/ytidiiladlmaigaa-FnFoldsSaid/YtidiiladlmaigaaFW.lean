/- The model's drawn ephemerides: l09Draw, A2Ephemeris; facts of FnCycles. -/
import Derived.Test.YtidiiladlmaigaaB9
import Derived.Test.YtidiiladlmaigaaF0
import Derived.Test.YtidiiladlmaigaaGPt1
import Derived.Test.YtidiiladlmaigaaFK
namespace Go.Proofs.Ytidiiladlmaigaa
open Go.ChangeShapes Go.WideShapes Go.ChangeAt Go.RowKit Go.Deep

theorem cyc_add20 {e p t : Int} (hp : 1 ≤ p) : cyc e p (t + 20 * p) = cyc e p t + 20 := by
  unfold cyc
  rw [show t + 20 * p - e = (t - e) + 20 * p by omega, Int.add_mul_ediv_right _ _ (by omega)]
theorem cyc_prev {e p t : Int} (hp : 1 ≤ p) : cyc e p t - 1 ≤ cyc e p (t - 1) ∧ cyc e p (t - 1) ≤ cyc e p t := by
  obtain ⟨a1, a2⟩ := cyc_bd (e := e) (t := t) hp
  obtain ⟨b1, b2⟩ := cyc_bd (e := e) (t := t - 1) hp
  obtain ⟨c, hc⟩ : ∃ c, cyc e p t = c := ⟨_, rfl⟩
  obtain ⟨d, hd⟩ : ∃ c, cyc e p (t - 1) = c := ⟨_, rfl⟩
  rw [hc] at a1 a2 ⊢
  rw [hd] at b1 b2 ⊢
  constructor
  · by_cases h : c - 1 ≤ d
    · exact h
    · have := Int.mul_le_mul_of_nonneg_right (show d ≤ c - 2 by omega) (show 0 ≤ p by omega)
      rw [Int.sub_mul] at this
      omega
  · by_cases h : d ≤ c
    · exact h
    · have := Int.mul_le_mul_of_nonneg_right (show c + 1 ≤ d by omega) (show 0 ≤ p by omega)
      rw [Int.add_mul] at this
      omega
theorem tiN_20 {e p t : Int} (hp : 1 ≤ p) : 20 ≤ tiN e p t (t + 20 * p) ∧ tiN e p t (t + 20 * p) ≤ 21 := by
  have h := cyc_prev (e := e) (t := t) hp
  unfold tiN
  rw [cyc_add20 hp]
  omega
theorem nxt_mod {e p t : Int} (hp : 1 ≤ p) : (nxt e p t - e).tmod p = 0 := by
  rw [← nxt_eq hp, show e + (cyc e p (t - 1) + 1) * p - e = p * (cyc e p (t - 1) + 1) by rw [Int.mul_comm]; omega]
  exact Int.tmod_eq_zero_of_dvd ⟨_, rfl⟩
theorem ti_law {e p t : Int} (he : ephB e p = true) (h1 : tmB t = true) (h2 : tmB (t + 20 * p) = true) : tiC e p t (t + 20 * p) = 0 ∧ tiL e p t (t + 20 * p) = tiAll e p t (tiN e p t (t + 20 * p)) := by
  have h := tiN_20 (e := e) (t := t) (ephB_iff.1 he).2.1
  constructor
  · unfold tiC; rw [he, h1, h2, if_pos rfl, if_pos (by rfl), if_pos (by omega)]
  · unfold tiL; rw [he, h1, h2, if_pos (by simp; omega)]
theorem tiAll_at {e p t : Int} {n k : Nat} (hk : k < n) : (tiAll e p t n)[k]?.getD 0 = nxt e p t + (k : Int) * p := by
  simp [tiAll, hk]
set_option maxRecDepth 100000 in
set_option maxHeartbeats 4000000 in
theorem l09Draw_any (g : Nat) (a : Option Addr) (len cap M : Nat) (w : World) (h : Src w 101 g a len cap M) (hb : LstB w g a len) (hM : M ≤ 1000) (hlen : len ≤ 1048576) :
    Calls Try.prog 48 #[.pointer (some ⟨g, 0, none⟩)] w fun x w' => ∃ e p, x = .returned (.agg #[.int .i64 e, .int .i64 p]) ∧ 0 ≤ e ∧ e ≤ 19900 ∧ 1 ≤ p ∧ p ≤ 9000 ∧ Below g w w' := by
  have hgl := src_lt h
  have k0 : Src (w.alloc (.cells #[.int .i64 0, .int .i64 0] 44)) 101 g a len cap M := src_kept h (Below.heap_alloc _ _ _ hgl)
  have k2 : Below g w (w.alloc (.cells #[.int .i64 0, .int .i64 0] 44)) := (Below.refl _ _).alloc (Nat.le_of_lt hgl) _
  have k3 : (w.alloc (.cells #[.int .i64 0, .int .i64 0] 44)).heap.size = w.heap.size + 1 := by simp
  have OR : (w.alloc (.cells #[.int .i64 0, .int .i64 0] 44)).ownsRow w.heap.size 44 1 (.slice (some ⟨w.heap.size, 0, none⟩) 2 2) 2 [.int .i64 0, .int .i64 0] := World.ownsRow_lit w #[.int .i64 0, .int .i64 0] 2 (Nat.le_refl _) (by unfold maxLen; omega) rfl
  go_enter Try.func48, Try.ntmps48
  go_wp2_with fail
  generalize w.alloc (.cells #[.int .i64 0, .int .i64 0] 44) = W0 at k0 k2 k3 OR ⊢
  refine (pick_any 200 199 g a len cap M W0 k0 (hb.below k2) (by omega) hlen (by omega) (by omega) (by omega)).mono ?_
  rintro x W1 ⟨v0, rfl, v00, v01, hs1, hg1⟩
  have OR1 := OR.kept hg1 (.inr (show (some w.heap.size : Option Nat) ≠ some g from fun e => by cases e; omega))
  have z1 := hg1.size
  have B1 : Below g w W1 := k2.trans (grown_below hg1 (Nat.le_refl _) (by omega))
  have hs2 : Src (W1.alloc (.cells #[.int .i64 (100 * v0), .int .i64 0] 44)) 101 g a len cap (M + 2) := src_kept hs1 (Below.heap_alloc _ _ _ (by omega))
  have B2 : Below g w (W1.alloc (.cells #[.int .i64 (100 * v0), .int .i64 0] 44)) := B1.alloc (by omega) _
  have OR2 := OR1.alloc (.cells #[.int .i64 (100 * v0), .int .i64 0] 44)
  have OB2 : (W1.alloc (.cells #[.int .i64 (100 * v0), .int .i64 0] 44)).ownsRow (w.heap.size + 1) 44 1 (.slice (some ⟨W1.heap.size, 0, none⟩) 2 2) 2 [.int .i64 (100 * v0), .int .i64 0] := World.ownsRow_lit W1 #[.int .i64 (100 * v0), .int .i64 0] 2 (by omega) (by unfold maxLen; omega) rfl
  have z2 : (W1.alloc (.cells #[.int .i64 (100 * v0), .int .i64 0] 44)).heap.size = W1.heap.size + 1 := by simp
  clear OR OR1 k0 k2 hg1 hs1 B1
  go_wp2_with fail
  generalize W1.alloc (.cells #[.int .i64 (100 * v0), .int .i64 0] 44) = W2 at hs2 B2 OR2 OB2 z2 ⊢
  obtain ⟨R, hR⟩ : ∃ R, w.heap.size = R := ⟨_, rfl⟩
  obtain ⟨Bx, hBx⟩ : ∃ R, W1.heap.size = R := ⟨_, rfl⟩
  rw [hBx] at OB2 z1 z2 ⊢
  rw [hR] at OR2 OB2 hgl k3 ⊢
  refine (pick_any 60 59 g a len cap (M + 2) W2 hs2 (hb.below B2) (by omega) hlen (by omega) (by omega) (by omega)).mono ?_
  rintro x W3 ⟨v1, rfl, v10, v11, hs3, hg3⟩
  have z3 := hg3.size
  have OR3 := OR2.kept hg3 (.inr (show (some R : Option Nat) ≠ some g from fun e => by cases e; omega))
  have OB3 := OB2.kept hg3 (.inr (show (some Bx : Option Nat) ≠ some g from fun e => by cases e; omega))
  have B3 : Below g w W3 := B2.trans (grown_below hg3 (Nat.le_refl _) (by omega))
  have f3 := OB3.frozenAt 1
  have c3 : W3.cell? ⟨Bx, 1, none⟩ = some (.int .i64 0) := by rw [OB3.cellAt 1 (by omega)]; rfl
  obtain ⟨OB4, hg4⟩ := OB3.stored 1 (.int .i64 (100 * (1 + v1)))
  have OR4 := OR3.kept hg4 (.inr (show (some R : Option Nat) ≠ some Bx from fun e => by cases e; omega))
  have hs4 : Src (W3.setCell ⟨Bx, 1, none⟩ (.int .i64 (100 * (1 + v1)))) 101 g a len cap (M + 2 + 2) := src_kept hs3 (Below.heap_setCell _ _ _ _ (by show g ≠ Bx; omega))
  have B4 : Below g w (W3.setCell ⟨Bx, 1, none⟩ (.int .i64 (100 * (1 + v1)))) := Below.setCell B3 (by show g ≤ Bx; omega) _
  clear OR2 OB2 hs2 hg3 B2 OB3 OR3 hs3 B3 hg4
  go_wp2_with fail
  generalize W3.setCell ⟨Bx, 1, none⟩ (.int .i64 (100 * (1 + v1))) = W4 at OB4 OR4 hs4 B4 ⊢
  have hz4 := (OB4.lt Bx rfl).2
  refine (one_any 3 g a len cap (M + 2 + 2) W4 hs4 (hb.below B4) (by omega) hlen (by omega)).mono ?_
  rintro x W5 ⟨q, rfl, hs5, hg5⟩
  have z5 := hg5.size
  have OR5 := OR4.kept hg5 (.inr (show (some R : Option Nat) ≠ some g from fun e => by cases e; omega))
  have OB5 := OB4.kept hg5 (.inr (show (some Bx : Option Nat) ≠ some g from fun e => by cases e; omega))
  have B5 : Below g w W5 := B4.trans (grown_below hg5 (Nat.le_refl _) (by omega))
  clear OR4 OB4 hs4 B4 hg5 f3 c3
  cases q
  · have x0 := OB5.cellAt 0 (by omega)
    have x1 := OB5.cellAt 1 (by omega)
    have y0 := OR5.cellAt 0 (by omega)
    have y1 := OR5.cellAt 1 (by omega)
    have u0 := OR5.frozenAt 0
    have u1 := OR5.frozenAt 1
    simp at x0 x1 y0 y1
    have hne : Bx ≠ R := by omega
    have hne2 : R ≠ Bx := by omega
    obtain ⟨T1, -⟩ := OR5.stored 0 (.int .i64 (100 * v0))
    obtain ⟨T2, -⟩ := T1.stored 1 (.int .i64 (100 * (1 + v1)))
    have r0 := T2.cellAt 0 (by omega)
    have r1 := T2.cellAt 1 (by omega)
    simp only [List.set_cons_zero, List.set_cons_succ, List.getElem?_cons_zero, List.getElem?_cons_succ] at r0 r1
    have BF : Below g w ((W5.setCell ⟨R, 0, none⟩ (.int .i64 (100 * v0))).setCell ⟨R, 1, none⟩ (.int .i64 (100 * (1 + v1)))) := Below.setCell (Below.setCell B5 (by show g ≤ R; omega) _) (by show g ≤ R; omega) _
    clear T1 T2 OR5 OB5
    go_wp2
    generalize (W5.setCell ⟨R, 0, none⟩ (.int .i64 (100 * v0))).setCell ⟨R, 1, none⟩ (.int .i64 (100 * (1 + v1))) = W9 at r0 r1 BF ⊢
    obtain ⟨ee, he⟩ : ∃ ee, 100 * v0 = ee := ⟨_, rfl⟩
    obtain ⟨pp, hpp⟩ : ∃ ee, 100 * (1 + v1) = ee := ⟨_, rfl⟩
    rw [he] at r0
    rw [hpp] at r1
    (exact bodyPost_ret (v := .agg #[.int .i64 ee, .int .i64 pp]) (by simp [results, Try.results48, go_sem, r0, r1]) rfl ⟨ee, pp, rfl, by omega, by omega, by omega, by omega, BF⟩)
  · go_wp2_with fail
    refine (pick_any 9000 8999 g a len cap (M + 2 + 2 + 2) W5 hs5 (hb.below B5) (by omega) hlen (by omega) (by omega) (by omega)).mono ?_
    rintro x W6 ⟨v2, rfl, v20, v21, hs6, hg6⟩
    have OR6 := OR5.kept hg6 (.inr (show (some R : Option Nat) ≠ some g from fun e => by cases e; omega))
    have OB6 := OB5.kept hg6 (.inr (show (some Bx : Option Nat) ≠ some g from fun e => by cases e; omega))
    have B6 : Below g w W6 := B5.trans (grown_below hg6 (Nat.le_refl _) (by omega))
    have f3 := OB6.frozenAt 1
    have x0 := OB6.cellAt 0 (by omega)
    have x1 := OB6.cellAt 1 (by omega)
    have y0 := OR6.cellAt 0 (by omega)
    have y1 := OR6.cellAt 1 (by omega)
    have u0 := OR6.frozenAt 0
    have u1 := OR6.frozenAt 1
    simp at x0 x1 y0 y1
    have hne : Bx ≠ R := by omega
    have hne2 : R ≠ Bx := by omega
    obtain ⟨OB7, hg7⟩ := OB6.stored 1 (.int .i64 (1 + v2))
    have OR7 := OR6.kept hg7 (.inr (show (some R : Option Nat) ≠ some Bx from fun e => by cases e; omega))
    obtain ⟨T1, -⟩ := OR7.stored 0 (.int .i64 (100 * v0))
    obtain ⟨T2, -⟩ := T1.stored 1 (.int .i64 (1 + v2))
    have r0 := T2.cellAt 0 (by omega)
    have r1 := T2.cellAt 1 (by omega)
    simp only [List.set_cons_zero, List.set_cons_succ, List.getElem?_cons_zero, List.getElem?_cons_succ] at r0 r1
    have BF : Below g w (((W6.setCell ⟨Bx, 1, none⟩ (.int .i64 (1 + v2))).setCell ⟨R, 0, none⟩ (.int .i64 (100 * v0))).setCell ⟨R, 1, none⟩ (.int .i64 (1 + v2))) := Below.setCell (Below.setCell (Below.setCell B6 (by show g ≤ Bx; omega) _) (by show g ≤ R; omega) _) (by show g ≤ R; omega) _
    clear T1 T2 OR7 OB7 hg7 OR6 OB6
    go_wp2
    generalize ((W6.setCell ⟨Bx, 1, none⟩ (.int .i64 (1 + v2))).setCell ⟨R, 0, none⟩ (.int .i64 (100 * v0))).setCell ⟨R, 1, none⟩ (.int .i64 (1 + v2)) = W9 at r0 r1 BF ⊢
    obtain ⟨ee, he⟩ : ∃ ee, 100 * v0 = ee := ⟨_, rfl⟩
    obtain ⟨pp, hpp⟩ : ∃ ee, 1 + v2 = ee := ⟨_, rfl⟩
    rw [he] at r0
    rw [hpp] at r1
    (exact bodyPost_ret (v := .agg #[.int .i64 ee, .int .i64 pp]) (by simp [results, Try.results48, go_sem, r0, r1]) rfl ⟨ee, pp, rfl, by omega, by omega, by omega, by omega, BF⟩)
theorem A2Eph_any (a : Option Addr) (len cap : Nat) (w : World) (hb : LstB w w.heap.size a len) (hlen : len ≤ 1048576) :
    Calls Try.prog 22 #[.slice a len cap] w fun x w' => ∃ e p, x = .returned (.agg #[.int .i64 e, .int .i64 p]) ∧ 0 ≤ e ∧ e ≤ 19900 ∧ 1 ≤ p ∧ p ≤ 9000 ∧ Below w.heap.size w w' := by
  have hB0 : Below w.heap.size w (w.alloc (.cells #[.int .i64 0, .int .i64 0] 44)) := (Below.refl _ _).alloc (Nat.le_refl _) _
  have hb0 : LstB (w.alloc (.cells #[.int .i64 0, .int .i64 0] 44)) (w.alloc (.cells #[.int .i64 0, .int .i64 0] 44)).heap.size a len := fun i hi => by
    obtain ⟨b, off, v, e, hlt, hc, h0, h1⟩ := (hb.below hB0) i hi
    exact ⟨b, off, v, e, by simp; omega, hc, h0, h1⟩
  have OR : (w.alloc (.cells #[.int .i64 0, .int .i64 0] 44)).ownsRow w.heap.size 44 1 (.slice (some ⟨w.heap.size, 0, none⟩) 2 2) 2 [.int .i64 0, .int .i64 0] := World.ownsRow_lit w #[.int .i64 0, .int .i64 0] 2 (Nat.le_refl _) (by unfold maxLen; omega) rfl
  go_enter Try.func22, Try.ntmps22
  go_wp2_with fail
  generalize w.alloc (.cells #[.int .i64 0, .int .i64 0] 44) = W0 at hB0 hb0 OR ⊢
  refine (l00From_any a len cap W0).mono ?_
  rintro x w0 ⟨rfl, hs0, hB1⟩
  have hb1 := hb0.below hB1
  go_wp2_with fail
  refine (l09Draw_any W0.heap.size a len cap 0 w0 hs0 hb1 (by omega) hlen).mono ?_
  rintro x w1 ⟨ee, pp, rfl, e1, e2, p1, p2, hB2⟩
  have hBB : Below W0.heap.size W0 w1 := hB1.trans hB2
  have OR5 := ownKeepF OR hBB
  obtain ⟨T1, -⟩ := OR5.stored 0 (.int .i64 ee)
  obtain ⟨T2, -⟩ := T1.stored 1 (.int .i64 pp)
  have r0 := T2.cellAt 0 (by omega)
  have r1 := T2.cellAt 1 (by omega)
  simp only [List.set_cons_zero, List.set_cons_succ, List.getElem?_cons_zero, List.getElem?_cons_succ] at r0 r1
  have y0 := OR5.cellAt 0 (by omega)
  have y1 := OR5.cellAt 1 (by omega)
  have u0 := OR5.frozenAt 0
  have u1 := OR5.frozenAt 1
  simp at y0 y1
  have BF : Below w.heap.size w ((w1.setCell ⟨w.heap.size, 0, none⟩ (.int .i64 ee)).setCell ⟨w.heap.size, 1, none⟩ (.int .i64 pp)) := Below.setCell (Below.setCell (belowCall hB0 hBB) (Nat.le_refl _) _) (Nat.le_refl _) _
  clear T1 T2 OR5
  go_wp2
  generalize (w1.setCell ⟨w.heap.size, 0, none⟩ (.int .i64 ee)).setCell ⟨w.heap.size, 1, none⟩ (.int .i64 pp) = W9 at r0 r1 BF ⊢
  exact bodyPost_ret (v := .agg #[.int .i64 ee, .int .i64 pp]) (by simp [results, Try.results22, go_sem, r0, r1]) rfl ⟨ee, pp, rfl, e1, e2, p1, p2, BF⟩
end Go.Proofs.Ytidiiladlmaigaa
