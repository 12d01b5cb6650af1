/- VarianceOf, both sides. -/
import Derived.Test.YtcjipmpccmppiaaEA
namespace Go.Proofs.Ytcjipmpccmppiaa
open Go.ChangeShapes Go.WideShapes Go.ChangeAt Go.RowKit Go.Deep

theorem psN_bd {xs : List Int} {n : Nat} (h : okMags xs = true) (hn : xs.length = n) : 0 ≤ psN xs n ∧ psN xs n ≤ 4840000000000 := by
  have h100 := okM_len h hn
  have := outQ_bd (B := fun _ => 0) h100 (okM_bd h hn) n (Nat.le_refl _)
  unfold psN
  omega
theorem sq_bd {n : Nat} (h0 : n ≠ 0) (h : n ≤ 100) : 1 ≤ (n : Int) * n ∧ (n : Int) * n ≤ 10000 := by
  have a := aMul (a := (n : Int)) (b := (n : Int)) (A := 100) (B := 100) (by omega) (by omega) (by omega) (by omega)
  have b := Int.mul_le_mul (show (1 : Int) ≤ n by omega) (show (1 : Int) ≤ n by omega) (by omega) (by omega)
  omega
set_option maxRecDepth 100000 in
set_option maxHeartbeats 1000000 in
theorem iVar_any (a : Option Addr) (n c : Nat) (xs : List Int) (w : World) (h : Lst w a n xs) (hn : n ≤ 1048576) :
    Calls Try.prog 16 #[.slice a n c] w fun e w' => FrP (vaF xs) e ∧ Below w.heap.size w w' := by
  have B1 : Below w.heap.size w (w.alloc (.cells #[.int .i64 0, .int .i64 0] 27)) := (Below.refl _ w).alloc (Nat.le_refl _) _
  have h1 := h.mono B1
  have R1 := RF.fresh w 27
  by_cases hz : someCode xs = 0
  rotate_left
  · obtain ⟨cc, hcc⟩ : ∃ cc, someCode xs = cc := ⟨_, rfl⟩
    rw [hcc] at hz
    have HC := Lib.hid (va_no hcc hz)
    have HK := Lib.hid hcc
    have hzd : (cc != 0) = true := by simpa using hz
    clear hz hcc
    go_enter Try.func16, Try.ntmps16
    go_wp2_with fail
    generalize w.alloc (.cells #[.int .i64 0, .int .i64 0] 27) = w1 at B1 h1 R1 ⊢
    refine (checkSome_any a n c xs w1 h1 hn).mono ?_
    rintro e w2 ⟨rfl, b2⟩
    rw [HK.out]
    have R := R1.mono b2
    have B2 := belowCall B1 b2
    obtain ⟨⟨hBl, q0, q1⟩, z0, z1⟩ := R.parts
    go_wp2
    obtain ⟨t0, t1⟩ := R.stored 0 0 rfl
    exact bodyPost_ret (v := .tuple #[.agg #[.int .i64 0, .int .i64 0], .int .i64 cc]) (by simp [results, Try.results16, go_sem, t0, t1]) rfl ⟨FrP.mk HC.out, (B2.setCell (Nat.le_refl _) _).setCell (Nat.le_refl _) _⟩
  obtain ⟨hok, hne⟩ := some_parts hz
  have HC := Lib.hid (va_yes h.1 hz)
  have HK := Lib.hid hz
  have h100 := okM_len hok h.1
  obtain ⟨p1, p2⟩ := psN_bd hok h.1
  obtain ⟨s1, s2⟩ := sq_bd (n := n) (by rw [← h.1]; exact hne) h100
  have hl : (n : Int) ≤ 100 := by omega
  have HP := Lib.hid (fun (W : World) (hW : Lst W a n xs) => pSqOf_any a n c xs W hW hok)
  generalize psN xs n = P at p1 p2 HC HP
  obtain ⟨D, hD⟩ : ∃ D, (n : Int) * n = D := ⟨_, rfl⟩
  rw [hD] at s1 s2 HC
  have wD : IntKind.i64.wrap ((n : Int) * n) = D := by rw [hD]; exact IntWalk.i64_in _ (by omega)
  obtain ⟨x, hx⟩ : ∃ x, lowN P D = x := ⟨_, rfl⟩
  obtain ⟨y, hy⟩ : ∃ x, lowD P D = x := ⟨_, rfl⟩
  have HL : ∀ W, Calls Try.prog 66 #[.agg #[.int .i64 P, .int .i64 D]] W fun e w' => e = .returned (.agg #[.int .i64 x, .int .i64 y]) ∧ Below W.heap.size W w' := fun W => by rw [← hx, ← hy]; exact lowestW_any P D W (by omega) (by omega) (by omega) (by omega)
  rw [hx, hy] at HC
  clear hx hy hz hok hD
  go_enter Try.func16, Try.ntmps16
  go_wp2_with fail
  generalize w.alloc (.cells #[.int .i64 0, .int .i64 0] 27) = w1 at B1 h1 R1 ⊢
  refine (checkSome_any a n c xs w1 h1 hn).mono ?_
  rintro e w2 ⟨rfl, b2⟩
  rw [HK.out]
  have R2 := R1.mono b2
  have B2 := belowCall B1 b2
  have h2 := h1.mono b2
  go_wp2_with fail
  refine (HP.out _ h2).mono ?_
  rintro e w3 ⟨rfl, b3⟩
  have R3 := R2.mono b3
  have B3 := belowCall B2 b3
  go_wp2_with fail
  refine (HL _).mono ?_
  rintro e w4 ⟨rfl, b4⟩
  have R4 := R3.mono b4
  have B4 := belowCall B3 b4
  obtain ⟨⟨hBl, q0, q1⟩, z0, z1⟩ := R4.parts
  go_wp2
  obtain ⟨t0, t1⟩ := R4.stored x y rfl
  exact bodyPost_ret (v := .tuple #[.agg #[.int .i64 x, .int .i64 y], .int .i64 0]) (by simp [results, Try.results16, go_sem, t0, t1]) rfl ⟨FrP.mk HC.out, (B4.setCell (Nat.le_refl _) _).setCell (Nat.le_refl _) _⟩
set_option maxRecDepth 100000 in
set_option maxHeartbeats 1000000 in
theorem sVar_any (a : Option Addr) (n c : Nat) (xs : List Int) (w : World) (h : Lst w a n xs) (hn : n ≤ 1048576) :
    Calls Try.prog 17 #[.slice a n c] w fun e w' => FrP (vaF xs) e ∧ Below w.heap.size w w' := by
  have B1 : Below w.heap.size w (w.alloc (.cells #[.int .i64 0, .int .i64 0] 27)) := (Below.refl _ w).alloc (Nat.le_refl _) _
  have h1 := h.mono B1
  have R1 := RF.fresh w 27
  cases hok : okMags xs
  · have HC : Hid (vaF xs = (0, 0, 2)) := Lib.hid (va_no (by simp [someCode, hok]) (by decide))
    have HK : Hid (listCode xs = 2) := Lib.hid (by simp [listCode, hok])
    go_enter Try.func17, Try.ntmps17
    go_wp2_with fail
    generalize w.alloc (.cells #[.int .i64 0, .int .i64 0] 27) = w1 at B1 h1 R1 ⊢
    refine (l02List_any a n c xs w1 h1 hn).mono ?_
    rintro e w2 ⟨rfl, b2⟩
    rw [HK.out]
    have R := R1.mono b2
    have B2 := belowCall B1 b2
    obtain ⟨⟨hBl, q0, q1⟩, z0, z1⟩ := R.parts
    go_wp2
    obtain ⟨t0, t1⟩ := R.stored 0 0 rfl
    exact bodyPost_ret (v := .tuple #[.agg #[.int .i64 0, .int .i64 0], .int .i64 2]) (by simp [results, Try.results17, go_sem, t0, t1]) rfl ⟨FrP.mk HC.out, (B2.setCell (Nat.le_refl _) _).setCell (Nat.le_refl _) _⟩
  by_cases h0 : n = 0
  · have HC : Hid (vaF xs = (0, 0, 3)) := Lib.hid (va_no (by simp [someCode, hok, h.1, h0]) (by decide))
    have HK : Hid (listCode xs = 0) := Lib.hid (by simp [listCode, hok])
    have hz' : ((n : Int) == 0) = true := by simp [h0]
    clear h0
    go_enter Try.func17, Try.ntmps17
    go_wp2_with fail
    generalize w.alloc (.cells #[.int .i64 0, .int .i64 0] 27) = w1 at B1 h1 R1 ⊢
    refine (l02List_any a n c xs w1 h1 hn).mono ?_
    rintro e w2 ⟨rfl, b2⟩
    rw [HK.out]
    have R := R1.mono b2
    have B2 := belowCall B1 b2
    obtain ⟨⟨hBl, q0, q1⟩, z0, z1⟩ := R.parts
    go_wp2
    obtain ⟨t0, t1⟩ := R.stored 0 0 rfl
    exact bodyPost_ret (v := .tuple #[.agg #[.int .i64 0, .int .i64 0], .int .i64 3]) (by simp [results, Try.results17, go_sem, t0, t1]) rfl ⟨FrP.mk HC.out, (B2.setCell (Nat.le_refl _) _).setCell (Nat.le_refl _) _⟩
  have hz : someCode xs = 0 := by simp [someCode, hok, h.1, h0]
  have HC := Lib.hid (va_yes h.1 hz)
  have HK : Hid (listCode xs = 0) := Lib.hid (by simp [listCode, hok])
  have h100 := okM_len hok h.1
  obtain ⟨p1, p2⟩ := psN_bd hok h.1
  obtain ⟨s1, s2⟩ := sq_bd (n := n) h0 h100
  have hl : (n : Int) ≤ 100 := by omega
  have hz' : ((n : Int) == 0) = false := by simp [h0]
  have HP := Lib.hid (fun (W : World) (hW : Lst W a n xs) => l11Sq_any a n c xs W hW hok)
  generalize psN xs n = P at p1 p2 HC HP
  obtain ⟨D, hD⟩ : ∃ D, (n : Int) * n = D := ⟨_, rfl⟩
  rw [hD] at s1 s2 HC
  have wD : IntKind.i64.wrap ((n : Int) * n) = D := by rw [hD]; exact IntWalk.i64_in _ (by omega)
  obtain ⟨x, hx⟩ : ∃ x, lowN P D = x := ⟨_, rfl⟩
  obtain ⟨y, hy⟩ : ∃ x, lowD P D = x := ⟨_, rfl⟩
  have HL : ∀ W, Calls Try.prog 68 #[.int .i64 P, .int .i64 D] W fun e w' => e = .returned (.agg #[.int .i64 x, .int .i64 y]) ∧ Below W.heap.size W w' := fun W => by rw [← hx, ← hy]; exact l02MakeW_any P D W (by omega) (by omega) (by omega) (by omega)
  rw [hx, hy] at HC
  clear hx hy hz hok hD h0
  go_enter Try.func17, Try.ntmps17
  go_wp2_with fail
  generalize w.alloc (.cells #[.int .i64 0, .int .i64 0] 27) = w1 at B1 h1 R1 ⊢
  refine (l02List_any a n c xs w1 h1 hn).mono ?_
  rintro e w2 ⟨rfl, b2⟩
  rw [HK.out]
  have R2 := R1.mono b2
  have B2 := belowCall B1 b2
  have h2 := h1.mono b2
  go_wp2_with fail
  refine (HP.out _ h2).mono ?_
  rintro e w3 ⟨rfl, b3⟩
  have R3 := R2.mono b3
  have B3 := belowCall B2 b3
  go_wp2_with fail
  refine (HL _).mono ?_
  rintro e w4 ⟨rfl, b4⟩
  have R4 := R3.mono b4
  have B4 := belowCall B3 b4
  obtain ⟨⟨hBl, q0, q1⟩, z0, z1⟩ := R4.parts
  go_wp2
  obtain ⟨t0, t1⟩ := R4.stored x y rfl
  exact bodyPost_ret (v := .tuple #[.agg #[.int .i64 x, .int .i64 y], .int .i64 0]) (by simp [results, Try.results17, go_sem, t0, t1]) rfl ⟨FrP.mk HC.out, (B4.setCell (Nat.le_refl _) _).setCell (Nat.le_refl _) _⟩
end Go.Proofs.Ytcjipmpccmppiaa
