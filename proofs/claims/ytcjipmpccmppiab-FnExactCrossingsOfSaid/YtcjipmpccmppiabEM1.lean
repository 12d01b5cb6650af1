/- Crossings, the program's side: crosses, crossing. -/
import Derived.Test.YtcjipmpccmppiabEK5
import Derived.Test.YtcjipmpccmppiabEZ
namespace Go.Proofs.Ytcjipmpccmppiab
open Go.ChangeShapes Go.WideShapes Go.ChangeAt Go.RowKit Go.Deep

theorem box2 (x0 x1 y0 y1 : Int) (w : World) : PtC (World.alloc (w.alloc (.cells #[.int .i64 x0, .int .i64 x1] 40)) (.cells #[.int .i64 y0, .int .i64 y1] 40)) w.heap.size 0 (x0, x1) ∧ PtC (World.alloc (w.alloc (.cells #[.int .i64 x0, .int .i64 x1] 40)) (.cells #[.int .i64 y0, .int .i64 y1] 40)) (w.heap.size + 1) 0 (y0, y1) ∧ Below w.heap.size w (World.alloc (w.alloc (.cells #[.int .i64 x0, .int .i64 x1] 40)) (.cells #[.int .i64 y0, .int .i64 y1] 40)) ∧ (World.heap (World.alloc (w.alloc (.cells #[.int .i64 x0, .int .i64 x1] 40)) (.cells #[.int .i64 y0, .int .i64 y1] 40))).size = w.heap.size + 1 + 1 := by
  have e1 : (w.alloc (.cells #[.int .i64 x0, .int .i64 x1] 40)).heap.size = w.heap.size + 1 := by simp
  have kx := (PtC.fresh w 40 x0 x1).mono ((Below.refl _ _).alloc (Nat.le_refl _) (.cells #[.int .i64 y0, .int .i64 y1] 40))
  have ky := PtC.fresh (w.alloc (.cells #[.int .i64 x0, .int .i64 x1] 40)) 40 y0 y1
  rw [e1] at ky
  exact ⟨kx, ky, ((Below.refl w.heap.size w).alloc (Nat.le_refl _) _).alloc (by rw [e1]; omega) _, by simp⟩
set_option maxHeartbeats 1000000 in
theorem crosses_any (x0 x1 y0 y1 l : Int) (w : World) :
    Calls Try.prog 85 #[.agg #[.int .i64 x0, .int .i64 x1], .agg #[.int .i64 y0, .int .i64 y1], .int .i64 l] w fun e w' => e = .returned (.bool (decide (x1 < l) != decide (y1 < l))) ∧ Below w.heap.size w w' := by
  obtain ⟨kx, ky, bB, -⟩ := box2 x0 x1 y0 y1 w
  go_enter Try.func85, Try.ntmps85
  go_upto_region 1 with fail
  generalize (World.alloc (w.alloc (.cells #[.int .i64 x0, .int .i64 x1] 40)) (.cells #[.int .i64 y0, .int .i64 y1] 40)) = v at *
  obtain ⟨-, k0, k1⟩ := kx.parts
  obtain ⟨-, l0, l1⟩ := ky.parts
  rw [Nat.zero_add] at k1 l1
  obtain ⟨p, hd1⟩ : ∃ p, decide (x1 < l) = p := ⟨_, rfl⟩
  obtain ⟨q, hd2⟩ : ∃ q, decide (y1 < l) = q := ⟨_, rfl⟩
  have HV := Lib.hid (show (decide (x1 < l) != decide (y1 < l)) = (p != q) by rw [hd1, hd2])
  cases p <;> cases q
  all_goals
    simp only [decide_eq_true_eq, decide_eq_false_iff_not] at hd1 hd2
    go_wp2
    go_ret
    exact ⟨by first | rfl | (rw [HV.out]; rfl) | (exact congrArg (fun b => Ending.returned (.bool b)) HV.out.symm) | (simp; omega), by (repeat (first | assumption | exact Below.refl _ _ | refine belowDN ?_ _ | refine Below.drew ?_ | refine Below.setCell ?_ (by first | omega | (simp <;> omega)) _ | refine Below.alloc ?_ (by first | omega | (simp <;> omega)) _ | refine belowCall ?_ (by assumption)))⟩
set_option maxHeartbeats 1000000 in
theorem crossing_any (x0 x1 y0 y1 l : Int) (w : World) (hx : 0 ≤ x0 ∧ x0 ≤ 10000000 ∧ -2000 ≤ x1 ∧ x1 ≤ 20000) (hy : 0 ≤ y0 ∧ y0 ≤ 10000000 ∧ -2000 ≤ y1 ∧ y1 ≤ 20000) (hl : -2000 ≤ l ∧ l ≤ 20000) (hne : y1 - x1 ≠ 0) :
    Calls Try.prog 86 #[.agg #[.int .i64 x0, .int .i64 x1], .agg #[.int .i64 y0, .int .i64 y1], .int .i64 l] w fun e w' => e = .returned (.agg #[.int .i64 (qtN (x0 * (y1 - l) + y0 * (l - x1)) (y1 - x1)), .int .i64 (qtD (x0 * (y1 - l) + y0 * (l - x1)) (y1 - x1))]) ∧ Below w.heap.size w w' := by
  obtain ⟨n1, n2⟩ := cr_num hx hy hl
  obtain ⟨kx0, ky0, bB0, hs⟩ := box2 x0 x1 y0 y1 w
  have bZ : Below (World.heap (World.alloc (w.alloc (.cells #[.int .i64 x0, .int .i64 x1] 40)) (.cells #[.int .i64 y0, .int .i64 y1] 40))).size (World.alloc (w.alloc (.cells #[.int .i64 x0, .int .i64 x1] 40)) (.cells #[.int .i64 y0, .int .i64 y1] 40)) (World.alloc (World.alloc (w.alloc (.cells #[.int .i64 x0, .int .i64 x1] 40)) (.cells #[.int .i64 y0, .int .i64 y1] 40)) (.cells #[.int .i64 0, .int .i64 0] 37)) := (Below.refl _ _).alloc (Nat.le_refl _) _
  have kx := kx0.mono bZ
  have ky := ky0.mono bZ
  have bB := belowCall bB0 bZ
  have R1 : RF (w.heap.size + 1 + 1) (World.alloc (World.alloc (w.alloc (.cells #[.int .i64 x0, .int .i64 x1] 40)) (.cells #[.int .i64 y0, .int .i64 y1] 40)) (.cells #[.int .i64 0, .int .i64 0] 37)) := by
    have h := RF.fresh (World.alloc (w.alloc (.cells #[.int .i64 x0, .int .i64 x1] 40)) (.cells #[.int .i64 y0, .int .i64 y1] 40)) 37
    rwa [hs] at h
  have wr1 : IntKind.i64.wrap (y1 - l) = y1 - l := IntWalk.i64_in _ (by omega)
  have wr2 : IntKind.i64.wrap (l - x1) = l - x1 := IntWalk.i64_in _ (by omega)
  have wr3 : IntKind.i64.wrap (x0 * (y1 - l)) = x0 * (y1 - l) := IntWalk.i64_in _ (by omega)
  have wr4 : IntKind.i64.wrap (y0 * (l - x1)) = y0 * (l - x1) := IntWalk.i64_in _ (by omega)
  have wr5 : IntKind.i64.wrap (x0 * (y1 - l) + y0 * (l - x1)) = x0 * (y1 - l) + y0 * (l - x1) := IntWalk.i64_in _ (by omega)
  have wr6 : IntKind.i64.wrap (y1 - x1) = y1 - x1 := IntWalk.i64_in _ (by omega)
  have HQ := Lib.hid (fun W => quot_any (x0 * (y1 - l) + y0 * (l - x1)) (y1 - x1) W hne (by omega) (by omega) (by omega) (by omega))
  generalize qtN (x0 * (y1 - l) + y0 * (l - x1)) (y1 - x1) = x at HQ ⊢
  generalize qtD (x0 * (y1 - l) + y0 * (l - x1)) (y1 - x1) = y at HQ ⊢
  clear bZ kx0 ky0 bB0 hs hne n1 n2
  go_enter Try.func86, Try.ntmps86
  go_upto_region 1 with fail
  generalize (World.alloc (World.alloc (w.alloc (.cells #[.int .i64 x0, .int .i64 x1] 40)) (.cells #[.int .i64 y0, .int .i64 y1] 40)) (.cells #[.int .i64 0, .int .i64 0] 37)) = v at *
  obtain ⟨-, k0, k1⟩ := kx.parts
  obtain ⟨-, l0, l1⟩ := ky.parts
  rw [Nat.zero_add] at k1 l1
  go_wp2_with fail
  refine (HQ.out _).mono ?_
  rintro e w2 ⟨rfl, b2⟩
  have R2 := R1.mono b2
  have B2 := belowCall bB b2
  obtain ⟨⟨hBl, q0, q1⟩, z0, z1⟩ := R2.parts
  clear bB R1
  go_wp2
  obtain ⟨t0, t1⟩ := R2.stored x y rfl
  exact bodyPost_ret (v := .agg #[.int .i64 x, .int .i64 y]) (by simp [results, Try.results86, go_sem, t0, t1]) rfl ⟨rfl, (B2.setCell (by show w.heap.size ≤ w.heap.size + 1 + 1; omega) _).setCell (by show w.heap.size ≤ w.heap.size + 1 + 1; omega) _⟩
end Go.Proofs.Ytcjipmpccmppiab
