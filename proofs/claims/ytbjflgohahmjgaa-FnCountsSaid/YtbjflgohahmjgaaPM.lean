/- PeriodBetween, both sides. -/
import Derived.Test.YtbjflgohahmjgaaPE
import Derived.Test.YtbjflgohahmjgaaEX
namespace Go.Proofs.Ytbjflgohahmjgaa
open Go.ChangeShapes Go.WideShapes Go.ChangeAt Go.RowKit Go.Deep

/-- PeriodBetween's answer -/
def pbF (a b : Mi) : Int × Int × Int := if miB a && miB b then (if a.1 = b.1 then (0, 0, 6) else (qtN (b.2 - a.2) (b.1 - a.1), qtD (b.2 - a.2) (b.1 - a.1), 0)) else (0, 0, 2)
theorem pb_2 {a b : Mi} (h : (miB a && miB b) = false) : pbF a b = (0, 0, 2) := by simp [pbF, h]
theorem pb_6 {a b : Mi} (h : (miB a && miB b) = true) (h2 : a.1 = b.1) : pbF a b = (0, 0, 6) := by simp [pbF, h, h2]
theorem pb_0 {a b : Mi} (h : (miB a && miB b) = true) (h2 : ¬ a.1 = b.1) : pbF a b = (qtN (b.2 - a.2) (b.1 - a.1), qtD (b.2 - a.2) (b.1 - a.1), 0) := by simp [pbF, h, h2]
theorem pb_boxes (w : World) (a0 a1 b0 b1 : Int) (T U : TypeId) : Bx2 w (((w.alloc (.cells #[.int .i64 a0, .int .i64 a1] T)).alloc (.cells #[.int .i64 b0, .int .i64 b1] T)).alloc (.cells #[.int .i64 0, .int .i64 0] U)) a0 a1 b0 b1 ∧ RF (w.heap.size + 1 + 1) (((w.alloc (.cells #[.int .i64 a0, .int .i64 a1] T)).alloc (.cells #[.int .i64 b0, .int .i64 b1] T)).alloc (.cells #[.int .i64 0, .int .i64 0] U)) := by
  have e2 : ((w.alloc (.cells #[.int .i64 a0, .int .i64 a1] T)).alloc (.cells #[.int .i64 b0, .int .i64 b1] T)).heap.size = w.heap.size + 1 + 1 := by simp
  have h := RF.fresh ((w.alloc (.cells #[.int .i64 a0, .int .i64 a1] T)).alloc (.cells #[.int .i64 b0, .int .i64 b1] T)) U
  rw [e2] at h
  exact ⟨(Bx2.fresh w a0 a1 b0 b1 T T).mono ((Below.refl _ _).alloc (Nat.le_refl _) _), h⟩
set_option maxRecDepth 100000 in
set_option maxHeartbeats 2000000 in
theorem iPer_any (a0 a1 b0 b1 : Int) (w : World) :
    Calls Try.prog 15 #[.agg #[.int .i64 a0, .int .i64 a1], .agg #[.int .i64 b0, .int .i64 b1]] w fun x w' => FrP (pbF (a0, a1) (b0, b1)) x ∧ Below w.heap.size w w' := by
  obtain ⟨hx, hR⟩ := pb_boxes w a0 a1 b0 b1 34 30
  cases h1 : miB (a0, a1)
  · have HC := Lib.hid (pb_2 (a := (a0, a1)) (b := (b0, b1)) (by rw [h1]; rfl))
    go_enter Try.func15, Try.ntmps15
    (go_upto_region 1 with fail; generalize (((w.alloc (.cells #[.int .i64 a0, .int .i64 a1] 34)).alloc (.cells #[.int .i64 b0, .int .i64 b1] 34)).alloc (.cells #[.int .i64 0, .int .i64 0] 30)) = v at hx hR ⊢; obtain ⟨⟨ca0, ca1⟩, cb0, cb1⟩ := hx.cells)
    go_wp2_with fail
    refine (miValid_any a0 a1 _).mono ?_
    rintro x w2 ⟨rfl, b2⟩
    rw [h1]
    replace hx := hx.mono b2
    replace hR := hR.mono b2
    clear ca0 ca1 cb0 cb1
    obtain ⟨⟨hBl, q0, q1⟩, z0, z1⟩ := hR.parts
    go_wp2
    obtain ⟨t0, t1⟩ := hR.stored 0 0 rfl
    exact bodyPost_ret (v := .tuple #[.agg #[.int .i64 0, .int .i64 0], .int .i64 2]) (by simp [results, Try.results15, go_sem, t0, t1]) rfl ⟨FrP.mk HC.out, (hx.below.setCell (by show w.heap.size ≤ w.heap.size + 1 + 1; omega) _).setCell (by show w.heap.size ≤ w.heap.size + 1 + 1; omega) _⟩
  cases h2 : miB (b0, b1)
  · have HC := Lib.hid (pb_2 (a := (a0, a1)) (b := (b0, b1)) (by rw [h1, h2]; rfl))
    go_enter Try.func15, Try.ntmps15
    (go_upto_region 1 with fail; generalize (((w.alloc (.cells #[.int .i64 a0, .int .i64 a1] 34)).alloc (.cells #[.int .i64 b0, .int .i64 b1] 34)).alloc (.cells #[.int .i64 0, .int .i64 0] 30)) = v at hx hR ⊢; obtain ⟨⟨ca0, ca1⟩, cb0, cb1⟩ := hx.cells)
    go_wp2_with fail
    refine (miValid_any a0 a1 _).mono ?_
    rintro x w2 ⟨rfl, b2⟩
    rw [h1]
    replace hx := hx.mono b2
    replace hR := hR.mono b2
    clear ca0 ca1 cb0 cb1
    obtain ⟨⟨ca0, ca1⟩, cb0, cb1⟩ := hx.cells
    go_wp2_with fail
    refine (miValid_any b0 b1 _).mono ?_
    rintro x w3 ⟨rfl, b3⟩
    rw [h2]
    replace hx := hx.mono b3
    replace hR := hR.mono b3
    clear ca0 ca1 cb0 cb1
    obtain ⟨⟨hBl, q0, q1⟩, z0, z1⟩ := hR.parts
    go_wp2
    obtain ⟨t0, t1⟩ := hR.stored 0 0 rfl
    exact bodyPost_ret (v := .tuple #[.agg #[.int .i64 0, .int .i64 0], .int .i64 2]) (by simp [results, Try.results15, go_sem, t0, t1]) rfl ⟨FrP.mk HC.out, (hx.below.setCell (by show w.heap.size ≤ w.heap.size + 1 + 1; omega) _).setCell (by show w.heap.size ≤ w.heap.size + 1 + 1; omega) _⟩
  have hv : (miB (a0, a1) && miB (b0, b1)) = true := by rw [h1, h2]; rfl
  obtain ⟨⟨v1, v2⟩, v3, v4⟩ := miB_iff.1 h1
  obtain ⟨⟨v5, v6⟩, v7, v8⟩ := miB_iff.1 h2
  by_cases h3 : a0 = b0
  · have HC := Lib.hid (pb_6 hv h3)
    have h3d : (a0 == b0) = true := by simpa using h3
    clear h3
    go_enter Try.func15, Try.ntmps15
    (go_upto_region 1 with fail; generalize (((w.alloc (.cells #[.int .i64 a0, .int .i64 a1] 34)).alloc (.cells #[.int .i64 b0, .int .i64 b1] 34)).alloc (.cells #[.int .i64 0, .int .i64 0] 30)) = v at hx hR ⊢; obtain ⟨⟨ca0, ca1⟩, cb0, cb1⟩ := hx.cells)
    go_wp2_with fail
    refine (miValid_any a0 a1 _).mono ?_
    rintro x w2 ⟨rfl, b2⟩
    rw [h1]
    replace hx := hx.mono b2
    replace hR := hR.mono b2
    clear ca0 ca1 cb0 cb1
    obtain ⟨⟨ca0, ca1⟩, cb0, cb1⟩ := hx.cells
    go_wp2_with fail
    refine (miValid_any b0 b1 _).mono ?_
    rintro x w3 ⟨rfl, b3⟩
    rw [h2]
    replace hx := hx.mono b3
    replace hR := hR.mono b3
    clear ca0 ca1 cb0 cb1
    obtain ⟨⟨ca0, ca1⟩, cb0, cb1⟩ := hx.cells
    obtain ⟨⟨hBl, q0, q1⟩, z0, z1⟩ := hR.parts
    go_wp2
    obtain ⟨t0, t1⟩ := hR.stored 0 0 rfl
    exact bodyPost_ret (v := .tuple #[.agg #[.int .i64 0, .int .i64 0], .int .i64 6]) (by simp [results, Try.results15, go_sem, t0, t1]) rfl ⟨FrP.mk HC.out, (hx.below.setCell (by show w.heap.size ≤ w.heap.size + 1 + 1; omega) _).setCell (by show w.heap.size ≤ w.heap.size + 1 + 1; omega) _⟩
  · have HC := Lib.hid (pb_0 hv h3)
    have h3d : (a0 == b0) = false := by simpa using h3
    have HQ : ∀ W, Calls Try.prog 42 #[.int .i64 (b1 - a1), .int .i64 (b0 - a0)] W fun e w' => e = .returned (.agg #[.int .i64 (qtN (b1 - a1) (b0 - a0)), .int .i64 (qtD (b1 - a1) (b0 - a0))]) ∧ Below W.heap.size W w' := fun W => by
      exact quot_any (b1 - a1) (b0 - a0) W (by omega) (by omega) (by omega) (by omega) (by omega)
    generalize qtN (b1 - a1) (b0 - a0) = X at HQ HC
    generalize qtD (b1 - a1) (b0 - a0) = Y at HQ HC
    clear h3
    go_enter Try.func15, Try.ntmps15
    (go_upto_region 1 with fail; generalize (((w.alloc (.cells #[.int .i64 a0, .int .i64 a1] 34)).alloc (.cells #[.int .i64 b0, .int .i64 b1] 34)).alloc (.cells #[.int .i64 0, .int .i64 0] 30)) = v at hx hR ⊢; obtain ⟨⟨ca0, ca1⟩, cb0, cb1⟩ := hx.cells)
    go_wp2_with fail
    refine (miValid_any a0 a1 _).mono ?_
    rintro x w2 ⟨rfl, b2⟩
    rw [h1]
    replace hx := hx.mono b2
    replace hR := hR.mono b2
    clear ca0 ca1 cb0 cb1
    obtain ⟨⟨ca0, ca1⟩, cb0, cb1⟩ := hx.cells
    go_wp2_with fail
    refine (miValid_any b0 b1 _).mono ?_
    rintro x w3 ⟨rfl, b3⟩
    rw [h2]
    replace hx := hx.mono b3
    replace hR := hR.mono b3
    clear ca0 ca1 cb0 cb1
    obtain ⟨⟨ca0, ca1⟩, cb0, cb1⟩ := hx.cells
    go_wp2_with fail
    refine (HQ _).mono ?_
    rintro x w4 ⟨rfl, b4⟩
    replace hx := hx.mono b4
    replace hR := hR.mono b4
    clear ca0 ca1 cb0 cb1
    obtain ⟨⟨hBl, q0, q1⟩, z0, z1⟩ := hR.parts
    go_wp2
    obtain ⟨t0, t1⟩ := hR.stored X Y rfl
    exact bodyPost_ret (v := .tuple #[.agg #[.int .i64 X, .int .i64 Y], .int .i64 0]) (by simp [results, Try.results15, go_sem, t0, t1]) rfl ⟨FrP.mk HC.out, (hx.below.setCell (by show w.heap.size ≤ w.heap.size + 1 + 1; omega) _).setCell (by show w.heap.size ≤ w.heap.size + 1 + 1; omega) _⟩
set_option maxRecDepth 100000 in
set_option maxHeartbeats 2000000 in
theorem sPer_any (a0 a1 b0 b1 : Int) (w : World) :
    Calls Try.prog 32 #[.agg #[.int .i64 a0, .int .i64 a1], .agg #[.int .i64 b0, .int .i64 b1]] w fun x w' => FrP (pbF (a0, a1) (b0, b1)) x ∧ Below w.heap.size w w' := by
  obtain ⟨hx, hR⟩ := pb_boxes w a0 a1 b0 b1 34 30
  cases h1 : miB (a0, a1)
  · have HC := Lib.hid (pb_2 (a := (a0, a1)) (b := (b0, b1)) (by rw [h1]; rfl))
    go_enter Try.func32, Try.ntmps32
    (go_upto_region 1 with fail; generalize (((w.alloc (.cells #[.int .i64 a0, .int .i64 a1] 34)).alloc (.cells #[.int .i64 b0, .int .i64 b1] 34)).alloc (.cells #[.int .i64 0, .int .i64 0] 30)) = v at hx hR ⊢; obtain ⟨⟨ca0, ca1⟩, cb0, cb1⟩ := hx.cells)
    go_wp2_with fail
    refine (l13One_any a0 a1 _).mono ?_
    rintro x w2 ⟨rfl, b2⟩
    rw [h1]
    replace hx := hx.mono b2
    replace hR := hR.mono b2
    clear ca0 ca1 cb0 cb1
    obtain ⟨⟨hBl, q0, q1⟩, z0, z1⟩ := hR.parts
    go_wp2
    obtain ⟨t0, t1⟩ := hR.stored 0 0 rfl
    exact bodyPost_ret (v := .tuple #[.agg #[.int .i64 0, .int .i64 0], .int .i64 2]) (by simp [results, Try.results32, go_sem, t0, t1]) rfl ⟨FrP.mk HC.out, (hx.below.setCell (by show w.heap.size ≤ w.heap.size + 1 + 1; omega) _).setCell (by show w.heap.size ≤ w.heap.size + 1 + 1; omega) _⟩
  cases h2 : miB (b0, b1)
  · have HC := Lib.hid (pb_2 (a := (a0, a1)) (b := (b0, b1)) (by rw [h1, h2]; rfl))
    go_enter Try.func32, Try.ntmps32
    (go_upto_region 1 with fail; generalize (((w.alloc (.cells #[.int .i64 a0, .int .i64 a1] 34)).alloc (.cells #[.int .i64 b0, .int .i64 b1] 34)).alloc (.cells #[.int .i64 0, .int .i64 0] 30)) = v at hx hR ⊢; obtain ⟨⟨ca0, ca1⟩, cb0, cb1⟩ := hx.cells)
    go_wp2_with fail
    refine (l13One_any a0 a1 _).mono ?_
    rintro x w2 ⟨rfl, b2⟩
    rw [h1]
    replace hx := hx.mono b2
    replace hR := hR.mono b2
    clear ca0 ca1 cb0 cb1
    obtain ⟨⟨ca0, ca1⟩, cb0, cb1⟩ := hx.cells
    go_wp2_with fail
    refine (l13One_any b0 b1 _).mono ?_
    rintro x w3 ⟨rfl, b3⟩
    rw [h2]
    replace hx := hx.mono b3
    replace hR := hR.mono b3
    clear ca0 ca1 cb0 cb1
    obtain ⟨⟨hBl, q0, q1⟩, z0, z1⟩ := hR.parts
    go_wp2
    obtain ⟨t0, t1⟩ := hR.stored 0 0 rfl
    exact bodyPost_ret (v := .tuple #[.agg #[.int .i64 0, .int .i64 0], .int .i64 2]) (by simp [results, Try.results32, go_sem, t0, t1]) rfl ⟨FrP.mk HC.out, (hx.below.setCell (by show w.heap.size ≤ w.heap.size + 1 + 1; omega) _).setCell (by show w.heap.size ≤ w.heap.size + 1 + 1; omega) _⟩
  have hv : (miB (a0, a1) && miB (b0, b1)) = true := by rw [h1, h2]; rfl
  obtain ⟨⟨v1, v2⟩, v3, v4⟩ := miB_iff.1 h1
  obtain ⟨⟨v5, v6⟩, v7, v8⟩ := miB_iff.1 h2
  by_cases h3 : a0 = b0
  · have HC := Lib.hid (pb_6 hv h3)
    have h3d : (a0 == b0) = true := by simpa using h3
    clear h3
    go_enter Try.func32, Try.ntmps32
    (go_upto_region 1 with fail; generalize (((w.alloc (.cells #[.int .i64 a0, .int .i64 a1] 34)).alloc (.cells #[.int .i64 b0, .int .i64 b1] 34)).alloc (.cells #[.int .i64 0, .int .i64 0] 30)) = v at hx hR ⊢; obtain ⟨⟨ca0, ca1⟩, cb0, cb1⟩ := hx.cells)
    go_wp2_with fail
    refine (l13One_any a0 a1 _).mono ?_
    rintro x w2 ⟨rfl, b2⟩
    rw [h1]
    replace hx := hx.mono b2
    replace hR := hR.mono b2
    clear ca0 ca1 cb0 cb1
    obtain ⟨⟨ca0, ca1⟩, cb0, cb1⟩ := hx.cells
    go_wp2_with fail
    refine (l13One_any b0 b1 _).mono ?_
    rintro x w3 ⟨rfl, b3⟩
    rw [h2]
    replace hx := hx.mono b3
    replace hR := hR.mono b3
    clear ca0 ca1 cb0 cb1
    obtain ⟨⟨ca0, ca1⟩, cb0, cb1⟩ := hx.cells
    obtain ⟨⟨hBl, q0, q1⟩, z0, z1⟩ := hR.parts
    go_wp2
    obtain ⟨t0, t1⟩ := hR.stored 0 0 rfl
    exact bodyPost_ret (v := .tuple #[.agg #[.int .i64 0, .int .i64 0], .int .i64 6]) (by simp [results, Try.results32, go_sem, t0, t1]) rfl ⟨FrP.mk HC.out, (hx.below.setCell (by show w.heap.size ≤ w.heap.size + 1 + 1; omega) _).setCell (by show w.heap.size ≤ w.heap.size + 1 + 1; omega) _⟩
  by_cases hlt0 : b0 < a0
  · have HC := Lib.hid (pb_0 hv h3)
    have h3d : (a0 == b0) = false := by simpa using h3
    have hlt : b0 < a0 := hlt0
    have hld : decide (b0 < a0) = true := by simpa using hlt0
    have HQ : ∀ W, Calls Try.prog 58 #[.int .i64 (a1 - b1), .int .i64 (a0 - b0)] W fun e w' => e = .returned (.agg #[.int .i64 (qtN (b1 - a1) (b0 - a0)), .int .i64 (qtD (b1 - a1) (b0 - a0))]) ∧ Below W.heap.size W w' := fun W => by
      obtain ⟨e1, e2⟩ := qt_neg (a := b1 - a1) (b := b0 - a0) (by omega)
      rw [e1, e2, show -(b1 - a1) = a1 - b1 by omega, show -(b0 - a0) = a0 - b0 by omega]
      exact l02Make_any (a1 - b1) (a0 - b0) W (by omega) (by omega) (by omega) (by omega)
    generalize qtN (b1 - a1) (b0 - a0) = X at HQ HC
    generalize qtD (b1 - a1) (b0 - a0) = Y at HQ HC
    clear h3 hlt0
    go_enter Try.func32, Try.ntmps32
    (go_upto_region 1 with fail; generalize (((w.alloc (.cells #[.int .i64 a0, .int .i64 a1] 34)).alloc (.cells #[.int .i64 b0, .int .i64 b1] 34)).alloc (.cells #[.int .i64 0, .int .i64 0] 30)) = v at hx hR ⊢; obtain ⟨⟨ca0, ca1⟩, cb0, cb1⟩ := hx.cells)
    go_wp2_with fail
    refine (l13One_any a0 a1 _).mono ?_
    rintro x w2 ⟨rfl, b2⟩
    rw [h1]
    replace hx := hx.mono b2
    replace hR := hR.mono b2
    clear ca0 ca1 cb0 cb1
    obtain ⟨⟨ca0, ca1⟩, cb0, cb1⟩ := hx.cells
    go_wp2_with fail
    refine (l13One_any b0 b1 _).mono ?_
    rintro x w3 ⟨rfl, b3⟩
    rw [h2]
    replace hx := hx.mono b3
    replace hR := hR.mono b3
    clear ca0 ca1 cb0 cb1
    obtain ⟨⟨ca0, ca1⟩, cb0, cb1⟩ := hx.cells
    go_wp2_with fail
    refine (HQ _).mono ?_
    rintro x w4 ⟨rfl, b4⟩
    replace hx := hx.mono b4
    replace hR := hR.mono b4
    clear ca0 ca1 cb0 cb1
    obtain ⟨⟨hBl, q0, q1⟩, z0, z1⟩ := hR.parts
    go_wp2
    obtain ⟨t0, t1⟩ := hR.stored X Y rfl
    exact bodyPost_ret (v := .tuple #[.agg #[.int .i64 X, .int .i64 Y], .int .i64 0]) (by simp [results, Try.results32, go_sem, t0, t1]) rfl ⟨FrP.mk HC.out, (hx.below.setCell (by show w.heap.size ≤ w.heap.size + 1 + 1; omega) _).setCell (by show w.heap.size ≤ w.heap.size + 1 + 1; omega) _⟩
  · have HC := Lib.hid (pb_0 hv h3)
    have h3d : (a0 == b0) = false := by simpa using h3
    have hlt : ¬ b0 < a0 := hlt0
    have hld : decide (b0 < a0) = false := by simpa using hlt0
    have HQ : ∀ W, Calls Try.prog 58 #[.int .i64 (b1 - a1), .int .i64 (b0 - a0)] W fun e w' => e = .returned (.agg #[.int .i64 (qtN (b1 - a1) (b0 - a0)), .int .i64 (qtD (b1 - a1) (b0 - a0))]) ∧ Below W.heap.size W w' := fun W => by
      obtain ⟨e1, e2⟩ := qt_pos (a := b1 - a1) (b := b0 - a0) (by omega)
      rw [e1, e2]
      exact l02Make_any (b1 - a1) (b0 - a0) W (by omega) (by omega) (by omega) (by omega)
    generalize qtN (b1 - a1) (b0 - a0) = X at HQ HC
    generalize qtD (b1 - a1) (b0 - a0) = Y at HQ HC
    clear h3 hlt0
    go_enter Try.func32, Try.ntmps32
    (go_upto_region 1 with fail; generalize (((w.alloc (.cells #[.int .i64 a0, .int .i64 a1] 34)).alloc (.cells #[.int .i64 b0, .int .i64 b1] 34)).alloc (.cells #[.int .i64 0, .int .i64 0] 30)) = v at hx hR ⊢; obtain ⟨⟨ca0, ca1⟩, cb0, cb1⟩ := hx.cells)
    go_wp2_with fail
    refine (l13One_any a0 a1 _).mono ?_
    rintro x w2 ⟨rfl, b2⟩
    rw [h1]
    replace hx := hx.mono b2
    replace hR := hR.mono b2
    clear ca0 ca1 cb0 cb1
    obtain ⟨⟨ca0, ca1⟩, cb0, cb1⟩ := hx.cells
    go_wp2_with fail
    refine (l13One_any b0 b1 _).mono ?_
    rintro x w3 ⟨rfl, b3⟩
    rw [h2]
    replace hx := hx.mono b3
    replace hR := hR.mono b3
    clear ca0 ca1 cb0 cb1
    obtain ⟨⟨ca0, ca1⟩, cb0, cb1⟩ := hx.cells
    go_wp2_with fail
    refine (HQ _).mono ?_
    rintro x w4 ⟨rfl, b4⟩
    replace hx := hx.mono b4
    replace hR := hR.mono b4
    clear ca0 ca1 cb0 cb1
    obtain ⟨⟨hBl, q0, q1⟩, z0, z1⟩ := hR.parts
    go_wp2
    obtain ⟨t0, t1⟩ := hR.stored X Y rfl
    exact bodyPost_ret (v := .tuple #[.agg #[.int .i64 X, .int .i64 Y], .int .i64 0]) (by simp [results, Try.results32, go_sem, t0, t1]) rfl ⟨FrP.mk HC.out, (hx.below.setCell (by show w.heap.size ≤ w.heap.size + 1 + 1; omega) _).setCell (by show w.heap.size ≤ w.heap.size + 1 + 1; omega) _⟩
end Go.Proofs.Ytbjflgohahmjgaa
