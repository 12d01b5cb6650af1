/- VertexTime, both sides, on. -/
import Derived.Test.YtidiiladlmaigaaEVT
namespace Go.Proofs.Ytidiiladlmaigaa
open Go.ChangeShapes Go.WideShapes Go.ChangeAt Go.RowKit Go.Deep

/-- what a parabola through three points is, in its cells -/
def vxU (a b c : Pt) : Int := (b.1 - a.1) * (c.1 - b.1) * ((b.1 - a.1) + (c.1 - b.1))
theorem vx_parts {a b c : Pt} (h : vxC a b c = 0) : okP [a, b, c] = true ∧ ¬ 100000 < c.1 - a.1 ∧ vxB a b c ≠ 0 := by
  unfold vxC at h
  cases h1 : okP [a, b, c]
  · simp [h1] at h
  · by_cases h2 : 100000 < c.1 - a.1
    · simp [h1, h2] at h
    · by_cases h3 : vxB a b c = 0
      · simp [h1, h2, h3] at h
      · exact ⟨rfl, h2, h3⟩
set_option maxRecDepth 100000 in
set_option maxHeartbeats 2000000 in
theorem bentY_any (a0 a1 b0 b1 c0 c1 : Int) (w : World) (hk : vxC (a0, a1) (b0, b1) (c0, c1) = 0) :
    Calls Try.prog 33 #[.agg #[.int .i64 a0, .int .i64 a1], .agg #[.int .i64 b0, .int .i64 b1], .agg #[.int .i64 c0, .int .i64 c1]] w fun x w' => x = .returned (.tuple #[.agg #[.int .i64 b0, .int .i64 b1, .int .i64 (vxS (a0, a1) (b0, b1) (c0, c1)), .int .i64 (vxB (a0, a1) (b0, b1) (c0, c1)), .int .i64 (vxU (a0, a1) (b0, b1) (c0, c1))], .int .i64 0]) ∧ Below w.heap.size w w' := by
  obtain ⟨hok, hr, hb⟩ := vx_parts hk
  simp only at hr
  have hx0 := (Bx3.fresh w a0 a1 b0 b1 c0 c1)
  have hx := hx0.mono ((Below.refl _ _).alloc (Nat.le_refl _) (.cells #[.int .i64 0, .int .i64 0, .int .i64 0, .int .i64 0, .int .i64 0] 64))
  have hR : RP (w.heap.size + 1 + 1 + 1) (World.alloc (((w.alloc (.cells #[.int .i64 a0, .int .i64 a1] 28)).alloc (.cells #[.int .i64 b0, .int .i64 b1] 28)).alloc (.cells #[.int .i64 c0, .int .i64 c1] 28)) (.cells #[.int .i64 0, .int .i64 0, .int .i64 0, .int .i64 0, .int .i64 0] 64)) := by
    have h := RP.fresh (((w.alloc (.cells #[.int .i64 a0, .int .i64 a1] 28)).alloc (.cells #[.int .i64 b0, .int .i64 b1] 28)).alloc (.cells #[.int .i64 c0, .int .i64 c1] 28)) 64
    rwa [show (World.heap (((w.alloc (.cells #[.int .i64 a0, .int .i64 a1] 28)).alloc (.cells #[.int .i64 b0, .int .i64 b1] 28)).alloc (.cells #[.int .i64 c0, .int .i64 c1] 28))).size = w.heap.size + 1 + 1 + 1 by simp] at h
  obtain ⟨q3, q4, q5, q6⟩ := ok3 hok
  simp only at q3 q4 q5 q6
  have hPT : ∀ W, Calls Try.prog 57 #[.agg #[.int .i64 a0, .int .i64 a1], .agg #[.int .i64 b0, .int .i64 b1], .agg #[.int .i64 c0, .int .i64 c1]] W fun x w' => x = .returned (.agg #[.int .i64 b0, .int .i64 b1, .int .i64 (vxS (a0, a1) (b0, b1) (c0, c1)), .int .i64 (vxB (a0, a1) (b0, b1) (c0, c1)), .int .i64 (vxU (a0, a1) (b0, b1) (c0, c1))]) ∧ Below W.heap.size W w' := fun W => parT_val a0 a1 b0 b1 c0 c1 W hok hr
  generalize vxS (a0, a1) (b0, b1) (c0, c1) = S at hPT ⊢
  generalize vxB (a0, a1) (b0, b1) (c0, c1) = B at hPT hb ⊢
  generalize vxU (a0, a1) (b0, b1) (c0, c1) = U at hPT ⊢
  have hBd : (B == 0) = false := by simpa using hb
  clear hx0 hk hb
  go_enter Try.func33, Try.ntmps33
  go_upto_region 1 with fail
  generalize (World.alloc (((w.alloc (.cells #[.int .i64 a0, .int .i64 a1] 28)).alloc (.cells #[.int .i64 b0, .int .i64 b1] 28)).alloc (.cells #[.int .i64 c0, .int .i64 c1] 28)) (.cells #[.int .i64 0, .int .i64 0, .int .i64 0, .int .i64 0, .int .i64 0] 64)) = v at hx hR ⊢
  obtain ⟨⟨ca0, ca1⟩, ⟨cb0, cb1⟩, cc0, cc1⟩ := hx.cells
  go_wp2_with fail
  refine (iValidCv_any _ 3 3 [(a0, a1), (b0, b1), (c0, c1)] _ (lit3 v a0 a1 b0 b1 c0 c1 _) (by omega)).mono ?_
  rintro x w2 ⟨rfl, b2'⟩
  rw [hok]
  have b2 : Below v.heap.size v w2 := belowCall ((Below.refl _ _).alloc (Nat.le_refl _) _) b2'
  clear b2'
  have hx2 := hx.mono b2
  have R4 := hR.mono b2
  have BW := hx2.below
  obtain ⟨⟨da0, da1⟩, ⟨db0, db1⟩, dc0, dc1⟩ := hx2.cells
  clear ca0 ca1 cb0 cb1 cc0 cc1
  go_wp2_with fail
  refine (hPT _).mono ?_
  rintro x w3 ⟨rfl, b3⟩
  replace R4 := R4.mono b3
  replace BW := belowCall BW b3
  have b5 : Below w3.heap.size w3 (w3.alloc (.cells #[.int .i64 b0, .int .i64 b1, .int .i64 S, .int .i64 B, .int .i64 U] 64)) := (Below.refl _ _).alloc (Nat.le_refl _) _
  replace R4 := R4.mono b5
  replace BW := belowCall BW b5
  obtain ⟨hlt5, ⟨e0, e1, e2, e3, e4⟩, g0, g1, g2, g3, g4⟩ := R4.parts
  clear b5
  go_wp2
  obtain ⟨t0, t1, t2, t3, t4⟩ := R4.stored b0 b1 S B U rfl
  exact bodyPost_ret (v := .tuple #[.agg #[.int .i64 b0, .int .i64 b1, .int .i64 S, .int .i64 B, .int .i64 U], .int .i64 0]) (by simp [results, Try.results33, go_sem, t0, t1, t2, t3, t4]) rfl ⟨rfl, bel5 BW (by omega) _ _ _ _ _⟩
set_option maxHeartbeats 1000000 in
theorem vtm_any (b0 b1 S B U : Int) (w : World) (hB : B ≠ 0) (h1 : -4400000000 ≤ B) (h2 : B ≤ 4400000000) (h3 : -88000000000000000 ≤ 2 * B * b0) (h4 : 2 * B * b0 ≤ 88000000000000000) (h5 : -440000000000000 ≤ S) (h6 : S ≤ 440000000000000) :
    Calls Try.prog 34 #[.agg #[.int .i64 b0, .int .i64 b1, .int .i64 S, .int .i64 B, .int .i64 U]] w fun x w' => x = .returned (.agg #[.int .i64 (qtN (2 * B * b0 - S) (2 * B)), .int .i64 (qtD (2 * B * b0 - S) (2 * B))]) ∧ Below w.heap.size w w' := by
  have wr1 : IntKind.i64.wrap (2 * B) = 2 * B := IntWalk.i64_in _ (by omega)
  have wr2 : IntKind.i64.wrap (2 * B * b0) = 2 * B * b0 := IntWalk.i64_in _ (by omega)
  have wr3 : IntKind.i64.wrap (2 * B * b0 - S) = 2 * B * b0 - S := IntWalk.i64_in _ (by omega)
  have B1 : Below w.heap.size w ((w.alloc (.cells #[.int .i64 b0, .int .i64 b1, .int .i64 S, .int .i64 B, .int .i64 U] 64)).alloc (.cells #[.int .i64 0, .int .i64 0] 25)) := ((Below.refl _ w).alloc (Nat.le_refl _) _).alloc (by simp) _
  have R1 : RF (w.heap.size + 1) ((w.alloc (.cells #[.int .i64 b0, .int .i64 b1, .int .i64 S, .int .i64 B, .int .i64 U] 64)).alloc (.cells #[.int .i64 0, .int .i64 0] 25)) := by
    have h := RF.fresh (w.alloc (.cells #[.int .i64 b0, .int .i64 b1, .int .i64 S, .int .i64 B, .int .i64 U] 64)) 25
    rwa [show (w.alloc (.cells #[.int .i64 b0, .int .i64 b1, .int .i64 S, .int .i64 B, .int .i64 U] 64)).heap.size = w.heap.size + 1 by simp] at h
  have HQ := Lib.hid (fun W => quot_any (2 * B * b0 - S) (2 * B) W (by omega) (by omega) (by omega) (by omega) (by omega))
  generalize qtN (2 * B * b0 - S) (2 * B) = x at HQ ⊢
  generalize qtD (2 * B * b0 - S) (2 * B) = y at HQ ⊢
  go_enter Try.func34, Try.ntmps34
  go_wp2_with fail
  refine (HQ.out _).mono ?_
  rintro e w2 ⟨rfl, b2⟩
  have R2 := R1.mono b2
  have B2 := belowCall B1 b2
  obtain ⟨⟨hBl, q0, q1⟩, z0, z1⟩ := R2.parts
  clear B1 R1
  go_wp2
  obtain ⟨t0, t1⟩ := R2.stored x y rfl
  exact bodyPost_ret (v := .agg #[.int .i64 x, .int .i64 y]) (by simp [results, Try.results34, go_sem, t0, t1]) rfl ⟨rfl, (B2.setCell (by show w.heap.size ≤ w.heap.size + 1; omega) _).setCell (by show w.heap.size ≤ w.heap.size + 1; omega) _⟩
set_option maxRecDepth 100000 in
set_option maxHeartbeats 2000000 in
theorem iVtx_any (a0 a1 b0 b1 c0 c1 : Int) (w : World) :
    Calls Try.prog 9 #[.agg #[.int .i64 a0, .int .i64 a1], .agg #[.int .i64 b0, .int .i64 b1], .agg #[.int .i64 c0, .int .i64 c1]] w fun x w' => FrP (vxF (a0, a1) (b0, b1) (c0, c1)) x ∧ Below w.heap.size w w' := by
  have hx0 := (Bx3.fresh w a0 a1 b0 b1 c0 c1)
  have hx := hx0.mono ((Below.refl _ _).alloc (Nat.le_refl _) (.cells #[.int .i64 0, .int .i64 0] 25))
  have hR : RF (w.heap.size + 1 + 1 + 1) (World.alloc (((w.alloc (.cells #[.int .i64 a0, .int .i64 a1] 28)).alloc (.cells #[.int .i64 b0, .int .i64 b1] 28)).alloc (.cells #[.int .i64 c0, .int .i64 c1] 28)) (.cells #[.int .i64 0, .int .i64 0] 25)) := by
    have h := RF.fresh (((w.alloc (.cells #[.int .i64 a0, .int .i64 a1] 28)).alloc (.cells #[.int .i64 b0, .int .i64 b1] 28)).alloc (.cells #[.int .i64 c0, .int .i64 c1] 28)) 25
    rwa [show (World.heap (((w.alloc (.cells #[.int .i64 a0, .int .i64 a1] 28)).alloc (.cells #[.int .i64 b0, .int .i64 b1] 28)).alloc (.cells #[.int .i64 c0, .int .i64 c1] 28))).size = w.heap.size + 1 + 1 + 1 by simp] at h
  clear hx0
  by_cases hz : vxC (a0, a1) (b0, b1) (c0, c1) = 0
  rotate_left
  · obtain ⟨k, hk⟩ : ∃ k, vxC (a0, a1) (b0, b1) (c0, c1) = k := ⟨_, rfl⟩
    rw [hk] at hz
    have HC := Lib.hid (vxF_no hk hz)
    have HBT := Lib.hid (fun W => bentI_any a0 a1 b0 b1 c0 c1 k W hk hz)
    have hzd : (k != 0) = true := by simpa using hz
    clear hz hk
    go_enter Try.func9, Try.ntmps9
    go_upto_region 1 with fail
    generalize (World.alloc (((w.alloc (.cells #[.int .i64 a0, .int .i64 a1] 28)).alloc (.cells #[.int .i64 b0, .int .i64 b1] 28)).alloc (.cells #[.int .i64 c0, .int .i64 c1] 28)) (.cells #[.int .i64 0, .int .i64 0] 25)) = v at hx hR ⊢
    obtain ⟨⟨ca0, ca1⟩, ⟨cb0, cb1⟩, cc0, cc1⟩ := hx.cells
    go_wp2_with fail
    refine (HBT.out _).mono ?_
    rintro x w2 ⟨rfl, b2⟩
    have b5 : Below w2.heap.size w2 (w2.alloc (.cells #[.int .i64 0, .int .i64 0, .int .i64 0, .int .i64 0, .int .i64 0] 64)) := (Below.refl _ _).alloc (Nat.le_refl _) _
    have R4 := (hR.mono b2).mono b5
    have BW := ((hx.mono b2).mono b5).below
    obtain ⟨⟨hBl, q0, q1⟩, z0, z1⟩ := R4.parts
    clear ca0 ca1 cb0 cb1 cc0 cc1 b5
    go_wp2
    obtain ⟨t0, t1⟩ := R4.stored 0 0 rfl
    exact bodyPost_ret (v := .tuple #[.agg #[.int .i64 0, .int .i64 0], .int .i64 k]) (by simp [results, Try.results9, go_sem, t0, t1]) rfl ⟨FrP.mk HC.out, (BW.setCell (by show w.heap.size ≤ w.heap.size + 1 + 1 + 1; omega) _).setCell (by show w.heap.size ≤ w.heap.size + 1 + 1 + 1; omega) _⟩
  · obtain ⟨hok, hr, hb⟩ := vx_parts hz
    simp only at hr
    obtain ⟨⟨v1, v2⟩, ⟨v3, v4⟩, ⟨v5, v6⟩, -⟩ := vx_bd hok hr
    have HC := Lib.hid (vxF_yes hz)
    have HBT := Lib.hid (fun W => bentY_any a0 a1 b0 b1 c0 c1 W hz)
    have HVT := Lib.hid (fun W => vtm_any b0 b1 (vxS (a0, a1) (b0, b1) (c0, c1)) (vxB (a0, a1) (b0, b1) (c0, c1)) (vxU (a0, a1) (b0, b1) (c0, c1)) W hb v1 v2 v5 v6 v3 v4)
    have HT : Hid (vxT (a0, a1) (b0, b1) (c0, c1) = 2 * vxB (a0, a1) (b0, b1) (c0, c1) * b0 - vxS (a0, a1) (b0, b1) (c0, c1)) := Lib.hid rfl
    rw [HT.out] at HC
    generalize vxS (a0, a1) (b0, b1) (c0, c1) = S at HBT HVT HC
    generalize vxB (a0, a1) (b0, b1) (c0, c1) = B at HBT HVT HC
    generalize vxU (a0, a1) (b0, b1) (c0, c1) = U at HBT HVT
    generalize qtN (2 * B * b0 - S) (2 * B) = x at HVT HC
    generalize qtD (2 * B * b0 - S) (2 * B) = y at HVT HC
    clear hz hok hr hb v1 v2 v3 v4 v5 v6 HT
    go_enter Try.func9, Try.ntmps9
    go_upto_region 1 with fail
    generalize (World.alloc (((w.alloc (.cells #[.int .i64 a0, .int .i64 a1] 28)).alloc (.cells #[.int .i64 b0, .int .i64 b1] 28)).alloc (.cells #[.int .i64 c0, .int .i64 c1] 28)) (.cells #[.int .i64 0, .int .i64 0] 25)) = v at hx hR ⊢
    obtain ⟨⟨ca0, ca1⟩, ⟨cb0, cb1⟩, cc0, cc1⟩ := hx.cells
    go_wp2_with fail
    refine (HBT.out _).mono ?_
    rintro e w2 ⟨rfl, b2⟩
    have b5 : Below w2.heap.size w2 (w2.alloc (.cells #[.int .i64 b0, .int .i64 b1, .int .i64 S, .int .i64 B, .int .i64 U] 64)) := (Below.refl _ _).alloc (Nat.le_refl _) _
    have R4 := (hR.mono b2).mono b5
    have BW := ((hx.mono b2).mono b5).below
    clear ca0 ca1 cb0 cb1 cc0 cc1 b5
    go_wp2_with fail
    refine (HVT.out _).mono ?_
    rintro e w3 ⟨rfl, b3⟩
    replace R4 := R4.mono b3
    replace BW := belowCall BW b3
    obtain ⟨⟨hBl, q0, q1⟩, z0, z1⟩ := R4.parts
    go_wp2
    obtain ⟨t0, t1⟩ := R4.stored x y rfl
    exact bodyPost_ret (v := .tuple #[.agg #[.int .i64 x, .int .i64 y], .int .i64 0]) (by simp [results, Try.results9, go_sem, t0, t1]) rfl ⟨FrP.mk HC.out, (BW.setCell (by show w.heap.size ≤ w.heap.size + 1 + 1 + 1; omega) _).setCell (by show w.heap.size ≤ w.heap.size + 1 + 1 + 1; omega) _⟩
end Go.Proofs.Ytidiiladlmaigaa
