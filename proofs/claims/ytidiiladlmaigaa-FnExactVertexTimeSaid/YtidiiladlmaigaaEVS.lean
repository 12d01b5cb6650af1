/- VertexTime, the model's; RefineExtremum, both sides. -/
import Derived.Test.YtidiiladlmaigaaEVU
namespace Go.Proofs.Ytidiiladlmaigaa
open Go.ChangeShapes Go.WideShapes Go.ChangeAt Go.RowKit Go.Deep

/-- the code without the parabola's own -/
def vxK (a b c : Pt) : Int := if okP [a, b, c] then (if 100000 < c.1 - a.1 then 2 else 0) else 1
theorem vk_1 {a b c : Pt} (h : okP [a, b, c] = false) : vxK a b c = 1 := by simp [vxK, h]
theorem vk_2 {a b c : Pt} (h : okP [a, b, c] = true) (h2 : 100000 < c.1 - a.1) : vxK a b c = 2 := by simp [vxK, h, h2]
theorem vk_0 {a b c : Pt} (h : okP [a, b, c] = true) (h2 : ¬ 100000 < c.1 - a.1) : vxK a b c = 0 := by simp [vxK, h, h2]
theorem vk_no {a b c : Pt} {k : Int} (h : vxK a b c = k) (hk : k ≠ 0) : vxC a b c = k := by
  cases h1 : okP [a, b, c]
  · rw [vk_1 h1] at h; rw [vx_1 h1, h]
  · by_cases h2 : 100000 < c.1 - a.1
    · rw [vk_2 h1 h2] at h; rw [vx_2 h1 h2, h]
    · rw [vk_0 h1 h2] at h; exact absurd h.symm hk
theorem vk_parts {a b c : Pt} (h : vxK a b c = 0) : okP [a, b, c] = true ∧ ¬ 100000 < c.1 - a.1 := by
  cases h1 : okP [a, b, c]
  · rw [vk_1 h1] at h; cases h
  · by_cases h2 : 100000 < c.1 - a.1
    · rw [vk_2 h1 h2] at h; cases h
    · exact ⟨rfl, h2⟩
set_option maxRecDepth 100000 in
set_option maxHeartbeats 2000000 in
theorem l12C_any (a0 a1 b0 b1 c0 c1 : Int) (w : World) :
    Calls Try.prog 30 #[.agg #[.int .i64 a0, .int .i64 a1], .agg #[.int .i64 b0, .int .i64 b1], .agg #[.int .i64 c0, .int .i64 c1]] w fun x w' => x = .returned (.int .i64 (vxK (a0, a1) (b0, b1) (c0, c1))) ∧ Below w.heap.size w w' := by
  have hx := (Bx3.fresh w a0 a1 b0 b1 c0 c1)
  cases hok : okP [(a0, a1), (b0, b1), (c0, c1)]
  · rw [vk_1 hok]
    go_enter Try.func30, Try.ntmps30
    go_upto_region 1 with fail
    generalize (((w.alloc (.cells #[.int .i64 a0, .int .i64 a1] 28)).alloc (.cells #[.int .i64 b0, .int .i64 b1] 28)).alloc (.cells #[.int .i64 c0, .int .i64 c1] 28)) = v at hx ⊢
    obtain ⟨⟨ca0, ca1⟩, ⟨cb0, cb1⟩, cc0, cc1⟩ := hx.cells
    go_wp2_with fail
    refine (l08Ok_below _ 3 3 [(a0, a1), (b0, b1), (c0, c1)] _ (lit3 v a0 a1 b0 b1 c0 c1 _) (by omega)).mono ?_
    rintro x w2 ⟨rfl, b2'⟩
    rw [hok]
    have b2 : Below v.heap.size v w2 := belowCall ((Below.refl _ _).alloc (Nat.le_refl _) _) b2'
    have BW := (hx.mono b2).below
    go_wp2
    go_ret
    exact ⟨rfl, BW⟩
  obtain ⟨q3, q4, q5, q6⟩ := ok3 hok
  simp only at q3 q4 q5 q6
  by_cases hr : 100000 < c0 - a0
  · rw [vk_2 hok hr]
    go_enter Try.func30, Try.ntmps30
    go_upto_region 1 with fail
    generalize (((w.alloc (.cells #[.int .i64 a0, .int .i64 a1] 28)).alloc (.cells #[.int .i64 b0, .int .i64 b1] 28)).alloc (.cells #[.int .i64 c0, .int .i64 c1] 28)) = v at hx ⊢
    obtain ⟨⟨ca0, ca1⟩, ⟨cb0, cb1⟩, cc0, cc1⟩ := hx.cells
    go_wp2_with fail
    refine (l08Ok_below _ 3 3 [(a0, a1), (b0, b1), (c0, c1)] _ (lit3 v a0 a1 b0 b1 c0 c1 _) (by omega)).mono ?_
    rintro x w2 ⟨rfl, b2'⟩
    rw [hok]
    have b2 : Below v.heap.size v w2 := belowCall ((Below.refl _ _).alloc (Nat.le_refl _) _) b2'
    have hx2 := hx.mono b2
    have BW := hx2.below
    obtain ⟨⟨da0, da1⟩, ⟨db0, db1⟩, dc0, dc1⟩ := hx2.cells
    clear ca0 ca1 cb0 cb1 cc0 cc1
    go_wp2
    go_ret
    exact ⟨rfl, BW⟩
  · rw [vk_0 hok hr]
    go_enter Try.func30, Try.ntmps30
    go_upto_region 1 with fail
    generalize (((w.alloc (.cells #[.int .i64 a0, .int .i64 a1] 28)).alloc (.cells #[.int .i64 b0, .int .i64 b1] 28)).alloc (.cells #[.int .i64 c0, .int .i64 c1] 28)) = v at hx ⊢
    obtain ⟨⟨ca0, ca1⟩, ⟨cb0, cb1⟩, cc0, cc1⟩ := hx.cells
    go_wp2_with fail
    refine (l08Ok_below _ 3 3 [(a0, a1), (b0, b1), (c0, c1)] _ (lit3 v a0 a1 b0 b1 c0 c1 _) (by omega)).mono ?_
    rintro x w2 ⟨rfl, b2'⟩
    rw [hok]
    have b2 : Below v.heap.size v w2 := belowCall ((Below.refl _ _).alloc (Nat.le_refl _) _) b2'
    have hx2 := hx.mono b2
    have BW := hx2.below
    obtain ⟨⟨da0, da1⟩, ⟨db0, db1⟩, dc0, dc1⟩ := hx2.cells
    clear ca0 ca1 cb0 cb1 cc0 cc1
    go_wp2
    go_ret
    exact ⟨rfl, BW⟩
/-- twice the numerator of the vertex behind the first point -/
def vxM (a b c : Pt) : Int := (c.2 - a.2) * (b.1 - a.1) * (b.1 - a.1) - (b.2 - a.2) * (c.1 - a.1) * (c.1 - a.1)
theorem vxM_small {a0 a1 b0 b1 c0 c1 : Int} (h : okP [(a0, a1), (b0, b1), (c0, c1)] = true) (h2 : ¬ 100000 < c0 - a0) :
    (-2200000000 ≤ (c1 - a1) * (b0 - a0) ∧ (c1 - a1) * (b0 - a0) ≤ 2200000000) ∧ (-2200000000 ≤ (b1 - a1) * (c0 - a0) ∧ (b1 - a1) * (c0 - a0) ≤ 2200000000) ∧
    (-220000000000000 ≤ (c1 - a1) * (b0 - a0) * (b0 - a0) ∧ (c1 - a1) * (b0 - a0) * (b0 - a0) ≤ 220000000000000) ∧ (-220000000000000 ≤ (b1 - a1) * (c0 - a0) * (c0 - a0) ∧ (b1 - a1) * (c0 - a0) * (c0 - a0) ≤ 220000000000000) := by
  obtain ⟨h3, h4, h5, h6⟩ := ok3 h
  simp only at h3 h4 h5 h6
  have p := aMul (a := c1 - a1) (b := b0 - a0) (A := 22000) (B := 100000) (by omega) (by omega) (by omega) (by omega)
  have q := aMul (a := b1 - a1) (b := c0 - a0) (A := 22000) (B := 100000) (by omega) (by omega) (by omega) (by omega)
  have r := aMul (a := (c1 - a1) * (b0 - a0)) (b := b0 - a0) (A := 2200000000) (B := 100000) (by omega) (by omega) (by omega) (by omega)
  have s := aMul (a := (b1 - a1) * (c0 - a0)) (b := c0 - a0) (A := 2200000000) (B := 100000) (by omega) (by omega) (by omega) (by omega)
  omega
set_option maxRecDepth 100000 in
set_option maxHeartbeats 2000000 in
theorem l12V_any (a0 a1 b0 b1 c0 c1 : Int) (w : World) (hok : okP [(a0, a1), (b0, b1), (c0, c1)] = true) (hnr : ¬ 100000 < c0 - a0) :
    Calls Try.prog 31 #[.agg #[.int .i64 a0, .int .i64 a1], .agg #[.int .i64 b0, .int .i64 b1], .agg #[.int .i64 c0, .int .i64 c1]] w fun x w' => x = .returned (.tuple #[.int .i64 (vxM (a0, a1) (b0, b1) (c0, c1)), .int .i64 (vxB (a0, a1) (b0, b1) (c0, c1))]) ∧ Below w.heap.size w w' := by
  obtain ⟨h3, h4, h5, h6⟩ := ok3 hok
  obtain ⟨⟨m1, m2⟩, ⟨m3, m4⟩, ⟨m5, m6⟩, m7, m8⟩ := vxM_small hok hnr
  simp only at h3 h4 h5 h6
  have HS : Hid (vxM (a0, a1) (b0, b1) (c0, c1) = (c1 - a1) * (b0 - a0) * (b0 - a0) - (b1 - a1) * (c0 - a0) * (c0 - a0)) := Lib.hid rfl
  have HB : Hid (vxB (a0, a1) (b0, b1) (c0, c1) = (c1 - a1) * (b0 - a0) - (b1 - a1) * (c0 - a0)) := Lib.hid (vx_den a0 a1 b0 b1 c0 c1).symm
  generalize vxM (a0, a1) (b0, b1) (c0, c1) = S at HS ⊢
  generalize vxB (a0, a1) (b0, b1) (c0, c1) = B at HB ⊢
  obtain ⟨u, hu⟩ : ∃ p, b0 - a0 = p := ⟨_, rfl⟩
  obtain ⟨t, ht⟩ : ∃ p, c0 - a0 = p := ⟨_, rfl⟩
  obtain ⟨p, hp⟩ : ∃ p, b1 - a1 = p := ⟨_, rfl⟩
  obtain ⟨q, hq⟩ : ∃ p, c1 - a1 = p := ⟨_, rfl⟩
  simp only [hu, ht, hp, hq] at m1 m2 m3 m4 m5 m6 m7 m8 HS HB
  have r1 : IntKind.i64.wrap (q * u) = q * u := IntWalk.i64_in _ (by omega)
  have r2 : IntKind.i64.wrap (q * u * u) = q * u * u := IntWalk.i64_in _ (by omega)
  have r3 : IntKind.i64.wrap (p * t) = p * t := IntWalk.i64_in _ (by omega)
  have r4 : IntKind.i64.wrap (p * t * t) = p * t * t := IntWalk.i64_in _ (by omega)
  have r5 : IntKind.i64.wrap (q * u * u - p * t * t) = q * u * u - p * t * t := IntWalk.i64_in _ (by omega)
  have r6 : IntKind.i64.wrap (q * u - p * t) = q * u - p * t := IntWalk.i64_in _ (by omega)
  have n1 : IntKind.i64.wrap (b0 - a0) = u := by rw [hu]; exact IntWalk.i64_in _ (by omega)
  have n2 : IntKind.i64.wrap (c0 - a0) = t := by rw [ht]; exact IntWalk.i64_in _ (by omega)
  have n3 : IntKind.i64.wrap (b1 - a1) = p := by rw [hp]; exact IntWalk.i64_in _ (by omega)
  have n4 : IntKind.i64.wrap (c1 - a1) = q := by rw [hq]; exact IntWalk.i64_in _ (by omega)
  have hx := (Bx3.fresh w a0 a1 b0 b1 c0 c1)
  clear hok hnr
  go_enter Try.func31, Try.ntmps31
  go_upto_region 1 with fail
  generalize (((w.alloc (.cells #[.int .i64 a0, .int .i64 a1] 28)).alloc (.cells #[.int .i64 b0, .int .i64 b1] 28)).alloc (.cells #[.int .i64 c0, .int .i64 c1] 28)) = v at hx ⊢
  obtain ⟨⟨ca0, ca1⟩, ⟨cb0, cb1⟩, cc0, cc1⟩ := hx.cells
  have BW := hx.below
  go_wp2
  go_ret2
  exact ⟨by rw [HS.out, HB.out]; rfl, BW⟩
set_option maxRecDepth 100000 in
set_option maxHeartbeats 2000000 in
theorem sVtx_any (a0 a1 b0 b1 c0 c1 : Int) (w : World) :
    Calls Try.prog 7 #[.agg #[.int .i64 a0, .int .i64 a1], .agg #[.int .i64 b0, .int .i64 b1], .agg #[.int .i64 c0, .int .i64 c1]] w fun x w' => FrP (vxF (a0, a1) (b0, b1) (c0, c1)) x ∧ Below w.heap.size w w' := by
  have hx0 := (Bx3.fresh w a0 a1 b0 b1 c0 c1)
  have hx := hx0.mono ((Below.refl _ _).alloc (Nat.le_refl _) (.cells #[.int .i64 0, .int .i64 0] 25))
  have hR : RF (w.heap.size + 1 + 1 + 1) (World.alloc (((w.alloc (.cells #[.int .i64 a0, .int .i64 a1] 28)).alloc (.cells #[.int .i64 b0, .int .i64 b1] 28)).alloc (.cells #[.int .i64 c0, .int .i64 c1] 28)) (.cells #[.int .i64 0, .int .i64 0] 25)) := by
    have h := RF.fresh (((w.alloc (.cells #[.int .i64 a0, .int .i64 a1] 28)).alloc (.cells #[.int .i64 b0, .int .i64 b1] 28)).alloc (.cells #[.int .i64 c0, .int .i64 c1] 28)) 25
    rwa [show (World.heap (((w.alloc (.cells #[.int .i64 a0, .int .i64 a1] 28)).alloc (.cells #[.int .i64 b0, .int .i64 b1] 28)).alloc (.cells #[.int .i64 c0, .int .i64 c1] 28))).size = w.heap.size + 1 + 1 + 1 by simp] at h
  clear hx0
  have HLC := Lib.hid (fun W => l12C_any a0 a1 b0 b1 c0 c1 W)
  by_cases hz : vxK (a0, a1) (b0, b1) (c0, c1) = 0
  rotate_left
  · obtain ⟨k, hk⟩ : ∃ k, vxK (a0, a1) (b0, b1) (c0, c1) = k := ⟨_, rfl⟩
    rw [hk] at hz HLC
    have HC := Lib.hid (vxF_no (vk_no hk hz) hz)
    have hzd : (k != 0) = true := by simpa using hz
    clear hz hk
    go_enter Try.func7, Try.ntmps7
    go_upto_region 1 with fail
    generalize (World.alloc (((w.alloc (.cells #[.int .i64 a0, .int .i64 a1] 28)).alloc (.cells #[.int .i64 b0, .int .i64 b1] 28)).alloc (.cells #[.int .i64 c0, .int .i64 c1] 28)) (.cells #[.int .i64 0, .int .i64 0] 25)) = v at hx hR ⊢
    obtain ⟨⟨ca0, ca1⟩, ⟨cb0, cb1⟩, cc0, cc1⟩ := hx.cells
    go_wp2_with fail
    refine (HLC.out _).mono ?_
    rintro x w2 ⟨rfl, b2⟩
    have R4 := hR.mono b2
    have BW := (hx.mono b2).below
    obtain ⟨⟨hBl, q0, q1⟩, z0, z1⟩ := R4.parts
    clear ca0 ca1 cb0 cb1 cc0 cc1
    go_wp2
    obtain ⟨t0, t1⟩ := R4.stored 0 0 rfl
    exact bodyPost_ret (v := .tuple #[.agg #[.int .i64 0, .int .i64 0], .int .i64 k]) (by simp [results, Try.results7, go_sem, t0, t1]) rfl ⟨FrP.mk HC.out, (BW.setCell (by show w.heap.size ≤ w.heap.size + 1 + 1 + 1; omega) _).setCell (by show w.heap.size ≤ w.heap.size + 1 + 1 + 1; omega) _⟩
  obtain ⟨hok, hr⟩ := vk_parts hz
  simp only at hr
  rw [hz] at HLC
  have HLV := Lib.hid (fun W => l12V_any a0 a1 b0 b1 c0 c1 W hok hr)
  obtain ⟨⟨v1, v2⟩, ⟨v5, v6⟩, ⟨v3, v4⟩, v7, v8⟩ := vx_bd hok hr
  obtain ⟨m1, m2, m3, m4⟩ := vxM_small hok hr
  obtain ⟨q3, q4, q5, q6⟩ := ok3 hok
  simp only at q3 q4 q5 q6
  have hT : vxM (a0, a1) (b0, b1) (c0, c1) + 2 * a0 * vxB (a0, a1) (b0, b1) (c0, c1) = vxT (a0, a1) (b0, b1) (c0, c1) := vx_num a0 a1 b0 b1 c0 c1
  have hM : -440000000000000 ≤ vxM (a0, a1) (b0, b1) (c0, c1) ∧ vxM (a0, a1) (b0, b1) (c0, c1) ≤ 440000000000000 := by simp only [vxM]; omega
  by_cases hb : vxB (a0, a1) (b0, b1) (c0, c1) = 0
  · have HC := Lib.hid (vxF_no (vx_6 hok hr hb) (by decide))
    rw [hb] at HLV
    generalize vxM (a0, a1) (b0, b1) (c0, c1) = M at HLV
    clear hz hok hr hb v1 v2 v3 v4 v5 v6 v7 v8 hT hM m1 m2 m3 m4
    go_enter Try.func7, Try.ntmps7
    go_upto_region 1 with fail
    generalize (World.alloc (((w.alloc (.cells #[.int .i64 a0, .int .i64 a1] 28)).alloc (.cells #[.int .i64 b0, .int .i64 b1] 28)).alloc (.cells #[.int .i64 c0, .int .i64 c1] 28)) (.cells #[.int .i64 0, .int .i64 0] 25)) = v at hx hR ⊢
    obtain ⟨⟨ca0, ca1⟩, ⟨cb0, cb1⟩, cc0, cc1⟩ := hx.cells
    go_wp2_with fail
    refine (HLC.out _).mono ?_
    rintro x w2 ⟨rfl, b2⟩
    have hx2 := hx.mono b2
    obtain ⟨⟨da0, da1⟩, ⟨db0, db1⟩, dc0, dc1⟩ := hx2.cells
    clear ca0 ca1 cb0 cb1 cc0 cc1
    go_wp2_with fail
    refine (HLV.out _).mono ?_
    rintro x w3 ⟨rfl, b3⟩
    have R4 := (hR.mono b2).mono b3
    have BW := (hx2.mono b3).below
    obtain ⟨⟨hBl, q0, q1⟩, z0, z1⟩ := R4.parts
    clear da0 da1 db0 db1 dc0 dc1
    go_wp2
    obtain ⟨t0, t1⟩ := R4.stored 0 0 rfl
    exact bodyPost_ret (v := .tuple #[.agg #[.int .i64 0, .int .i64 0], .int .i64 6]) (by simp [results, Try.results7, go_sem, t0, t1]) rfl ⟨FrP.mk HC.out, (BW.setCell (by show w.heap.size ≤ w.heap.size + 1 + 1 + 1; omega) _).setCell (by show w.heap.size ≤ w.heap.size + 1 + 1 + 1; omega) _⟩
  have HC := Lib.hid (vxF_yes (vx_0 hok hr hb))
  have hP := aMul (a := 2 * a0) (b := vxB (a0, a1) (b0, b1) (c0, c1)) (A := 20000000) (B := 4400000000) (by omega) (by omega) (by omega) (by omega)
  generalize vxM (a0, a1) (b0, b1) (c0, c1) = M at HLV hT hM
  generalize vxT (a0, a1) (b0, b1) (c0, c1) = T at hT HC v7 v8
  generalize vxB (a0, a1) (b0, b1) (c0, c1) = B at HLV hT HC hb v1 v2 v3 v4 hP
  have hBd : (B == 0) = false := by simpa using hb
  by_cases hneg : B < 0
  · obtain ⟨e1, e2⟩ := qt_neg (a := T) (b := 2 * B) (by omega)
    have hPn : 2 * a0 * -B = -(2 * a0 * B) := by grind
    obtain ⟨X, hX⟩ : ∃ X, -M + 2 * a0 * -B = X := ⟨_, rfl⟩
    have hXT : X = -T := by rw [← hX, hPn, ← hT]; omega
    obtain ⟨x, hxx⟩ : ∃ x, lowN (-T) (-(2 * B)) = x := ⟨_, rfl⟩
    obtain ⟨y, hyy⟩ : ∃ x, lowD (-T) (-(2 * B)) = x := ⟨_, rfl⟩
    have h2B : 2 * -B = -(2 * B) := by omega
    have HL : ∀ W, Calls Try.prog 32 #[.int .i64 X, .int .i64 (2 * -B)] W fun e w' => e = .returned (.agg #[.int .i64 x, .int .i64 y]) ∧ Below W.heap.size W w' := fun W => by rw [← hxx, ← hyy, hXT, h2B]; exact l02MakeW_any _ _ W (by omega) (by omega) (by omega) (by omega)
    rw [e1, e2, hxx, hyy] at HC
    have wr1 : IntKind.i64.wrap (2 * a0 * -B) = 2 * a0 * -B := IntWalk.i64_in _ (by omega)
    have wr2 : IntKind.i64.wrap (-M + 2 * a0 * -B) = X := by rw [hX]; exact IntWalk.i64_in _ (by omega)
    clear hz hok hr hb v3 v4 v5 v6 v7 v8 hT m1 m2 m3 m4 e1 e2 hPn hX hXT hxx hyy h2B hP
    go_enter Try.func7, Try.ntmps7
    go_upto_region 1 with fail
    generalize (World.alloc (((w.alloc (.cells #[.int .i64 a0, .int .i64 a1] 28)).alloc (.cells #[.int .i64 b0, .int .i64 b1] 28)).alloc (.cells #[.int .i64 c0, .int .i64 c1] 28)) (.cells #[.int .i64 0, .int .i64 0] 25)) = v at hx hR ⊢
    obtain ⟨⟨ca0, ca1⟩, ⟨cb0, cb1⟩, cc0, cc1⟩ := hx.cells
    go_wp2_with fail
    refine (HLC.out _).mono ?_
    rintro e w2 ⟨rfl, b2⟩
    have hx2 := hx.mono b2
    obtain ⟨⟨da0, da1⟩, ⟨db0, db1⟩, dc0, dc1⟩ := hx2.cells
    clear ca0 ca1 cb0 cb1 cc0 cc1
    go_wp2_with fail
    refine (HLV.out _).mono ?_
    rintro e w3 ⟨rfl, b3⟩
    have R3 := (hR.mono b2).mono b3
    have hx3 := hx2.mono b3
    obtain ⟨⟨ea0, ea1⟩, ⟨eb0, eb1⟩, ec0, ec1⟩ := hx3.cells
    clear da0 da1 db0 db1 dc0 dc1
    go_wp2_with fail
    refine (HL _).mono ?_
    rintro e w4 ⟨rfl, b4⟩
    have R4 := R3.mono b4
    have BW := (hx3.mono b4).below
    obtain ⟨⟨hBl, q0, q1⟩, z0, z1⟩ := R4.parts
    clear ea0 ea1 eb0 eb1 ec0 ec1
    go_wp2
    obtain ⟨t0, t1⟩ := R4.stored x y rfl
    exact bodyPost_ret (v := .tuple #[.agg #[.int .i64 x, .int .i64 y], .int .i64 0]) (by simp [results, Try.results7, go_sem, t0, t1]) rfl ⟨FrP.mk HC.out, (BW.setCell (by show w.heap.size ≤ w.heap.size + 1 + 1 + 1; omega) _).setCell (by show w.heap.size ≤ w.heap.size + 1 + 1 + 1; omega) _⟩
  · obtain ⟨e1, e2⟩ := qt_pos (a := T) (b := 2 * B) (by omega)
    obtain ⟨x, hxx⟩ : ∃ x, lowN T (2 * B) = x := ⟨_, rfl⟩
    obtain ⟨y, hyy⟩ : ∃ x, lowD T (2 * B) = x := ⟨_, rfl⟩
    have HL : ∀ W, Calls Try.prog 32 #[.int .i64 T, .int .i64 (2 * B)] W fun e w' => e = .returned (.agg #[.int .i64 x, .int .i64 y]) ∧ Below W.heap.size W w' := fun W => by rw [← hxx, ← hyy]; exact l02MakeW_any _ _ W (by omega) (by omega) (by omega) (by omega)
    rw [e1, e2, hxx, hyy] at HC
    have wr1 : IntKind.i64.wrap (2 * a0 * B) = 2 * a0 * B := IntWalk.i64_in _ (by omega)
    have wr2 : IntKind.i64.wrap (M + 2 * a0 * B) = T := by rw [hT]; exact IntWalk.i64_in _ (by omega)
    clear hz hok hr hb v3 v4 v5 v6 v7 v8 hT m1 m2 m3 m4 e1 e2 hxx hyy hP
    go_enter Try.func7, Try.ntmps7
    go_upto_region 1 with fail
    generalize (World.alloc (((w.alloc (.cells #[.int .i64 a0, .int .i64 a1] 28)).alloc (.cells #[.int .i64 b0, .int .i64 b1] 28)).alloc (.cells #[.int .i64 c0, .int .i64 c1] 28)) (.cells #[.int .i64 0, .int .i64 0] 25)) = v at hx hR ⊢
    obtain ⟨⟨ca0, ca1⟩, ⟨cb0, cb1⟩, cc0, cc1⟩ := hx.cells
    go_wp2_with fail
    refine (HLC.out _).mono ?_
    rintro e w2 ⟨rfl, b2⟩
    have hx2 := hx.mono b2
    obtain ⟨⟨da0, da1⟩, ⟨db0, db1⟩, dc0, dc1⟩ := hx2.cells
    clear ca0 ca1 cb0 cb1 cc0 cc1
    go_wp2_with fail
    refine (HLV.out _).mono ?_
    rintro e w3 ⟨rfl, b3⟩
    have R3 := (hR.mono b2).mono b3
    have hx3 := hx2.mono b3
    obtain ⟨⟨ea0, ea1⟩, ⟨eb0, eb1⟩, ec0, ec1⟩ := hx3.cells
    clear da0 da1 db0 db1 dc0 dc1
    go_wp2_with fail
    refine (HL _).mono ?_
    rintro e w4 ⟨rfl, b4⟩
    have R4 := R3.mono b4
    have BW := (hx3.mono b4).below
    obtain ⟨⟨hBl, q0, q1⟩, z0, z1⟩ := R4.parts
    clear ea0 ea1 eb0 eb1 ec0 ec1
    go_wp2
    obtain ⟨t0, t1⟩ := R4.stored x y rfl
    exact bodyPost_ret (v := .tuple #[.agg #[.int .i64 x, .int .i64 y], .int .i64 0]) (by simp [results, Try.results7, go_sem, t0, t1]) rfl ⟨FrP.mk HC.out, (BW.setCell (by show w.heap.size ≤ w.heap.size + 1 + 1 + 1; omega) _).setCell (by show w.heap.size ≤ w.heap.size + 1 + 1 + 1; omega) _⟩
end Go.Proofs.Ytidiiladlmaigaa
