/- VertexTime, both sides. -/
import Derived.Test.YtidiiladlmaigaaEV
import Derived.Test.YtidiiladlmaigaaJ2
import Derived.Test.YtidiiladlmaigaaJ3
import Derived.Deep.Cut
namespace Go.Proofs.Ytidiiladlmaigaa
open Go.ChangeShapes Go.WideShapes Go.ChangeAt Go.RowKit Go.Deep

/-- three points in boxes of their own -/
structure Bx3 (w v : World) (a0 a1 b0 b1 c0 c1 : Int) : Prop where
  a : PtC v w.heap.size 0 (a0, a1)
  b : PtC v (w.heap.size + 1) 0 (b0, b1)
  c : PtC v (w.heap.size + 1 + 1) 0 (c0, c1)
  below : Below w.heap.size w v
  size : w.heap.size + 1 + 1 + 1 ≤ v.heap.size
theorem Bx3.mono {w v v' : World} {a0 a1 b0 b1 c0 c1 : Int} (h : Bx3 w v a0 a1 b0 b1 c0 c1) (hb : Below v.heap.size v v') : Bx3 w v' a0 a1 b0 b1 c0 c1 :=
  ⟨h.a.mono hb, h.b.mono hb, h.c.mono hb, belowCall h.below hb, Nat.le_trans h.size hb.size⟩
theorem Bx3.cells {w v : World} {a0 a1 b0 b1 c0 c1 : Int} (h : Bx3 w v a0 a1 b0 b1 c0 c1) : (v.cell? ⟨w.heap.size, 0, none⟩ = some (.int .i64 a0) ∧ v.cell? ⟨w.heap.size, 1, none⟩ = some (.int .i64 a1)) ∧ (v.cell? ⟨w.heap.size + 1, 0, none⟩ = some (.int .i64 b0) ∧ v.cell? ⟨w.heap.size + 1, 1, none⟩ = some (.int .i64 b1)) ∧ (v.cell? ⟨w.heap.size + 1 + 1, 0, none⟩ = some (.int .i64 c0) ∧ v.cell? ⟨w.heap.size + 1 + 1, 1, none⟩ = some (.int .i64 c1)) := by
  obtain ⟨-, x0, x1⟩ := h.a.parts
  obtain ⟨-, y0, y1⟩ := h.b.parts
  obtain ⟨-, z0, z1⟩ := h.c.parts
  rw [Nat.zero_add] at x1 y1 z1
  exact ⟨⟨x0, x1⟩, ⟨y0, y1⟩, z0, z1⟩
theorem Bx3.fresh (w : World) (a0 a1 b0 b1 c0 c1 : Int) : Bx3 w (((w.alloc (.cells #[.int .i64 a0, .int .i64 a1] 28)).alloc (.cells #[.int .i64 b0, .int .i64 b1] 28)).alloc (.cells #[.int .i64 c0, .int .i64 c1] 28)) a0 a1 b0 b1 c0 c1 := by
  have e1 : (w.alloc (.cells #[.int .i64 a0, .int .i64 a1] 28)).heap.size = w.heap.size + 1 := by simp
  have e2 : ((w.alloc (.cells #[.int .i64 a0, .int .i64 a1] 28)).alloc (.cells #[.int .i64 b0, .int .i64 b1] 28)).heap.size = w.heap.size + 1 + 1 := by simp
  have h1 := ((PtC.fresh w 28 a0 a1).mono ((Below.refl _ _).alloc (Nat.le_refl _) (.cells #[.int .i64 b0, .int .i64 b1] 28))).mono ((Below.refl _ _).alloc (Nat.le_refl _) (.cells #[.int .i64 c0, .int .i64 c1] 28))
  have h2 := (PtC.fresh (w.alloc (.cells #[.int .i64 a0, .int .i64 a1] 28)) 28 b0 b1).mono ((Below.refl _ _).alloc (Nat.le_refl _) (.cells #[.int .i64 c0, .int .i64 c1] 28))
  have h3 := PtC.fresh ((w.alloc (.cells #[.int .i64 a0, .int .i64 a1] 28)).alloc (.cells #[.int .i64 b0, .int .i64 b1] 28)) 28 c0 c1
  rw [e1] at h2
  rw [e2] at h3
  have hb : Below w.heap.size w (((w.alloc (.cells #[.int .i64 a0, .int .i64 a1] 28)).alloc (.cells #[.int .i64 b0, .int .i64 b1] 28)).alloc (.cells #[.int .i64 c0, .int .i64 c1] 28)) := (((Below.refl w.heap.size w).alloc (Nat.le_refl _) (.cells #[.int .i64 a0, .int .i64 a1] 28)).alloc (by simp) (.cells #[.int .i64 b0, .int .i64 b1] 28)).alloc (by rw [e2]; omega) (.cells #[.int .i64 c0, .int .i64 c1] 28)
  exact ⟨h1, h2, h3, hb, by simp⟩
theorem lit3 (v : World) (a0 a1 b0 b1 c0 c1 : Int) (T : TypeId) : PtL (v.alloc (.cells #[.int .i64 a0, .int .i64 a1, .int .i64 b0, .int .i64 b1, .int .i64 c0, .int .i64 c1] T)) (some ⟨v.heap.size, 0, none⟩) 3 [(a0, a1), (b0, b1), (c0, c1)] :=
  ⟨rfl, fun i hi => ⟨v.heap.size, 0, rfl, by simp, fun f hf => by
    rw [World.cell?_alloc_new]
    match i, hi, f, hf with
    | 0, _, 0, _ => rfl
    | 0, _, 1, _ => rfl
    | 1, _, 0, _ => rfl
    | 1, _, 1, _ => rfl
    | 2, _, 0, _ => rfl
    | 2, _, 1, _ => rfl⟩⟩
/-- the cells of a parabola that is a result -/
def RP (B : Nat) (w : World) : Prop := B < w.heap.size ∧ (∀ f, f < 5 → w.cell? ⟨B, f, none⟩ = some (.int .i64 0)) ∧ ∀ f, f < 5 → w.frozen? ⟨B, f, none⟩ = false
theorem RP.mono {B : Nat} {w w' : World} (h : RP B w) (hb : Below w.heap.size w w') : RP B w' :=
  ⟨Nat.lt_of_lt_of_le h.1 hb.size, fun f hf => (hb.cell (p := ⟨B, f, none⟩) h.1).trans (h.2.1 f hf), fun f hf => (hb.frozen (p := ⟨B, f, none⟩) h.1).trans (h.2.2 f hf)⟩
theorem RP.fresh (w : World) (T : TypeId) : RP w.heap.size (w.alloc (.cells #[.int .i64 0, .int .i64 0, .int .i64 0, .int .i64 0, .int .i64 0] T)) :=
  ⟨by simp, fun f hf => by
    rw [World.cell?_alloc_new]
    match f, hf with
    | 0, _ => rfl
    | 1, _ => rfl
    | 2, _ => rfl
    | 3, _ => rfl
    | 4, _ => rfl, fun f _ => by go_keep⟩
theorem RP.parts {B : Nat} {w : World} (h : RP B w) : B < w.heap.size ∧ (w.cell? ⟨B, 0, none⟩ = some (.int .i64 0) ∧ w.cell? ⟨B, 1, none⟩ = some (.int .i64 0) ∧ w.cell? ⟨B, 2, none⟩ = some (.int .i64 0) ∧ w.cell? ⟨B, 3, none⟩ = some (.int .i64 0) ∧ w.cell? ⟨B, 4, none⟩ = some (.int .i64 0)) ∧ w.frozen? ⟨B, 0, none⟩ = false ∧ w.frozen? ⟨B, 1, none⟩ = false ∧ w.frozen? ⟨B, 2, none⟩ = false ∧ w.frozen? ⟨B, 3, none⟩ = false ∧ w.frozen? ⟨B, 4, none⟩ = false :=
  ⟨h.1, ⟨h.2.1 0 (by decide), h.2.1 1 (by decide), h.2.1 2 (by decide), h.2.1 3 (by decide), h.2.1 4 (by decide)⟩, h.2.2 0 (by decide), h.2.2 1 (by decide), h.2.2 2 (by decide), h.2.2 3 (by decide), h.2.2 4 (by decide)⟩
theorem RP.stored {B : Nat} {wS : World} (h : RP B wS) (y0 y1 y2 y3 y4 : Int) {w' : World} (hw : w' = ((((wS.setCell ⟨B, 0, none⟩ (.int .i64 y0)).setCell ⟨B, 1, none⟩ (.int .i64 y1)).setCell ⟨B, 2, none⟩ (.int .i64 y2)).setCell ⟨B, 3, none⟩ (.int .i64 y3)).setCell ⟨B, 4, none⟩ (.int .i64 y4)) :
    w'.cell? ⟨B, 0, none⟩ = some (.int .i64 y0) ∧ w'.cell? ⟨B, 1, none⟩ = some (.int .i64 y1) ∧ w'.cell? ⟨B, 2, none⟩ = some (.int .i64 y2) ∧ w'.cell? ⟨B, 3, none⟩ = some (.int .i64 y3) ∧ w'.cell? ⟨B, 4, none⟩ = some (.int .i64 y4) := by
  obtain ⟨-, ⟨h0, h1, h2, h3, h4⟩, -⟩ := h.parts
  subst hw
  refine ⟨?_, ?_, ?_, ?_, ?_⟩
  · exact scO (by decide) (scO (by decide) (scO (by decide) (scO (by decide) (scS h0))))
  · exact scO (by decide) (scO (by decide) (scO (by decide) (scS (scO (by decide) h1))))
  · exact scO (by decide) (scO (by decide) (scS (scO (by decide) (scO (by decide) h2))))
  · exact scO (by decide) (scS (scO (by decide) (scO (by decide) (scO (by decide) h3))))
  · exact scS (scO (by decide) (scO (by decide) (scO (by decide) (scO (by decide) h4))))
theorem bel5 {X B : Nat} {w wS : World} (hb : Below X w wS) (hx : X ≤ B) (y0 y1 y2 y3 y4 : Value) : Below X w (((((wS.setCell ⟨B, 0, none⟩ y0).setCell ⟨B, 1, none⟩ y1).setCell ⟨B, 2, none⟩ y2).setCell ⟨B, 3, none⟩ y3).setCell ⟨B, 4, none⟩ y4) :=
  (((((hb.setCell hx _).setCell hx _).setCell hx _).setCell hx _).setCell hx _)
set_option maxRecDepth 100000 in
set_option maxHeartbeats 2000000 in
theorem parT_val (a0 a1 b0 b1 c0 c1 : Int) (w : World) (hok : okP [(a0, a1), (b0, b1), (c0, c1)] = true) (hnr : ¬ 100000 < c0 - a0) :
    Calls Try.prog 57 #[.agg #[.int .i64 a0, .int .i64 a1], .agg #[.int .i64 b0, .int .i64 b1], .agg #[.int .i64 c0, .int .i64 c1]] w fun x w' => x = .returned (.agg #[.int .i64 b0, .int .i64 b1, .int .i64 (vxS (a0, a1) (b0, b1) (c0, c1)), .int .i64 (vxB (a0, a1) (b0, b1) (c0, c1)), .int .i64 ((b0 - a0) * (c0 - b0) * ((b0 - a0) + (c0 - b0)))]) ∧ Below w.heap.size w w' := by
  obtain ⟨h3, h4, h5, h6⟩ := ok3 hok
  obtain ⟨⟨m1, m2⟩, ⟨m3, m4⟩, ⟨m5, m6⟩, m7, m8⟩ := vx_small hok hnr
  simp only at h3 h4 h5 h6
  have HS : Hid (vxS (a0, a1) (b0, b1) (c0, c1) = (c1 - b1) * (b0 - a0) * (b0 - a0) - (a1 - b1) * (c0 - b0) * (c0 - b0)) := Lib.hid rfl
  have HB : Hid (vxB (a0, a1) (b0, b1) (c0, c1) = (c1 - b1) * (b0 - a0) + (a1 - b1) * (c0 - b0)) := Lib.hid rfl
  have u1 := aMul (a := b0 - a0) (b := c0 - b0) (A := 100000) (B := 100000) (by omega) (by omega) (by omega) (by omega)
  have u2 := aMul (a := (b0 - a0) * (c0 - b0)) (b := (b0 - a0) + (c0 - b0)) (A := 10000000000) (B := 100000) (by omega) (by omega) (by omega) (by omega)
  generalize vxS (a0, a1) (b0, b1) (c0, c1) = S at HS ⊢
  generalize vxB (a0, a1) (b0, b1) (c0, c1) = B at HB ⊢
  obtain ⟨p, hp⟩ : ∃ p, b0 - a0 = p := ⟨_, rfl⟩
  obtain ⟨q, hq⟩ : ∃ p, c0 - b0 = p := ⟨_, rfl⟩
  obtain ⟨f, hf⟩ : ∃ p, a1 - b1 = p := ⟨_, rfl⟩
  obtain ⟨l, hl⟩ : ∃ p, c1 - b1 = p := ⟨_, rfl⟩
  simp only [hp, hq, hf, hl] at m1 m2 m3 m4 m5 m6 m7 m8 HS HB u1 u2 ⊢
  have r1 : IntKind.i64.wrap (l * p) = l * p := IntWalk.i64_in _ (by omega)
  have r2 : IntKind.i64.wrap (l * p * p) = l * p * p := IntWalk.i64_in _ (by omega)
  have r3 : IntKind.i64.wrap (f * q) = f * q := IntWalk.i64_in _ (by omega)
  have r4 : IntKind.i64.wrap (f * q * q) = f * q * q := IntWalk.i64_in _ (by omega)
  have r5 : IntKind.i64.wrap (l * p * p - f * q * q) = l * p * p - f * q * q := IntWalk.i64_in _ (by omega)
  have r6 : IntKind.i64.wrap (l * p + f * q) = l * p + f * q := IntWalk.i64_in _ (by omega)
  have r7 : IntKind.i64.wrap (p * q) = p * q := IntWalk.i64_in _ (by omega)
  have r8 : IntKind.i64.wrap (p + q) = p + q := IntWalk.i64_in _ (by omega)
  have r9 : IntKind.i64.wrap (p * q * (p + q)) = p * q * (p + q) := IntWalk.i64_in _ (by omega)
  have n1 : IntKind.i64.wrap (b0 - a0) = p := by rw [hp]; exact IntWalk.i64_in _ (by omega)
  have n2 : IntKind.i64.wrap (c0 - b0) = q := by rw [hq]; exact IntWalk.i64_in _ (by omega)
  have n3 : IntKind.i64.wrap (a1 - b1) = f := by rw [hf]; exact IntWalk.i64_in _ (by omega)
  have n4 : IntKind.i64.wrap (c1 - b1) = l := by rw [hl]; exact IntWalk.i64_in _ (by omega)
  have hx0 := (Bx3.fresh w a0 a1 b0 b1 c0 c1)
  have hx := hx0.mono ((Below.refl _ _).alloc (Nat.le_refl _) (.cells #[.int .i64 0, .int .i64 0, .int .i64 0, .int .i64 0, .int .i64 0] 64))
  have hR : RP (w.heap.size + 1 + 1 + 1) (World.alloc (((w.alloc (.cells #[.int .i64 a0, .int .i64 a1] 28)).alloc (.cells #[.int .i64 b0, .int .i64 b1] 28)).alloc (.cells #[.int .i64 c0, .int .i64 c1] 28)) (.cells #[.int .i64 0, .int .i64 0, .int .i64 0, .int .i64 0, .int .i64 0] 64)) := by
    have h := RP.fresh (((w.alloc (.cells #[.int .i64 a0, .int .i64 a1] 28)).alloc (.cells #[.int .i64 b0, .int .i64 b1] 28)).alloc (.cells #[.int .i64 c0, .int .i64 c1] 28)) 64
    rwa [show (World.heap (((w.alloc (.cells #[.int .i64 a0, .int .i64 a1] 28)).alloc (.cells #[.int .i64 b0, .int .i64 b1] 28)).alloc (.cells #[.int .i64 c0, .int .i64 c1] 28))).size = w.heap.size + 1 + 1 + 1 by simp] at h
  clear hx0 hok hnr u1 u2
  go_enter Try.func57, Try.ntmps57
  go_wp2
  generalize World.alloc (((w.alloc (.cells #[.int .i64 a0, .int .i64 a1] 28)).alloc (.cells #[.int .i64 b0, .int .i64 b1] 28)).alloc (.cells #[.int .i64 c0, .int .i64 c1] 28)) (.cells #[.int .i64 0, .int .i64 0, .int .i64 0, .int .i64 0, .int .i64 0] 64) = v at hx hR ⊢
  obtain ⟨⟨ca0, ca1⟩, ⟨cb0, cb1⟩, cc0, cc1⟩ := hx.cells
  clear n3 n4
  go_big_quiet (fail)
  go_wp2
  have bD : Below v.heap.size v (v.drewN nq) := belowDN (Below.refl _ _) _
  replace hx := hx.mono bD
  replace hR := hR.mono bD
  clear ca0 ca1 cb0 cb1 cc0 cc1 bD n1 n2
  generalize v.drewN nq = v2 at hx hR ⊢
  obtain ⟨⟨ca0, ca1⟩, ⟨cb0, cb1⟩, cc0, cc1⟩ := hx.cells
  have n3 : IntKind.i64.wrap (a1 - b1) = f := by rw [hf]; exact IntWalk.i64_in _ (by omega)
  have n4 : IntKind.i64.wrap (c1 - b1) = l := by rw [hl]; exact IntWalk.i64_in _ (by omega)
  obtain ⟨hlt, ⟨e0, e1, e2, e3, e4⟩, g0, g1, g2, g3, g4⟩ := hR.parts
  go_big_quiet (fail)
  go_wp2
  have bD : Below v2.heap.size v2 (v2.drewN nq) := belowDN (Below.refl _ _) _
  have hRD := hR.mono bD
  have hBD := (hx.mono bD).below
  obtain ⟨t0, t1, t2, t3, t4⟩ := hRD.stored b0 b1 (l * p * p - f * q * q) (l * p + f * q) (p * q * (p + q)) rfl
  exact bodyPost_ret (v := .agg #[.int .i64 b0, .int .i64 b1, .int .i64 (l * p * p - f * q * q), .int .i64 (l * p + f * q), .int .i64 (p * q * (p + q))]) (by simp [results, Try.results57, go_sem, t0, t1, t2, t3, t4]) rfl ⟨by rw [HS.out, HB.out], bel5 hBD (by omega) _ _ _ _ _⟩
set_option maxRecDepth 100000 in
set_option maxHeartbeats 2000000 in
theorem bentI_any (a0 a1 b0 b1 c0 c1 k : Int) (w : World) (hk : vxC (a0, a1) (b0, b1) (c0, c1) = k) (hk0 : k ≠ 0) :
    Calls Try.prog 33 #[.agg #[.int .i64 a0, .int .i64 a1], .agg #[.int .i64 b0, .int .i64 b1], .agg #[.int .i64 c0, .int .i64 c1]] w fun x w' => x = .returned (.tuple #[.agg #[.int .i64 0, .int .i64 0, .int .i64 0, .int .i64 0, .int .i64 0], .int .i64 k]) ∧ Below w.heap.size w w' := by
  have hx0 := (Bx3.fresh w a0 a1 b0 b1 c0 c1)
  have hx := hx0.mono ((Below.refl _ _).alloc (Nat.le_refl _) (.cells #[.int .i64 0, .int .i64 0, .int .i64 0, .int .i64 0, .int .i64 0] 64))
  have hR : RP (w.heap.size + 1 + 1 + 1) (World.alloc (((w.alloc (.cells #[.int .i64 a0, .int .i64 a1] 28)).alloc (.cells #[.int .i64 b0, .int .i64 b1] 28)).alloc (.cells #[.int .i64 c0, .int .i64 c1] 28)) (.cells #[.int .i64 0, .int .i64 0, .int .i64 0, .int .i64 0, .int .i64 0] 64)) := by
    have h := RP.fresh (((w.alloc (.cells #[.int .i64 a0, .int .i64 a1] 28)).alloc (.cells #[.int .i64 b0, .int .i64 b1] 28)).alloc (.cells #[.int .i64 c0, .int .i64 c1] 28)) 64
    rwa [show (World.heap (((w.alloc (.cells #[.int .i64 a0, .int .i64 a1] 28)).alloc (.cells #[.int .i64 b0, .int .i64 b1] 28)).alloc (.cells #[.int .i64 c0, .int .i64 c1] 28))).size = w.heap.size + 1 + 1 + 1 by simp] at h
  clear hx0
  cases hok : okP [(a0, a1), (b0, b1), (c0, c1)]
  · rw [vx_1 hok] at hk
    subst hk
    go_enter Try.func33, Try.ntmps33
    go_upto_region 1 with fail
    generalize (World.alloc (((w.alloc (.cells #[.int .i64 a0, .int .i64 a1] 28)).alloc (.cells #[.int .i64 b0, .int .i64 b1] 28)).alloc (.cells #[.int .i64 c0, .int .i64 c1] 28)) (.cells #[.int .i64 0, .int .i64 0, .int .i64 0, .int .i64 0, .int .i64 0] 64)) = v at hx hR ⊢
    obtain ⟨⟨ca0, ca1⟩, ⟨cb0, cb1⟩, cc0, cc1⟩ := hx.cells
    go_wp2_with fail
    refine (iValidCv_any _ 3 3 [(a0, a1), (b0, b1), (c0, c1)] _ (lit3 v a0 a1 b0 b1 c0 c1 _) (by omega)).mono ?_
    rintro x w2 ⟨rfl, b2'⟩
    rw [hok]
    have b2 : Below v.heap.size v w2 := belowCall ((Below.refl _ _).alloc (Nat.le_refl _) _) b2'
    clear b2'
    have hx2 := hx.mono b2
    have R4 := hR.mono b2
    have BW := hx2.below
    obtain ⟨hlt, ⟨e0, e1, e2, e3, e4⟩, g0, g1, g2, g3, g4⟩ := R4.parts
    go_wp2
    obtain ⟨t0, t1, t2, t3, t4⟩ := R4.stored 0 0 0 0 0 rfl
    exact bodyPost_ret (v := .tuple #[.agg #[.int .i64 0, .int .i64 0, .int .i64 0, .int .i64 0, .int .i64 0], .int .i64 1]) (by simp [results, Try.results33, go_sem, t0, t1, t2, t3, t4]) rfl ⟨rfl, bel5 BW (by omega) _ _ _ _ _⟩
  obtain ⟨q3, q4, q5, q6⟩ := ok3 hok
  simp only at q3 q4 q5 q6
  by_cases hr : 100000 < c0 - a0
  · rw [vx_2 hok hr] at hk
    subst hk
    go_enter Try.func33, Try.ntmps33
    go_upto_region 1 with fail
    generalize (World.alloc (((w.alloc (.cells #[.int .i64 a0, .int .i64 a1] 28)).alloc (.cells #[.int .i64 b0, .int .i64 b1] 28)).alloc (.cells #[.int .i64 c0, .int .i64 c1] 28)) (.cells #[.int .i64 0, .int .i64 0, .int .i64 0, .int .i64 0, .int .i64 0] 64)) = v at hx hR ⊢
    obtain ⟨⟨ca0, ca1⟩, ⟨cb0, cb1⟩, cc0, cc1⟩ := hx.cells
    go_wp2_with fail
    refine (iValidCv_any _ 3 3 [(a0, a1), (b0, b1), (c0, c1)] _ (lit3 v a0 a1 b0 b1 c0 c1 _) (by omega)).mono ?_
    rintro x w2 ⟨rfl, b2'⟩
    rw [hok]
    have b2 : Below v.heap.size v w2 := belowCall ((Below.refl _ _).alloc (Nat.le_refl _) _) b2'
    clear b2'
    have hx2 := hx.mono b2
    have R4 := hR.mono b2
    have BW := hx2.below
    obtain ⟨hlt, ⟨e0, e1, e2, e3, e4⟩, g0, g1, g2, g3, g4⟩ := R4.parts
    obtain ⟨⟨da0, da1⟩, ⟨db0, db1⟩, dc0, dc1⟩ := hx2.cells
    go_wp2
    obtain ⟨t0, t1, t2, t3, t4⟩ := R4.stored 0 0 0 0 0 rfl
    exact bodyPost_ret (v := .tuple #[.agg #[.int .i64 0, .int .i64 0, .int .i64 0, .int .i64 0, .int .i64 0], .int .i64 2]) (by simp [results, Try.results33, go_sem, t0, t1, t2, t3, t4]) rfl ⟨rfl, bel5 BW (by omega) _ _ _ _ _⟩
  by_cases hb : vxB (a0, a1) (b0, b1) (c0, c1) = 0
  · rw [vx_6 hok hr hb] at hk
    subst hk
    obtain ⟨U, hPT⟩ : ∃ U, ∀ W, Calls Try.prog 57 #[.agg #[.int .i64 a0, .int .i64 a1], .agg #[.int .i64 b0, .int .i64 b1], .agg #[.int .i64 c0, .int .i64 c1]] W fun x w' => x = .returned (.agg #[.int .i64 b0, .int .i64 b1, .int .i64 (vxS (a0, a1) (b0, b1) (c0, c1)), .int .i64 (vxB (a0, a1) (b0, b1) (c0, c1)), .int .i64 U]) ∧ Below W.heap.size W w' := ⟨_, fun W => (parT_val a0 a1 b0 b1 c0 c1 W hok hr)⟩
    rw [hb] at hPT
    generalize vxS (a0, a1) (b0, b1) (c0, c1) = S at hPT
    go_enter Try.func33, Try.ntmps33
    go_upto_region 1 with fail
    generalize (World.alloc (((w.alloc (.cells #[.int .i64 a0, .int .i64 a1] 28)).alloc (.cells #[.int .i64 b0, .int .i64 b1] 28)).alloc (.cells #[.int .i64 c0, .int .i64 c1] 28)) (.cells #[.int .i64 0, .int .i64 0, .int .i64 0, .int .i64 0, .int .i64 0] 64)) = v at hx hR ⊢
    obtain ⟨⟨ca0, ca1⟩, ⟨cb0, cb1⟩, cc0, cc1⟩ := hx.cells
    go_wp2_with fail
    refine (iValidCv_any _ 3 3 [(a0, a1), (b0, b1), (c0, c1)] _ (lit3 v a0 a1 b0 b1 c0 c1 _) (by omega)).mono ?_
    rintro x w2 ⟨rfl, b2'⟩
    rw [hok]
    have b2 : Below v.heap.size v w2 := belowCall ((Below.refl _ _).alloc (Nat.le_refl _) _) b2'
    clear b2'
    have hx2 := hx.mono b2
    have R4 := hR.mono b2
    have BW := hx2.below
    obtain ⟨hlt, ⟨e0, e1, e2, e3, e4⟩, g0, g1, g2, g3, g4⟩ := R4.parts
    obtain ⟨⟨da0, da1⟩, ⟨db0, db1⟩, dc0, dc1⟩ := hx2.cells
    clear ca0 ca1 cb0 cb1 cc0 cc1
    go_wp2_with fail
    refine (hPT _).mono ?_
    rintro x w3 ⟨rfl, b3⟩
    replace R4 := R4.mono b3
    replace BW := belowCall BW b3
    clear e0 e1 e2 e3 e4 g0 g1 g2 g3 g4
    have b5 : Below w3.heap.size w3 (w3.alloc (.cells #[.int .i64 b0, .int .i64 b1, .int .i64 S, .int .i64 0, .int .i64 U] 64)) := (Below.refl _ _).alloc (Nat.le_refl _) _
    replace R4 := R4.mono b5
    replace BW := belowCall BW b5
    obtain ⟨hlt5, ⟨e0, e1, e2, e3, e4⟩, g0, g1, g2, g3, g4⟩ := R4.parts
    clear b5
    go_wp2
    obtain ⟨t0, t1, t2, t3, t4⟩ := R4.stored 0 0 0 0 0 rfl
    exact bodyPost_ret (v := .tuple #[.agg #[.int .i64 0, .int .i64 0, .int .i64 0, .int .i64 0, .int .i64 0], .int .i64 6]) (by simp [results, Try.results33, go_sem, t0, t1, t2, t3, t4]) rfl ⟨rfl, bel5 BW (by omega) _ _ _ _ _⟩
  · exact absurd (vx_0 hok hr hb) (by rw [hk]; exact hk0)
end Go.Proofs.Ytidiiladlmaigaa
