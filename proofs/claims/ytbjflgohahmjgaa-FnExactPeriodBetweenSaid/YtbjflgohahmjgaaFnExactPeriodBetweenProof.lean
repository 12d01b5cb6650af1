/- FnExactPeriodBetween: for every two minima the program's PeriodBetween answers as the model's. -/
import Derived.Test.YtbjflgohahmjgaaB1
import Derived.Test.YtbjflgohahmjgaaPM
import Derived.ChangeOld
import Derived.Lib.SmallJoins
namespace Go.Proofs.Ytbjflgohahmjgaa.fnExactPeriodBetween
open Go.ChangeShapes Go.WideShapes Go.ChangeAt Go.RowKit
open Go.ChangeMaps (open_string shut_string)
set_option linter.unusedVariables false

theorem own : ownKnob Try.prog.godebug = none := by kernel_rfl
theorem laidOut : laidOutB Try.prog = true := by kernel_rfl
theorem pb_form (a b : Mi) : ∃ x y k, pbF a b = (x, y, k) := ⟨_, _, _, rfl⟩
theorem useBox {F : Exit → Act → World → Prop} {a : Act} {w v : World} (B : Nat) (X Y : Value) (h0 : w.cell? ⟨B, 0, none⟩ = some X) (h1 : w.cell? ⟨B, 1, none⟩ = some Y) (hB : B < w.heap.size) (hb : Below v.heap.size v w)
    (k : ∀ u, Below v.heap.size v u → u.cell? ⟨B, 0, none⟩ = some X → u.cell? ⟨B, 1, none⟩ = some Y → B < u.heap.size → F .normal a u) : F .normal a w := k w hb h0 h1 hB
theorem useBox2 {F : Exit → Act → World → Prop} {a : Act} {w v : World} (A B : Nat) (X Y : Value) (g0 : w.cell? ⟨A, 0, none⟩ = some X) (g1 : w.cell? ⟨A, 1, none⟩ = some Y) (h0 : w.cell? ⟨B, 0, none⟩ = some X) (h1 : w.cell? ⟨B, 1, none⟩ = some Y) (hb : Below v.heap.size v w)
    (k : ∀ u, Below v.heap.size v u → u.cell? ⟨A, 0, none⟩ = some X → u.cell? ⟨A, 1, none⟩ = some Y → u.cell? ⟨B, 0, none⟩ = some X → u.cell? ⟨B, 1, none⟩ = some Y → F .normal a u) : F .normal a w := k w hb g0 g1 h0 h1
theorem cutW {F : Exit → Act → World → Prop} {f : Nat → Act} {v : World} {X Y : Value} {G : Prop}
    (main : (∀ u B, Below v.heap.size v u → u.cell? ⟨B, 0, none⟩ = some X → u.cell? ⟨B, 1, none⟩ = some Y → B < u.heap.size → F .normal (f B) u) → G)
    (rest : ∀ u B, Below v.heap.size v u → u.cell? ⟨B, 0, none⟩ = some X → u.cell? ⟨B, 1, none⟩ = some Y → B < u.heap.size → F .normal (f B) u) : G := main rest
theorem new0 (w : World) (X Y : Value) (T : TypeId) : (w.alloc (.cells #[X, Y] T)).cell? ⟨w.heap.size, 0, none⟩ = some X := by rw [World.cell?_alloc_new]; rfl
theorem new1 (w : World) (X Y : Value) (T : TypeId) : (w.alloc (.cells #[X, Y] T)).cell? ⟨w.heap.size, 1, none⟩ = some Y := by rw [World.cell?_alloc_new]; rfl
set_option maxRecDepth 100000 in
set_option maxHeartbeats 4000000 in

theorem walk (a0_0 : Int) (a0_1 : Int) (a1_0 : Int) (a1_1 : Int) (w : World) (w0_0 : (Lit.int .i64 a0_0).wf = true) (w0_1 : (Lit.int .i64 a0_1).wf = true) (w1_0 : (Lit.int .i64 a1_0).wf = true) (w1_1 : (Lit.int .i64 a1_1).wf = true) :
    Calls Try.prog 8 #[.agg #[.int .i64 a0_0, .int .i64 a0_1], .agg #[.int .i64 a1_0, .int .i64 a1_1]] w fun e w' => e = .returned (.bool true) ∧ Below w.heap.size w w' := by
  obtain ⟨X, Y, C, hv⟩ := pb_form (a0_0, a0_1) (a1_0, a1_1)
  have hcc : (C != C) = false := by simp
  have HSV : ∀ W, Calls Try.prog 32 #[.agg #[.int .i64 a0_0, .int .i64 a0_1], .agg #[.int .i64 a1_0, .int .i64 a1_1]] W fun e w' => e = .returned (.tuple #[.agg #[.int .i64 X, .int .i64 Y], .int .i64 C]) ∧ Below W.heap.size W w' := fun W => (sPer_any a0_0 a0_1 a1_0 a1_1 W).mono (by rintro e w' ⟨⟨x, y, k, hq, rfl⟩, hb⟩; rw [hv] at hq; cases hq; exact ⟨rfl, hb⟩)
  have HIV : ∀ W, Calls Try.prog 15 #[.agg #[.int .i64 a0_0, .int .i64 a0_1], .agg #[.int .i64 a1_0, .int .i64 a1_1]] W fun e w' => e = .returned (.tuple #[.agg #[.int .i64 X, .int .i64 Y], .int .i64 C]) ∧ Below W.heap.size W w' := fun W => (iPer_any a0_0 a0_1 a1_0 a1_1 W).mono (by rintro e w' ⟨⟨x, y, k, hq, rfl⟩, hb⟩; rw [hv] at hq; cases hq; exact ⟨rfl, hb⟩)
  have hx := Bx2.fresh w a0_0 a0_1 a1_0 a1_1 53 53
  clear hv
  go_enter Try.func8, Try.ntmps8
  go_upto_region 1 with fail
  generalize ((w.alloc (.cells #[.int .i64 a0_0, .int .i64 a0_1] 53)).alloc (.cells #[.int .i64 a1_0, .int .i64 a1_1] 53)) = v at hx ⊢
  obtain ⟨⟨ca0, ca1⟩, cb0, cb1⟩ := hx.cells
  have hl0 := hx.a.1
  have hl1 := hx.b.1
  have hvB := hx.below
  clear hx
  apply cutW (v := v) (X := .int .i64 X) (Y := .int .i64 Y)
  case main =>
    intro HREST
    go_region_held3 (fun W' => W'.cell? ⟨w.heap.size, 0, none⟩ = some (.int .i64 a0_0) ∧ W'.cell? ⟨w.heap.size, 1, none⟩ = some (.int .i64 a0_1) ∧ W'.cell? ⟨w.heap.size + 1, 0, none⟩ = some (.int .i64 a1_0) ∧ W'.cell? ⟨w.heap.size + 1, 1, none⟩ = some (.int .i64 a1_1)) (refine ⟨?_, ?_, ?_, ?_⟩ <;> first | assumption | exact ((show Below v.heap.size v _ by (repeat (first | assumption | exact Below.refl _ _ | refine belowDN ?_ _ | refine Below.drew ?_ | refine Below.setCell ?_ (by first | omega | (simp <;> omega)) _ | refine Below.alloc ?_ (by first | omega | (simp <;> omega)) _ | refine belowCall ?_ (by assumption)))).cell (p := ⟨w.heap.size, 0, none⟩) hl0).trans ca0 | exact ((show Below v.heap.size v _ by (repeat (first | assumption | exact Below.refl _ _ | refine belowDN ?_ _ | refine Below.drew ?_ | refine Below.setCell ?_ (by first | omega | (simp <;> omega)) _ | refine Below.alloc ?_ (by first | omega | (simp <;> omega)) _ | refine belowCall ?_ (by assumption)))).cell (p := ⟨w.heap.size, 1, none⟩) hl0).trans ca1 | exact ((show Below v.heap.size v _ by (repeat (first | assumption | exact Below.refl _ _ | refine belowDN ?_ _ | refine Below.drew ?_ | refine Below.setCell ?_ (by first | omega | (simp <;> omega)) _ | refine Below.alloc ?_ (by first | omega | (simp <;> omega)) _ | refine belowCall ?_ (by assumption)))).cell (p := ⟨w.heap.size + 1, 0, none⟩) hl1).trans cb0 | exact ((show Below v.heap.size v _ by (repeat (first | assumption | exact Below.refl _ _ | refine belowDN ?_ _ | refine Below.drew ?_ | refine Below.setCell ?_ (by first | omega | (simp <;> omega)) _ | refine Below.alloc ?_ (by first | omega | (simp <;> omega)) _ | refine belowCall ?_ (by assumption)))).cell (p := ⟨w.heap.size + 1, 1, none⟩) hl1).trans cb1) (first | (go_at_call_of 33 (Value.int .i64 a0_0); refine (toMi_any _ _ _).mono ?_; rintro e wA ⟨rfl, bA⟩; obtain ⟨hcA, hfA⟩ := bcell bA; have yA := bA.size; (try simp at yA); have DA : Below v.heap.size v wA := belowCall (by (repeat (first | assumption | exact Below.refl _ _ | refine belowDN ?_ _ | refine Below.drew ?_ | refine Below.setCell ?_ (by first | omega | (simp <;> omega)) _ | refine Below.alloc ?_ (by first | omega | (simp <;> omega)) _ | refine belowCall ?_ (by assumption)))) bA; have zA := DA.size; clear bA; (try have s1 : v.heap.size < wA.heap.size := by omega)) | (go_at_call_of 33 (Value.int .i64 a1_0); refine (toMi_any _ _ _).mono ?_; rintro e wC ⟨rfl, bC⟩; obtain ⟨hcC, hfC⟩ := bcell bC; have yC := bC.size; (try simp at yC); have DC : Below v.heap.size v wC := belowCall (by (repeat (first | assumption | exact Below.refl _ _ | refine belowDN ?_ _ | refine Below.drew ?_ | refine Below.setCell ?_ (by first | omega | (simp <;> omega)) _ | refine Below.alloc ?_ (by first | omega | (simp <;> omega)) _ | refine belowCall ?_ (by assumption)))) bC; have zC := DC.size; clear bC; (try have s2 : v.heap.size < wC.heap.size := by omega); (try have s3 : wA.heap.size < wC.heap.size := by omega)) | (go_at_call 32; refine (HSV _).mono ?_; rintro e wB ⟨rfl, bB⟩; obtain ⟨hcB, hfB⟩ := bcell bB; have yB := bB.size; (try simp at yB); have DB : Below v.heap.size v wB := belowCall (by (repeat (first | assumption | exact Below.refl _ _ | refine belowDN ?_ _ | refine Below.drew ?_ | refine Below.setCell ?_ (by first | omega | (simp <;> omega)) _ | refine Below.alloc ?_ (by first | omega | (simp <;> omega)) _ | refine belowCall ?_ (by assumption)))) bB; have zB := DB.size; clear bB; (try have s4 : v.heap.size < wB.heap.size := by omega); (try have s5 : wA.heap.size < wB.heap.size := by omega); (try have s6 : wC.heap.size < wB.heap.size := by omega)) | fail)
    all_goals
      (first | (with_reducible refine useBox (v := v) wB.heap.size (.int .i64 X) (.int .i64 Y) (new0 _ _ _ _) (new1 _ _ _ _) ?_ ?_ ?_; (· simp); (· (repeat (first | assumption | exact Below.refl _ _ | refine belowDN ?_ _ | refine Below.drew ?_ | refine Below.setCell ?_ (by first | omega | (simp <;> omega)) _ | refine Below.alloc ?_ (by first | omega | (simp <;> omega)) _ | refine belowCall ?_ (by assumption)))); intro u D h0 h1 hB; generalize wB.heap.size = B1 at h0 h1 hB ⊢) | (with_reducible refine useBox (v := v) wC.heap.size (.int .i64 X) (.int .i64 Y) (scO (by decide) (scS (u := .int .i64 0) ?_)) (scS (scO (u := .int .i64 0) (by decide) ?_)) ?_ ?_ ?_; (· go_keep); (· go_keep); (· (first | (simp; omega) | (simp; done))); (· (repeat (first | assumption | exact Below.refl _ _ | refine belowDN ?_ _ | refine Below.drew ?_ | refine Below.setCell ?_ (by first | omega | (simp <;> omega)) _ | refine Below.alloc ?_ (by first | omega | (simp <;> omega)) _ | refine belowCall ?_ (by assumption)))); intro u D h0 h1 hB; generalize wC.heap.size = B1 at h0 h1 hB ⊢) | (with_reducible refine useBox (v := v) wA.heap.size (.int .i64 X) (.int .i64 Y) (scO (by decide) (scS (u := .int .i64 0) ?_)) (scS (scO (u := .int .i64 0) (by decide) ?_)) ?_ ?_ ?_; (· go_keep); (· go_keep); (· (first | (simp; omega) | (simp; done))); (· (repeat (first | assumption | exact Below.refl _ _ | refine belowDN ?_ _ | refine Below.drew ?_ | refine Below.setCell ?_ (by first | omega | (simp <;> omega)) _ | refine Below.alloc ?_ (by first | omega | (simp <;> omega)) _ | refine belowCall ?_ (by assumption)))); intro u D h0 h1 hB; generalize wA.heap.size = B1 at h0 h1 hB ⊢) | (with_reducible refine useBox (v := v) v.heap.size (.int .i64 X) (.int .i64 Y) (scO (by decide) (scS (u := .int .i64 0) ?_)) (scS (scO (u := .int .i64 0) (by decide) ?_)) ?_ ?_ ?_; (· go_keep); (· go_keep); (· (first | (simp; omega) | (simp; done))); (· (repeat (first | assumption | exact Below.refl _ _ | refine belowDN ?_ _ | refine Below.drew ?_ | refine Below.setCell ?_ (by first | omega | (simp <;> omega)) _ | refine Below.alloc ?_ (by first | omega | (simp <;> omega)) _ | refine belowCall ?_ (by assumption)))); intro u D h0 h1 hB; generalize v.heap.size = B1 at h0 h1 hB ⊢) | fail)
      exact HREST u B1 D h0 h1 hB
  case rest =>
    intro u B1 D h0 h1 hB
    go_wp2_with fail
    have yD := D.size
    replace ca0 := (D.cell (p := ⟨w.heap.size, 0, none⟩) hl0).trans ca0
    replace ca1 := (D.cell (p := ⟨w.heap.size, 1, none⟩) hl0).trans ca1
    replace cb0 := (D.cell (p := ⟨w.heap.size + 1, 0, none⟩) hl1).trans cb0
    replace cb1 := (D.cell (p := ⟨w.heap.size + 1, 1, none⟩) hl1).trans cb1
    replace hl0 : w.heap.size < u.heap.size := by omega
    replace hl1 : w.heap.size + 1 < u.heap.size := by omega
    replace hvB := belowCall hvB D
    clear D yD
    obtain ⟨v, rfl⟩ : ∃ v2, v2 = u := ⟨u, rfl⟩
    go_region_held3 (fun W' => W'.cell? ⟨w.heap.size, 0, none⟩ = some (.int .i64 a0_0) ∧ W'.cell? ⟨w.heap.size, 1, none⟩ = some (.int .i64 a0_1) ∧ W'.cell? ⟨w.heap.size + 1, 0, none⟩ = some (.int .i64 a1_0) ∧ W'.cell? ⟨w.heap.size + 1, 1, none⟩ = some (.int .i64 a1_1)) (refine ⟨?_, ?_, ?_, ?_⟩ <;> first | assumption | exact ((show Below v.heap.size v _ by (repeat (first | assumption | exact Below.refl _ _ | refine belowDN ?_ _ | refine Below.drew ?_ | refine Below.setCell ?_ (by first | omega | (simp <;> omega)) _ | refine Below.alloc ?_ (by first | omega | (simp <;> omega)) _ | refine belowCall ?_ (by assumption)))).cell (p := ⟨w.heap.size, 0, none⟩) hl0).trans ca0 | exact ((show Below v.heap.size v _ by (repeat (first | assumption | exact Below.refl _ _ | refine belowDN ?_ _ | refine Below.drew ?_ | refine Below.setCell ?_ (by first | omega | (simp <;> omega)) _ | refine Below.alloc ?_ (by first | omega | (simp <;> omega)) _ | refine belowCall ?_ (by assumption)))).cell (p := ⟨w.heap.size, 1, none⟩) hl0).trans ca1 | exact ((show Below v.heap.size v _ by (repeat (first | assumption | exact Below.refl _ _ | refine belowDN ?_ _ | refine Below.drew ?_ | refine Below.setCell ?_ (by first | omega | (simp <;> omega)) _ | refine Below.alloc ?_ (by first | omega | (simp <;> omega)) _ | refine belowCall ?_ (by assumption)))).cell (p := ⟨w.heap.size + 1, 0, none⟩) hl1).trans cb0 | exact ((show Below v.heap.size v _ by (repeat (first | assumption | exact Below.refl _ _ | refine belowDN ?_ _ | refine Below.drew ?_ | refine Below.setCell ?_ (by first | omega | (simp <;> omega)) _ | refine Below.alloc ?_ (by first | omega | (simp <;> omega)) _ | refine belowCall ?_ (by assumption)))).cell (p := ⟨w.heap.size + 1, 1, none⟩) hl1).trans cb1) (first | (go_at_call_of 33 (Value.int .i64 a0_0); refine (toMi_any _ _ _).mono ?_; rintro e wA ⟨rfl, bA⟩; obtain ⟨hcA, hfA⟩ := bcell bA; have yA := bA.size; (try simp at yA); have DA : Below v.heap.size v wA := belowCall (by (repeat (first | assumption | exact Below.refl _ _ | refine belowDN ?_ _ | refine Below.drew ?_ | refine Below.setCell ?_ (by first | omega | (simp <;> omega)) _ | refine Below.alloc ?_ (by first | omega | (simp <;> omega)) _ | refine belowCall ?_ (by assumption)))) bA; have zA := DA.size; clear bA; (try have s1 : v.heap.size < wA.heap.size := by omega)) | (go_at_call_of 33 (Value.int .i64 a1_0); refine (toMi_any _ _ _).mono ?_; rintro e wC ⟨rfl, bC⟩; obtain ⟨hcC, hfC⟩ := bcell bC; have yC := bC.size; (try simp at yC); have DC : Below v.heap.size v wC := belowCall (by (repeat (first | assumption | exact Below.refl _ _ | refine belowDN ?_ _ | refine Below.drew ?_ | refine Below.setCell ?_ (by first | omega | (simp <;> omega)) _ | refine Below.alloc ?_ (by first | omega | (simp <;> omega)) _ | refine belowCall ?_ (by assumption)))) bC; have zC := DC.size; clear bC; (try have s2 : v.heap.size < wC.heap.size := by omega); (try have s3 : wA.heap.size < wC.heap.size := by omega)) | (go_at_call 15; refine (HIV _).mono ?_; rintro e wB ⟨rfl, bB⟩; obtain ⟨hcB, hfB⟩ := bcell bB; have yB := bB.size; (try simp at yB); have DB : Below v.heap.size v wB := belowCall (by (repeat (first | assumption | exact Below.refl _ _ | refine belowDN ?_ _ | refine Below.drew ?_ | refine Below.setCell ?_ (by first | omega | (simp <;> omega)) _ | refine Below.alloc ?_ (by first | omega | (simp <;> omega)) _ | refine belowCall ?_ (by assumption)))) bB; have zB := DB.size; clear bB; (try have s4 : v.heap.size < wB.heap.size := by omega); (try have s5 : wA.heap.size < wB.heap.size := by omega); (try have s6 : wC.heap.size < wB.heap.size := by omega)) | fail)
    all_goals
      (first | (with_reducible refine useBox2 (v := v) B1 wB.heap.size (.int .i64 X) (.int .i64 Y) ?_ ?_ (new0 _ _ _ _) (new1 _ _ _ _) ?_ ?_; (· exact (((show Below v.heap.size v _ by (repeat (first | assumption | exact Below.refl _ _ | refine belowDN ?_ _ | refine Below.drew ?_ | refine Below.setCell ?_ (by first | omega | (simp <;> omega)) _ | refine Below.alloc ?_ (by first | omega | (simp <;> omega)) _ | refine belowCall ?_ (by assumption)))).cell (p := ⟨B1, 0, none⟩) hB).trans h0)); (· exact (((show Below v.heap.size v _ by (repeat (first | assumption | exact Below.refl _ _ | refine belowDN ?_ _ | refine Below.drew ?_ | refine Below.setCell ?_ (by first | omega | (simp <;> omega)) _ | refine Below.alloc ?_ (by first | omega | (simp <;> omega)) _ | refine belowCall ?_ (by assumption)))).cell (p := ⟨B1, 1, none⟩) hB).trans h1)); (· (repeat (first | assumption | exact Below.refl _ _ | refine belowDN ?_ _ | refine Below.drew ?_ | refine Below.setCell ?_ (by first | omega | (simp <;> omega)) _ | refine Below.alloc ?_ (by first | omega | (simp <;> omega)) _ | refine belowCall ?_ (by assumption)))); intro u2 D2 g0 g1 k0 k1; generalize wB.heap.size = B2 at k0 k1 ⊢) | (with_reducible refine useBox2 (v := v) B1 wC.heap.size (.int .i64 X) (.int .i64 Y) ?_ ?_ (scO (by decide) (scS (u := .int .i64 0) ?_)) (scS (scO (u := .int .i64 0) (by decide) ?_)) ?_ ?_; (· exact (((show Below v.heap.size v _ by (repeat (first | assumption | exact Below.refl _ _ | refine belowDN ?_ _ | refine Below.drew ?_ | refine Below.setCell ?_ (by first | omega | (simp <;> omega)) _ | refine Below.alloc ?_ (by first | omega | (simp <;> omega)) _ | refine belowCall ?_ (by assumption)))).cell (p := ⟨B1, 0, none⟩) hB).trans h0)); (· exact (((show Below v.heap.size v _ by (repeat (first | assumption | exact Below.refl _ _ | refine belowDN ?_ _ | refine Below.drew ?_ | refine Below.setCell ?_ (by first | omega | (simp <;> omega)) _ | refine Below.alloc ?_ (by first | omega | (simp <;> omega)) _ | refine belowCall ?_ (by assumption)))).cell (p := ⟨B1, 1, none⟩) hB).trans h1)); (· go_keep); (· go_keep); (· (repeat (first | assumption | exact Below.refl _ _ | refine belowDN ?_ _ | refine Below.drew ?_ | refine Below.setCell ?_ (by first | omega | (simp <;> omega)) _ | refine Below.alloc ?_ (by first | omega | (simp <;> omega)) _ | refine belowCall ?_ (by assumption)))); intro u2 D2 g0 g1 k0 k1; generalize wC.heap.size = B2 at k0 k1 ⊢) | (with_reducible refine useBox2 (v := v) B1 wA.heap.size (.int .i64 X) (.int .i64 Y) ?_ ?_ (scO (by decide) (scS (u := .int .i64 0) ?_)) (scS (scO (u := .int .i64 0) (by decide) ?_)) ?_ ?_; (· exact (((show Below v.heap.size v _ by (repeat (first | assumption | exact Below.refl _ _ | refine belowDN ?_ _ | refine Below.drew ?_ | refine Below.setCell ?_ (by first | omega | (simp <;> omega)) _ | refine Below.alloc ?_ (by first | omega | (simp <;> omega)) _ | refine belowCall ?_ (by assumption)))).cell (p := ⟨B1, 0, none⟩) hB).trans h0)); (· exact (((show Below v.heap.size v _ by (repeat (first | assumption | exact Below.refl _ _ | refine belowDN ?_ _ | refine Below.drew ?_ | refine Below.setCell ?_ (by first | omega | (simp <;> omega)) _ | refine Below.alloc ?_ (by first | omega | (simp <;> omega)) _ | refine belowCall ?_ (by assumption)))).cell (p := ⟨B1, 1, none⟩) hB).trans h1)); (· go_keep); (· go_keep); (· (repeat (first | assumption | exact Below.refl _ _ | refine belowDN ?_ _ | refine Below.drew ?_ | refine Below.setCell ?_ (by first | omega | (simp <;> omega)) _ | refine Below.alloc ?_ (by first | omega | (simp <;> omega)) _ | refine belowCall ?_ (by assumption)))); intro u2 D2 g0 g1 k0 k1; generalize wA.heap.size = B2 at k0 k1 ⊢) | (with_reducible refine useBox2 (v := v) B1 v.heap.size (.int .i64 X) (.int .i64 Y) ?_ ?_ (scO (by decide) (scS (u := .int .i64 0) ?_)) (scS (scO (u := .int .i64 0) (by decide) ?_)) ?_ ?_; (· exact (((show Below v.heap.size v _ by (repeat (first | assumption | exact Below.refl _ _ | refine belowDN ?_ _ | refine Below.drew ?_ | refine Below.setCell ?_ (by first | omega | (simp <;> omega)) _ | refine Below.alloc ?_ (by first | omega | (simp <;> omega)) _ | refine belowCall ?_ (by assumption)))).cell (p := ⟨B1, 0, none⟩) hB).trans h0)); (· exact (((show Below v.heap.size v _ by (repeat (first | assumption | exact Below.refl _ _ | refine belowDN ?_ _ | refine Below.drew ?_ | refine Below.setCell ?_ (by first | omega | (simp <;> omega)) _ | refine Below.alloc ?_ (by first | omega | (simp <;> omega)) _ | refine belowCall ?_ (by assumption)))).cell (p := ⟨B1, 1, none⟩) hB).trans h1)); (· go_keep); (· go_keep); (· (repeat (first | assumption | exact Below.refl _ _ | refine belowDN ?_ _ | refine Below.drew ?_ | refine Below.setCell ?_ (by first | omega | (simp <;> omega)) _ | refine Below.alloc ?_ (by first | omega | (simp <;> omega)) _ | refine belowCall ?_ (by assumption)))); intro u2 D2 g0 g1 k0 k1; generalize v.heap.size = B2 at k0 k1 ⊢) | fail)
      clear hcA hfA yA DA zA hcC hfC yC DC zC hcB hfB yB DB zB
      go_wp2_with (go_at_call 34; refine (eqFr_self X Y _).mono ?_; rintro x w' ⟨rfl, b3⟩)
      go_wp2
      go_ret
      exact ⟨rfl, belowCall hvB (by (repeat (first | assumption | exact Below.refl _ _ | refine belowDN ?_ _ | refine Below.drew ?_ | refine Below.setCell ?_ (by first | omega | (simp <;> omega)) _ | refine Below.alloc ?_ (by first | omega | (simp <;> omega)) _ | refine belowCall ?_ (by assumption))))⟩

set_option maxRecDepth 100000 in
theorem lifted (os : Os) (started : os.Started) (H : Type) (enc : TypeId × Value → H) :
    ReturnsInHanded {} Try.checked os 8 .any (Rows.fnExactPeriodBetweenSpec.pre6 enc Try.prog Try.f8 Rows.fnExactPeriodBetweenRow.domain false) (Rows.fnExactPeriodBetweenSpec.post enc Try.prog Try.f8 false true false false) := by
  refine returnsInHanded_of_change (C := Try.checked) own started (by kernel_rfl) Try.func8
    (ChangeSpec.witness6 (enc := enc) (C := Try.checked) false ⟨#[], #[.agg #[.int .i64 0, .int .i64 0], .agg #[.int .i64 0, .int .i64 0]], []⟩ 8 (by kernel_rfl) (by kernel_rfl) (by kernel_rfl) (by kernel_rfl)) ?_
  intro W base args ds gs before hval0 hW hcnd _
  have hval : ∀ (j : Nat) t v, Try.f8.params[j]? = some t → args[j]? = some v → Value.okWide Try.prog W .any base t v := hval0
  have hW' := hW
  obtain ⟨p, q, hA0, hV, rfl, hfz, hnd⟩ := hW
  have hA : DataW.TrodAll enc Try.prog W 0 (fun _ => true) true Try.f8.params.toList args.toList ds p := hA0
  rw [Try.params8] at hA hval
  obtain ⟨v0, vs0, d0, ds0, p0, q0, hargs, rfl, rfl, h0, r0⟩ := trodAll_cons hA
  obtain ⟨v1, vs1, d1, ds1, p1, q1, rfl, rfl, rfl, h1, r1⟩ := trodAll_cons r0
  obtain ⟨rfl, rfl, rfl⟩ := trodAll_nil r1
  obtain rfl : args = #[v0, v1] := by cases args; simp_all
  obtain ⟨rfl, rfl⟩ := trodVars_none hV
  have k0 := h0
  have lt0 : ∀ x ∈ p0, x.block < W.heap.size := by obtain ⟨m, hm⟩ := k0; exact DataW.trod_lt m _ _ _ hm
  obtain ⟨c0_0, c0_1, y0_0, y0_1, mf0, rfl, hd0, hp0, g0_0, g0_1⟩ := Go.Joins.open_agg2 Try.underlying53 (by kernel_rfl) (show Try.prog.cellsOf 53 = 2 by kernel_rfl) (hval 0 53 v0 rfl rfl) h0
  obtain ⟨a0_0, e0_0, _, w0_0⟩ := DataW.trod_int Try.underlying2 g0_0
  simp only [List.cons.injEq, and_true] at e0_0
  subst e0_0
  obtain ⟨a0_1, e0_1, _, w0_1⟩ := DataW.trod_int Try.underlying2 g0_1
  simp only [List.cons.injEq, and_true] at e0_1
  subst e0_1
  have k1 := h1
  have lt1 : ∀ x ∈ p1, x.block < W.heap.size := by obtain ⟨m, hm⟩ := k1; exact DataW.trod_lt m _ _ _ hm
  obtain ⟨c1_0, c1_1, y1_0, y1_1, mf1, rfl, hd1, hp1, g1_0, g1_1⟩ := Go.Joins.open_agg2 Try.underlying53 (by kernel_rfl) (show Try.prog.cellsOf 53 = 2 by kernel_rfl) (hval 1 53 v1 rfl rfl) h1
  obtain ⟨a1_0, e1_0, _, w1_0⟩ := DataW.trod_int Try.underlying2 g1_0
  simp only [List.cons.injEq, and_true] at e1_0
  subst e1_0
  obtain ⟨a1_1, e1_1, _, w1_1⟩ := DataW.trod_int Try.underlying2 g1_1
  simp only [List.cons.injEq, and_true] at e1_1
  subst e1_1
  clear hA0 hval0
  refine (walk a0_0 a0_1 a1_0 a1_1 W w0_0 w0_1 w1_0 w1_1).mono fun e W' ⟨he, bel⟩ => ?_
  subst he
  exact ⟨_, rfl, _, _, _, [], _, [], hW', trodAll_mk1 (shut_bool Try.underlying4 _), (trodAll_cons_mk (Below.trod laidOut (by kernel_rfl) (of_decide_eq_true (by kernel_rfl)) k0 bel lt0) (trodAll_cons_mk (Below.trod laidOut (by kernel_rfl) (of_decide_eq_true (by kernel_rfl)) k1 bel lt1) trodAll_mk0)), rfl, bel.frame _, fun h => by cases h⟩

theorem over : Rows.fnExactPeriodBetweenRow.holds Try.pinned (OpenSpec.ofChange Rows.fnExactPeriodBetweenSpec) :=
  OpenClaim.holds_of_wide 8 Try.f8 rfl rfl rfl rfl rfl rfl rfl ⟨rfl, rfl, rfl, rfl, rfl⟩ rfl rfl rfl rfl rfl (by kernel_rfl) Try.func8 (by kernel_rfl)
    (of_decide_eq_true (by kernel_rfl)) (by unfold Func.isWrapper; first | (rw [if_pos (by decide +kernel)]; kernel_rfl) | (rw [if_neg (by decide +kernel)]; exact ⟨rfl, rfl⟩))
    (fun os started H enc _ => lifted os started H enc)

theorem proved : Rows.FnExactPeriodBetweenSaid := over
#print axioms proved
end Go.Proofs.Ytbjflgohahmjgaa.fnExactPeriodBetween
