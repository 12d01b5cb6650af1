/- The model's drawn stars: l04Names, l04New, A2Star. -/
import Derived.Test.YtfnjndbnogeddaaGreatDoorK1
import Derived.Test.YtfnjndbnogeddaaGreatDoorS5
import Derived.Test.YtfnjndbnogeddaaGreatDoorS2
import Derived.Deep.OwnRows
namespace Go.Proofs.YtfnjndbnogeddaaGreatDoor
open Go.ChangeShapes Go.WideShapes Go.ChangeAt Go.RowKit Go.Deep

/-- the names of the model's stars -/
def nmK : Nat → ByteArray
  | 0 => ⟨#[98, 101, 116, 97, 45, 108, 121, 114]⟩
  | 1 => ⟨#[100, 101, 108, 45, 99, 101, 112]⟩
  | 2 => ⟨#[109, 105, 114, 97]⟩
  | 3 => ⟨#[114, 45, 99, 114, 98]⟩
  | 4 => ⟨#[114, 114, 45, 108, 121, 114]⟩
  | _ => ⟨#[115, 115, 45, 99, 121, 103]⟩
theorem nmK_name : ∀ k, k < 6 → nameB (nmK k) = true := by
  intro k hk
  match k, hk with
  | 0, _ => exact of_decide_eq_true (by decide)
  | 1, _ => exact of_decide_eq_true (by decide)
  | 2, _ => exact of_decide_eq_true (by decide)
  | 3, _ => exact of_decide_eq_true (by decide)
  | 4, _ => exact of_decide_eq_true (by decide)
  | 5, _ => exact of_decide_eq_true (by decide)
theorem nmK_step : ∀ k, k < 5 → Op.bytesLess (nmK k).toList (nmK (k + 1)).toList = true := by
  intro k hk
  match k, hk with
  | 0, _ => simp only [nmK, ByteArray.toList_eq]; rfl
  | 1, _ => simp only [nmK, ByteArray.toList_eq]; rfl
  | 2, _ => simp only [nmK, ByteArray.toList_eq]; rfl
  | 3, _ => simp only [nmK, ByteArray.toList_eq]; rfl
  | 4, _ => simp only [nmK, ByteArray.toList_eq]; rfl
theorem l04Names_any (w : World) :
    Calls Tryz.prog 29 #[] w fun e w' => e = .returned (.slice (some ⟨w.heap.size, 0, none⟩) 6 6) ∧ (∀ i, i < 6 → w'.cell? ⟨w.heap.size, 0 + i, none⟩ = some (.string (nmK i))) ∧ w.heap.size < w'.heap.size ∧ w.grownBy w' none := by
  go_enter Tryz.func29, Tryz.ntmps29
  go_wp2
  go_ret
  refine ⟨rfl, fun i hi => ?_, by simp, World.grownBy_alloc _ _ _⟩
  rw [World.cell?_alloc_new]
  match i, hi with
  | 0, _ => rfl
  | 1, _ => rfl
  | 2, _ => rfl
  | 3, _ => rfl
  | 4, _ => rfl
  | 5, _ => rfl
/-- between two choices of l04New: the source, the result's block R, the star's block X -/
def NS (T TS : TypeId) (w W : World) (g R X : Nat) (a : Option Addr) (len cap M : Nat) (x : St) : Prop :=
  Src W T g a len cap M ∧ LstB W g a len ∧ w.grownBy W (some g) ∧ W.rowIs R TS 5 (fld st0) ∧ W.rowIs X TS 5 (fld x) ∧ w.heap.size ≤ R ∧ w.heap.size ≤ X ∧ R ≠ X ∧ g < w.heap.size
theorem NS.call {T TS : TypeId} {w W W' : World} {g R X : Nat} {a : Option Addr} {len cap M M' : Nat} {x : St} (h : NS T TS w W g R X a len cap M x) (hg : W.grownBy W' (some g)) (hs : Src W' T g a len cap M') : NS T TS w W' g R X a len cap M' x := by
  obtain ⟨_, h2, h3, h4, h5, h6, h7, h8, h9⟩ := h
  exact ⟨hs, h2.grown hg, grown_trans h3 hg, h4.of_block (hg.block R h4.lt (by simp; omega)), h5.of_block (hg.block X h5.lt (by simp; omega)), h6, h7, h8, h9⟩
theorem NS.fits {T TS : TypeId} {w W W' : World} {g R X : Nat} {a : Option Addr} {len cap M : Nat} {x x' : St} (h : NS T TS w W g R X a len cap M x) (hg : W.grownBy W' (some X)) (hx : W'.rowIs X TS 5 (fld x')) : NS T TS w W' g R X a len cap M x' := by
  obtain ⟨h1, h2, h3, h4, h5, h6, h7, h8, h9⟩ := h
  refine ⟨src_kept h1 (hg.block g (src_lt h1) (by simp; omega)), fun i hi => ?_, ?_, h4.of_block (hg.block R h4.lt (by simp; omega)), hx, h6, h7, h8, h9⟩
  · obtain ⟨b, off, v, e, hb, hc, h0, h1⟩ := h2 i hi
    exact ⟨b, off, v, e, hb, hg.cell hc (by simp; omega), h0, h1⟩
  · exact ⟨hg.os.trans h3.os, hg.tape.trans h3.tape, hg.output.trans h3.output, Nat.le_trans h3.size hg.size, fun i hi hr => (hg.block i (Nat.lt_of_lt_of_le hi h3.size) (by simp; omega)).trans (h3.block i hi hr)⟩
theorem NS.set {T TS : TypeId} {w W : World} {g R X : Nat} {a : Option Addr} {len cap M : Nat} {x x' : St} (h : NS T TS w W g R X a len cap M x) (j : Nat) (v : Value) (hf : ∀ f, f < 5 → (if f = j then v else fld x f) = fld x' f) : NS T TS w (W.setCell ⟨X, j, none⟩ v) g R X a len cap M x' :=
  h.fits (grown_set (grown_refl W (some X)) j v) ((h.2.2.2.2.1.set j v).congr hf)
theorem NS.alloc {T TS : TypeId} {w W : World} {g R X : Nat} {a : Option Addr} {len cap M : Nat} {x : St} (h : NS T TS w W g R X a len cap M x) (o : Obj) : NS T TS w (W.alloc o) g R X a len cap M x :=
  h.fits (World.grownBy_alloc _ _ _) (h.2.2.2.2.1.alloc o)
theorem NS.drew {T TS : TypeId} {w W : World} {g R X : Nat} {a : Option Addr} {len cap M : Nat} {x : St} (h : NS T TS w W g R X a len cap M x) : NS T TS w W.drew g R X a len cap M x :=
  h.fits (grown_drewN (grown_refl W (some X)) 1) h.2.2.2.2.1
theorem NS.parts {T TS : TypeId} {w W : World} {g R X : Nat} {a : Option Addr} {len cap M : Nat} {nm : ByteArray} {x1 x2 x3 x4 : Int} (h : NS T TS w W g R X a len cap M (nm, x1, x2, x3, x4)) :
    W.cell? ⟨X, 0, none⟩ = some (.string nm) ∧ W.cell? ⟨X, 1, none⟩ = some (.int .i64 x1) ∧ W.cell? ⟨X, 2, none⟩ = some (.int .i64 x2) ∧ W.cell? ⟨X, 3, none⟩ = some (.int .i64 x3) ∧ W.cell? ⟨X, 4, none⟩ = some (.int .i64 x4) :=
  ⟨h.2.2.2.2.1.cell (i := 0) (by decide), h.2.2.2.2.1.cell (i := 1) (by decide), h.2.2.2.2.1.cell (i := 2) (by decide), h.2.2.2.2.1.cell (i := 3) (by decide), h.2.2.2.2.1.cell (i := 4) (by decide)⟩
theorem NS.res {T TS : TypeId} {w W : World} {g R X : Nat} {a : Option Addr} {len cap M : Nat} {x : St} (h : NS T TS w W g R X a len cap M x) :
    W.cell? ⟨R, 0, none⟩ = some (.string ⟨#[]⟩) ∧ W.cell? ⟨R, 1, none⟩ = some (.int .i64 0) ∧ W.cell? ⟨R, 2, none⟩ = some (.int .i64 0) ∧ W.cell? ⟨R, 3, none⟩ = some (.int .i64 0) ∧ W.cell? ⟨R, 4, none⟩ = some (.int .i64 0) :=
  ⟨h.2.2.2.1.cell (i := 0) (by decide), h.2.2.2.1.cell (i := 1) (by decide), h.2.2.2.1.cell (i := 2) (by decide), h.2.2.2.1.cell (i := 3) (by decide), h.2.2.2.1.cell (i := 4) (by decide)⟩
theorem cells5 {W : World} {T R : Nat} {nm : ByteArray} {x1 x2 x3 x4 : Int} (h : W.rowIs R T 5 (fld (nm, x1, x2, x3, x4))) :
    W.cell? ⟨R, 0, none⟩ = some (.string nm) ∧ W.cell? ⟨R, 1, none⟩ = some (.int .i64 x1) ∧ W.cell? ⟨R, 2, none⟩ = some (.int .i64 x2) ∧ W.cell? ⟨R, 3, none⟩ = some (.int .i64 x3) ∧ W.cell? ⟨R, 4, none⟩ = some (.int .i64 x4) :=
  ⟨h.cell (i := 0) (by decide), h.cell (i := 1) (by decide), h.cell (i := 2) (by decide), h.cell (i := 3) (by decide), h.cell (i := 4) (by decide)⟩
theorem starB_mk {nm : ByteArray} {a d u v : Int} (h1 : nameB nm = true) (h2 : 0 ≤ a) (h3 : a ≤ 86399) (h4 : -324000 ≤ d) (h5 : d ≤ 324000) (h6 : magB u = true) (h7 : u ≤ v) (h8 : v ≤ 20000) : starB (nm, a, d, u, v) = true := by
  have := magB_iff.1 h6
  have hv : magB v = true := magB_iff.2 ⟨by omega, h8⟩
  simp [starB, h1, ascB, decB, inB_iff.2 ⟨h2, h3⟩, inB_iff.2 ⟨h4, h5⟩, h6, hv, h7]
/-- five stores into a block that was not there leave the source as it is -/
theorem far5 {T TS : TypeId} {w W : World} {g R X : Nat} {a : Option Addr} {len cap M : Nat} {x : St} (h : NS T TS w W g R X a len cap M x) {v0 v1 v2 v3 v4 : Value} :
    Src (((((W.setCell ⟨R, 0, none⟩ v0).setCell ⟨R, 1, none⟩ v1).setCell ⟨R, 2, none⟩ v2).setCell ⟨R, 3, none⟩ v3).setCell ⟨R, 4, none⟩ v4) T g a len cap M ∧ w.grownBy (((((W.setCell ⟨R, 0, none⟩ v0).setCell ⟨R, 1, none⟩ v1).setCell ⟨R, 2, none⟩ v2).setCell ⟨R, 3, none⟩ v3).setCell ⟨R, 4, none⟩ v4) (some g) := by
  have hg : W.grownBy (((((W.setCell ⟨R, 0, none⟩ v0).setCell ⟨R, 1, none⟩ v1).setCell ⟨R, 2, none⟩ v2).setCell ⟨R, 3, none⟩ v3).setCell ⟨R, 4, none⟩ v4) (some R) := grown_set (grown_set (grown_set (grown_set (grown_set (grown_refl W (some R)) 0 v0) 1 v1) 2 v2) 3 v3) 4 v4
  obtain ⟨h1, _, h3, _, _, h6, _, _, h9⟩ := h
  refine ⟨src_kept h1 (hg.block g (src_lt h1) (by simp; omega)), hg.os.trans h3.os, hg.tape.trans h3.tape, hg.output.trans h3.output, Nat.le_trans h3.size hg.size, fun i hi hr => (hg.block i (Nat.lt_of_lt_of_le hi h3.size) (by simp; omega)).trans (h3.block i hi hr)⟩
set_option maxRecDepth 100000 in
set_option maxHeartbeats 4000000 in
theorem l04New_any (nm : ByteArray) (hnm : nameB nm = true) (g : Nat) (a : Option Addr) (len cap M : Nat) (w : World) (h : Src w 92 g a len cap M) (hb : LstB w g a len) (hM : M ≤ 1000000) (hlen : len ≤ 1048576) :
    Calls Tryz.prog 27 #[.pointer (some ⟨g, 0, none⟩), .string nm] w fun e w' => ∃ x1 x2 x3 x4 M', e = .returned (.agg #[.string nm, .int .i64 x1, .int .i64 x2, .int .i64 x3, .int .i64 x4]) ∧ starB (nm, x1, x2, x3, x4) = true ∧ M' ≤ M + 20 ∧ Src w' 92 g a len cap M' ∧ w.grownBy w' (some g) := by
  have hgl := src_lt h
  obtain ⟨W0, hW0⟩ : ∃ W0 : World, W0 = w.alloc (.cells #[.string ⟨#[]⟩, .int .i64 0, .int .i64 0, .int .i64 0, .int .i64 0] 27) := ⟨_, rfl⟩
  have k0 : Src W0 92 g a len cap M := by rw [hW0]; exact src_kept h (Below.heap_alloc _ _ _ hgl)
  have k1 : LstB W0 g a len := by rw [hW0]; exact hb.below ((Below.refl _ _).alloc (Nat.le_of_lt hgl) _)
  have k2 : w.grownBy W0 (some g) := by rw [hW0]; exact World.grownBy_alloc _ _ _
  have k3 : W0.rowIs w.heap.size 27 5 (fld st0) := by
    rw [hW0]
    refine World.rowIs_alloc _ _ _ _ (fun i hi => ?_)
    match i, hi with
    | 0, _ => rfl
    | 1, _ => rfl
    | 2, _ => rfl
    | 3, _ => rfl
    | 4, _ => rfl
  have k4 : W0.heap.size = w.heap.size + 1 := by rw [hW0]; simp
  go_enter Tryz.func27, Tryz.ntmps27
  go_wp2_with fail
  rw [← hW0]
  clear hW0
  refine (pick_any 86400 86399 g a len cap M W0 k0 k1 (by omega) hlen (by omega) (by omega) (by omega)).mono ?_
  rintro e W1 ⟨v1, rfl, v10, v11, hs1, hg1⟩
  have z1 := hg1.size
  have hN2 : NS 92 27 w (W1.alloc (.cells #[.string nm, .int .i64 v1, .int .i64 0, .int .i64 0, .int .i64 0] 27)) g w.heap.size W1.heap.size a len cap (M + 2) (nm, v1, 0, 0, 0) :=
    ⟨src_kept hs1 (Below.heap_alloc _ _ _ (src_lt hs1)), (k1.grown hg1).below ((Below.refl _ _).alloc (by omega) _), grown_trans (grown_trans k2 hg1) (World.grownBy_alloc _ _ _), (k3.of_block (hg1.block _ k3.lt (by simp; omega))).alloc _, (World.rowIs_alloc _ _ _ _ (fun i hi => by
      match i, hi with
      | 0, _ => rfl
      | 1, _ => rfl
      | 2, _ => rfl
      | 3, _ => rfl
      | 4, _ => rfl)), Nat.le_refl _, by omega, by omega, hgl⟩
  clear k0 k1 k2 k3 hs1 hg1
  go_wp2_with fail
  generalize W1.alloc (.cells #[.string nm, .int .i64 v1, .int .i64 0, .int .i64 0, .int .i64 0] 27) = W2 at hN2 ⊢
  generalize W1.heap.size = X at hN2 z1 ⊢
  refine (one_any 3 g a len cap (M + 2) W2 hN2.1 hN2.2.1 (by omega) hlen (by omega)).mono ?_
  rintro e W3 ⟨b1, rfl, hs3, hg3⟩
  have hN3 := hN2.call hg3 hs3
  clear hs3 hg3 hN2
  rcases b1 with _ | _
  · go_wp2_with fail
    obtain ⟨M4, hM4, hN4⟩ : ∃ M4, M4 ≤ M + 6 ∧ NS 92 27 w W3 g w.heap.size X a len cap M4 (nm, v1, 0, 0, 0) := ⟨_, by omega, hN3⟩
    clear hN3
    generalize W3 = W4 at hN4 ⊢
    generalize v1 = y1 at hN4 v10 v11 ⊢
    (refine (pick_any 648001 648000 g a len cap M4 W4 hN4.1 hN4.2.1 (by omega) hlen (by omega) (by omega) (by omega)).mono ?_; rintro e W5 ⟨v2, rfl, v20, v21, hs5, hg5⟩; have hN5 := hN4.call hg5 hs5; clear hs5 hg5 hN4; obtain ⟨-, -, d2, -, -⟩ := hN5.parts; have f2 := hN5.2.2.2.2.1.frozen 2; have hN6 := hN5.set (x' := (nm, y1, v2 - 324000, 0, 0)) 2 (.int .i64 (v2 - 324000)) (fun f hf => by match f, hf with | 0, _ => rfl | 1, _ => rfl | 2, _ => rfl | 3, _ => rfl | 4, _ => rfl); clear hN5; go_wp2_with fail; clear d2 f2; generalize (W5.setCell ⟨X, 2, none⟩ (.int .i64 (v2 - 324000))) = W6 at hN6 ⊢; refine (one_any 3 g a len cap (M4 + 2) W6 hN6.1 hN6.2.1 (by omega) hlen (by omega)).mono ?_; rintro e W7 ⟨b2, rfl, hs7, hg7⟩; have hN7 := hN6.call hg7 hs7; clear hs7 hg7 hN6; rcases b2 with _ | _; (focus (go_wp2_with fail; have hy2 : -324000 ≤ v2 - 324000 ∧ v2 - 324000 ≤ 324000 := (by omega); obtain ⟨M8, hM8, hN8⟩ : ∃ M8, M8 ≤ M + 12 ∧ NS 92 27 w W7 g w.heap.size X a len cap M8 (nm, y1, v2 - 324000, 0, 0) := ⟨_, by omega, hN7⟩; clear hN7; generalize W7 = W8 at hN8 ⊢; generalize v2 - 324000 = y2 at hN8 hy2 ⊢; (refine (l02Draw_any g a len cap M8 W8 hN8.1 hN8.2.1 (by omega) hlen).mono ?_; rintro e W9 ⟨u, rfl, hu, hs9, hg9⟩; have hN9 := hN8.call hg9 hs9; clear hs9 hg9 hN8; have hub := magB_iff.1 hu; have HU := Lib.hid hu; clear hu; obtain ⟨-, -, -, d3, -⟩ := hN9.parts; have f3 := hN9.2.2.2.2.1.frozen 3; have hNa := hN9.set (x' := (nm, y1, y2, u, 0)) 3 (.int .i64 u) (fun f hf => by match f, hf with | 0, _ => rfl | 1, _ => rfl | 2, _ => rfl | 3, _ => rfl | 4, _ => rfl); clear hN9; go_wp2_with fail; clear d3 f3; generalize (W9.setCell ⟨X, 3, none⟩ (.int .i64 u)) = Wa at hNa ⊢; obtain ⟨-, -, -, da3, -⟩ := hNa.parts; have hNd := hNa.drew; go_region_with (first | (go_at_call 46; refine (pick_any 40 39 g a len cap (M8 + 4) _ hNd.1 hNd.2.1 (by omega) hlen (by omega) (by omega) (by omega)).mono ?_; rintro e Wb ⟨v4, rfl, v40, v41, hsb, hgb⟩; have hNb := hNd.call hgb hsb; obtain ⟨-, -, -, db3, db4⟩ := hNb.parts; have fb4 := hNb.2.2.2.2.1.frozen 4) | (go_at_call 59; refine (sMin_any _ _ _).mono ?_; rintro e w' ⟨rfl, rfl⟩)); all_goals (focus (have hwr : IntKind.i64.wrap (u + IntKind.i64.wrap (100 * v4)) = u + 100 * v4 := (by simp only [IntKind.wrap_i64]; omega); rw [hwr]; have hy4 : mn 20000 (u + 100 * v4) ≤ 20000 ∧ u ≤ mn 20000 (u + 100 * v4) := (by unfold mn; split <;> omega); have hNc := hNb.set (x' := (nm, y1, y2, u, mn 20000 (u + 100 * v4))) 4 (.int .i64 (mn 20000 (u + 100 * v4))) (fun f hf => by match f, hf with | 0, _ => rfl | 1, _ => rfl | 2, _ => rfl | 3, _ => rfl | 4, _ => rfl); clear hNb db3 db4 fb4 hwr da3; generalize (Wb.setCell ⟨X, 4, none⟩ (.int .i64 (mn 20000 (u + 100 * v4)))) = Wc at hNc ⊢; generalize mn 20000 (u + 100 * v4) = y4 at hNc hy4 ⊢; obtain ⟨e0, e1, e2, e3, e4⟩ := hNc.parts; obtain ⟨r0, r1, r2, r3, r4⟩ := hNc.res; have f0 := hNc.2.2.2.1.frozen 0; have f1 := hNc.2.2.2.1.frozen 1; have f2 := hNc.2.2.2.1.frozen 2; have f3 := hNc.2.2.2.1.frozen 3; have f4 := hNc.2.2.2.1.frozen 4; have HNC := Lib.hid hNc; clear hNc; go_wp2; have hR := (((((HNC.out.2.2.2.1.set 0 (.string nm)).set 1 (.int .i64 y1)).set 2 (.int .i64 y2)).set 3 (.int .i64 u)).set 4 (.int .i64 y4)).congr (g := fld (nm, y1, y2, u, y4)) (fun i hi => by match i, hi with | 0, _ => rfl | 1, _ => rfl | 2, _ => rfl | 3, _ => rfl | 4, _ => rfl); obtain ⟨q0, q1, q2, q3, q4⟩ := cells5 hR; exact bodyPost_ret (v := .agg #[.string nm, .int .i64 y1, .int .i64 y2, .int .i64 u, .int .i64 y4]) (by simp [results, Tryz.results27, go_sem, q0, q1, q2, q3, q4]) rfl ⟨y1, y2, u, y4, _, rfl, starB_mk hnm v10 v11 hy2.1 hy2.2 HU.out hy4.2 hy4.1, Nat.le_trans (Nat.le_refl (M8 + 4 + 2)) (by omega), far5 HNC.out⟩))))); (focus (go_wp2_with fail; refine (pick_any 9 8 g a len cap (M4 + 2 + 2) W7 hN7.1 hN7.2.1 (by omega) hlen (by omega) (by omega) (by omega)).mono ?_; rintro e W8 ⟨v3, rfl, v30, v31, hs8, hg8⟩; have hN8' := hN7.call hg8 hs8; clear hs8 hg8 hN7; obtain ⟨-, -, d2, -, -⟩ := hN8'.parts; have f2 := hN8'.2.2.2.2.1.frozen 2; have hy2 : -324000 ≤ 3600 * (v3 - 4) ∧ 3600 * (v3 - 4) ≤ 324000 := (by omega); obtain ⟨M8, hM8, hN8⟩ : ∃ M8, M8 ≤ M + 12 ∧ NS 92 27 w (W8.setCell ⟨X, 2, none⟩ (.int .i64 (3600 * (v3 - 4)))) g w.heap.size X a len cap M8 (nm, y1, 3600 * (v3 - 4), 0, 0) := ⟨_, by omega, hN8'.set 2 _ (fun f hf => by match f, hf with | 0, _ => rfl | 1, _ => rfl | 2, _ => rfl | 3, _ => rfl | 4, _ => rfl)⟩; clear hN8'; go_wp2_with fail; clear d2 f2; generalize (W8.setCell ⟨X, 2, none⟩ (.int .i64 (3600 * (v3 - 4)))) = W9 at hN8 ⊢; generalize 3600 * (v3 - 4) = y2 at hN8 hy2 ⊢; generalize W9 = W8 at hN8 ⊢; (refine (l02Draw_any g a len cap M8 W8 hN8.1 hN8.2.1 (by omega) hlen).mono ?_; rintro e W9 ⟨u, rfl, hu, hs9, hg9⟩; have hN9 := hN8.call hg9 hs9; clear hs9 hg9 hN8; have hub := magB_iff.1 hu; have HU := Lib.hid hu; clear hu; obtain ⟨-, -, -, d3, -⟩ := hN9.parts; have f3 := hN9.2.2.2.2.1.frozen 3; have hNa := hN9.set (x' := (nm, y1, y2, u, 0)) 3 (.int .i64 u) (fun f hf => by match f, hf with | 0, _ => rfl | 1, _ => rfl | 2, _ => rfl | 3, _ => rfl | 4, _ => rfl); clear hN9; go_wp2_with fail; clear d3 f3; generalize (W9.setCell ⟨X, 3, none⟩ (.int .i64 u)) = Wa at hNa ⊢; obtain ⟨-, -, -, da3, -⟩ := hNa.parts; have hNd := hNa.drew; go_region_with (first | (go_at_call 46; refine (pick_any 40 39 g a len cap (M8 + 4) _ hNd.1 hNd.2.1 (by omega) hlen (by omega) (by omega) (by omega)).mono ?_; rintro e Wb ⟨v4, rfl, v40, v41, hsb, hgb⟩; have hNb := hNd.call hgb hsb; obtain ⟨-, -, -, db3, db4⟩ := hNb.parts; have fb4 := hNb.2.2.2.2.1.frozen 4) | (go_at_call 59; refine (sMin_any _ _ _).mono ?_; rintro e w' ⟨rfl, rfl⟩)); all_goals (focus (have hwr : IntKind.i64.wrap (u + IntKind.i64.wrap (100 * v4)) = u + 100 * v4 := (by simp only [IntKind.wrap_i64]; omega); rw [hwr]; have hy4 : mn 20000 (u + 100 * v4) ≤ 20000 ∧ u ≤ mn 20000 (u + 100 * v4) := (by unfold mn; split <;> omega); have hNc := hNb.set (x' := (nm, y1, y2, u, mn 20000 (u + 100 * v4))) 4 (.int .i64 (mn 20000 (u + 100 * v4))) (fun f hf => by match f, hf with | 0, _ => rfl | 1, _ => rfl | 2, _ => rfl | 3, _ => rfl | 4, _ => rfl); clear hNb db3 db4 fb4 hwr da3; generalize (Wb.setCell ⟨X, 4, none⟩ (.int .i64 (mn 20000 (u + 100 * v4)))) = Wc at hNc ⊢; generalize mn 20000 (u + 100 * v4) = y4 at hNc hy4 ⊢; obtain ⟨e0, e1, e2, e3, e4⟩ := hNc.parts; obtain ⟨r0, r1, r2, r3, r4⟩ := hNc.res; have f0 := hNc.2.2.2.1.frozen 0; have f1 := hNc.2.2.2.1.frozen 1; have f2 := hNc.2.2.2.1.frozen 2; have f3 := hNc.2.2.2.1.frozen 3; have f4 := hNc.2.2.2.1.frozen 4; have HNC := Lib.hid hNc; clear hNc; go_wp2; have hR := (((((HNC.out.2.2.2.1.set 0 (.string nm)).set 1 (.int .i64 y1)).set 2 (.int .i64 y2)).set 3 (.int .i64 u)).set 4 (.int .i64 y4)).congr (g := fld (nm, y1, y2, u, y4)) (fun i hi => by match i, hi with | 0, _ => rfl | 1, _ => rfl | 2, _ => rfl | 3, _ => rfl | 4, _ => rfl); obtain ⟨q0, q1, q2, q3, q4⟩ := cells5 hR; exact bodyPost_ret (v := .agg #[.string nm, .int .i64 y1, .int .i64 y2, .int .i64 u, .int .i64 y4]) (by simp [results, Tryz.results27, go_sem, q0, q1, q2, q3, q4]) rfl ⟨y1, y2, u, y4, _, rfl, starB_mk hnm v10 v11 hy2.1 hy2.2 HU.out hy4.2 hy4.1, Nat.le_trans (Nat.le_refl (M8 + 4 + 2)) (by omega), far5 HNC.out⟩))))))
  · have hL := (hN3.alloc (.cells #[.int .i64 0, .int .i64 10, .int .i64 100, .int .i64 86300, .int .i64 86399] 2))
    go_wp2_with fail
    have hgl3 : W3.heap.size ≠ g := by have := src_lt hN3.1; omega
    refine (among_any (fun v => 0 ≤ v ∧ v ≤ 86399) W3.heap.size 0 5 5 g a len cap (M + 2 + 2) _ hL.1 hL.2.1 (by omega) hlen (by omega) (by omega) hgl3 (fun i hi => by
      rw [World.cell?_alloc_new]
      match i, hi with
      | 0, _ => exact ⟨_, rfl, by omega, by omega⟩
      | 1, _ => exact ⟨_, rfl, by omega, by omega⟩
      | 2, _ => exact ⟨_, rfl, by omega, by omega⟩
      | 3, _ => exact ⟨_, rfl, by omega, by omega⟩
      | 4, _ => exact ⟨_, rfl, by omega, by omega⟩)).mono ?_
    rintro e W4 ⟨y1, rfl, hy1, hs4, hg4⟩
    have hN5 := hL.call hg4 hs4
    clear hs4 hg4 hL hN3 v10 v11
    obtain ⟨v10, v11⟩ := hy1
    obtain ⟨-, d1, -, -, -⟩ := hN5.parts
    have f1 := hN5.2.2.2.2.1.frozen 1
    obtain ⟨M4, hM4, hN4⟩ : ∃ M4, M4 ≤ M + 6 ∧ NS 92 27 w (W4.setCell ⟨X, 1, none⟩ (.int .i64 y1)) g w.heap.size X a len cap M4 (nm, y1, 0, 0, 0) := ⟨_, by omega, hN5.set 1 _ (fun f hf => by
      match f, hf with
      | 0, _ => rfl
      | 1, _ => rfl
      | 2, _ => rfl
      | 3, _ => rfl
      | 4, _ => rfl)⟩
    clear hN5
    go_wp2_with fail
    clear d1 f1
    generalize (W4.setCell ⟨X, 1, none⟩ (.int .i64 y1)) = W5 at hN4 ⊢
    generalize W5 = W4 at hN4 ⊢
    (refine (pick_any 648001 648000 g a len cap M4 W4 hN4.1 hN4.2.1 (by omega) hlen (by omega) (by omega) (by omega)).mono ?_; rintro e W5 ⟨v2, rfl, v20, v21, hs5, hg5⟩; have hN5 := hN4.call hg5 hs5; clear hs5 hg5 hN4; obtain ⟨-, -, d2, -, -⟩ := hN5.parts; have f2 := hN5.2.2.2.2.1.frozen 2; have hN6 := hN5.set (x' := (nm, y1, v2 - 324000, 0, 0)) 2 (.int .i64 (v2 - 324000)) (fun f hf => by match f, hf with | 0, _ => rfl | 1, _ => rfl | 2, _ => rfl | 3, _ => rfl | 4, _ => rfl); clear hN5; go_wp2_with fail; clear d2 f2; generalize (W5.setCell ⟨X, 2, none⟩ (.int .i64 (v2 - 324000))) = W6 at hN6 ⊢; refine (one_any 3 g a len cap (M4 + 2) W6 hN6.1 hN6.2.1 (by omega) hlen (by omega)).mono ?_; rintro e W7 ⟨b2, rfl, hs7, hg7⟩; have hN7 := hN6.call hg7 hs7; clear hs7 hg7 hN6; rcases b2 with _ | _; (focus (go_wp2_with fail; have hy2 : -324000 ≤ v2 - 324000 ∧ v2 - 324000 ≤ 324000 := (by omega); obtain ⟨M8, hM8, hN8⟩ : ∃ M8, M8 ≤ M + 12 ∧ NS 92 27 w W7 g w.heap.size X a len cap M8 (nm, y1, v2 - 324000, 0, 0) := ⟨_, by omega, hN7⟩; clear hN7; generalize W7 = W8 at hN8 ⊢; generalize v2 - 324000 = y2 at hN8 hy2 ⊢; (refine (l02Draw_any g a len cap M8 W8 hN8.1 hN8.2.1 (by omega) hlen).mono ?_; rintro e W9 ⟨u, rfl, hu, hs9, hg9⟩; have hN9 := hN8.call hg9 hs9; clear hs9 hg9 hN8; have hub := magB_iff.1 hu; have HU := Lib.hid hu; clear hu; obtain ⟨-, -, -, d3, -⟩ := hN9.parts; have f3 := hN9.2.2.2.2.1.frozen 3; have hNa := hN9.set (x' := (nm, y1, y2, u, 0)) 3 (.int .i64 u) (fun f hf => by match f, hf with | 0, _ => rfl | 1, _ => rfl | 2, _ => rfl | 3, _ => rfl | 4, _ => rfl); clear hN9; go_wp2_with fail; clear d3 f3; generalize (W9.setCell ⟨X, 3, none⟩ (.int .i64 u)) = Wa at hNa ⊢; obtain ⟨-, -, -, da3, -⟩ := hNa.parts; have hNd := hNa.drew; go_region_with (first | (go_at_call 46; refine (pick_any 40 39 g a len cap (M8 + 4) _ hNd.1 hNd.2.1 (by omega) hlen (by omega) (by omega) (by omega)).mono ?_; rintro e Wb ⟨v4, rfl, v40, v41, hsb, hgb⟩; have hNb := hNd.call hgb hsb; obtain ⟨-, -, -, db3, db4⟩ := hNb.parts; have fb4 := hNb.2.2.2.2.1.frozen 4) | (go_at_call 59; refine (sMin_any _ _ _).mono ?_; rintro e w' ⟨rfl, rfl⟩)); all_goals (focus (have hwr : IntKind.i64.wrap (u + IntKind.i64.wrap (100 * v4)) = u + 100 * v4 := (by simp only [IntKind.wrap_i64]; omega); rw [hwr]; have hy4 : mn 20000 (u + 100 * v4) ≤ 20000 ∧ u ≤ mn 20000 (u + 100 * v4) := (by unfold mn; split <;> omega); have hNc := hNb.set (x' := (nm, y1, y2, u, mn 20000 (u + 100 * v4))) 4 (.int .i64 (mn 20000 (u + 100 * v4))) (fun f hf => by match f, hf with | 0, _ => rfl | 1, _ => rfl | 2, _ => rfl | 3, _ => rfl | 4, _ => rfl); clear hNb db3 db4 fb4 hwr da3; generalize (Wb.setCell ⟨X, 4, none⟩ (.int .i64 (mn 20000 (u + 100 * v4)))) = Wc at hNc ⊢; generalize mn 20000 (u + 100 * v4) = y4 at hNc hy4 ⊢; obtain ⟨e0, e1, e2, e3, e4⟩ := hNc.parts; obtain ⟨r0, r1, r2, r3, r4⟩ := hNc.res; have f0 := hNc.2.2.2.1.frozen 0; have f1 := hNc.2.2.2.1.frozen 1; have f2 := hNc.2.2.2.1.frozen 2; have f3 := hNc.2.2.2.1.frozen 3; have f4 := hNc.2.2.2.1.frozen 4; have HNC := Lib.hid hNc; clear hNc; go_wp2; have hR := (((((HNC.out.2.2.2.1.set 0 (.string nm)).set 1 (.int .i64 y1)).set 2 (.int .i64 y2)).set 3 (.int .i64 u)).set 4 (.int .i64 y4)).congr (g := fld (nm, y1, y2, u, y4)) (fun i hi => by match i, hi with | 0, _ => rfl | 1, _ => rfl | 2, _ => rfl | 3, _ => rfl | 4, _ => rfl); obtain ⟨q0, q1, q2, q3, q4⟩ := cells5 hR; exact bodyPost_ret (v := .agg #[.string nm, .int .i64 y1, .int .i64 y2, .int .i64 u, .int .i64 y4]) (by simp [results, Tryz.results27, go_sem, q0, q1, q2, q3, q4]) rfl ⟨y1, y2, u, y4, _, rfl, starB_mk hnm v10 v11 hy2.1 hy2.2 HU.out hy4.2 hy4.1, Nat.le_trans (Nat.le_refl (M8 + 4 + 2)) (by omega), far5 HNC.out⟩))))); (focus (go_wp2_with fail; refine (pick_any 9 8 g a len cap (M4 + 2 + 2) W7 hN7.1 hN7.2.1 (by omega) hlen (by omega) (by omega) (by omega)).mono ?_; rintro e W8 ⟨v3, rfl, v30, v31, hs8, hg8⟩; have hN8' := hN7.call hg8 hs8; clear hs8 hg8 hN7; obtain ⟨-, -, d2, -, -⟩ := hN8'.parts; have f2 := hN8'.2.2.2.2.1.frozen 2; have hy2 : -324000 ≤ 3600 * (v3 - 4) ∧ 3600 * (v3 - 4) ≤ 324000 := (by omega); obtain ⟨M8, hM8, hN8⟩ : ∃ M8, M8 ≤ M + 12 ∧ NS 92 27 w (W8.setCell ⟨X, 2, none⟩ (.int .i64 (3600 * (v3 - 4)))) g w.heap.size X a len cap M8 (nm, y1, 3600 * (v3 - 4), 0, 0) := ⟨_, by omega, hN8'.set 2 _ (fun f hf => by match f, hf with | 0, _ => rfl | 1, _ => rfl | 2, _ => rfl | 3, _ => rfl | 4, _ => rfl)⟩; clear hN8'; go_wp2_with fail; clear d2 f2; generalize (W8.setCell ⟨X, 2, none⟩ (.int .i64 (3600 * (v3 - 4)))) = W9 at hN8 ⊢; generalize 3600 * (v3 - 4) = y2 at hN8 hy2 ⊢; generalize W9 = W8 at hN8 ⊢; (refine (l02Draw_any g a len cap M8 W8 hN8.1 hN8.2.1 (by omega) hlen).mono ?_; rintro e W9 ⟨u, rfl, hu, hs9, hg9⟩; have hN9 := hN8.call hg9 hs9; clear hs9 hg9 hN8; have hub := magB_iff.1 hu; have HU := Lib.hid hu; clear hu; obtain ⟨-, -, -, d3, -⟩ := hN9.parts; have f3 := hN9.2.2.2.2.1.frozen 3; have hNa := hN9.set (x' := (nm, y1, y2, u, 0)) 3 (.int .i64 u) (fun f hf => by match f, hf with | 0, _ => rfl | 1, _ => rfl | 2, _ => rfl | 3, _ => rfl | 4, _ => rfl); clear hN9; go_wp2_with fail; clear d3 f3; generalize (W9.setCell ⟨X, 3, none⟩ (.int .i64 u)) = Wa at hNa ⊢; obtain ⟨-, -, -, da3, -⟩ := hNa.parts; have hNd := hNa.drew; go_region_with (first | (go_at_call 46; refine (pick_any 40 39 g a len cap (M8 + 4) _ hNd.1 hNd.2.1 (by omega) hlen (by omega) (by omega) (by omega)).mono ?_; rintro e Wb ⟨v4, rfl, v40, v41, hsb, hgb⟩; have hNb := hNd.call hgb hsb; obtain ⟨-, -, -, db3, db4⟩ := hNb.parts; have fb4 := hNb.2.2.2.2.1.frozen 4) | (go_at_call 59; refine (sMin_any _ _ _).mono ?_; rintro e w' ⟨rfl, rfl⟩)); all_goals (focus (have hwr : IntKind.i64.wrap (u + IntKind.i64.wrap (100 * v4)) = u + 100 * v4 := (by simp only [IntKind.wrap_i64]; omega); rw [hwr]; have hy4 : mn 20000 (u + 100 * v4) ≤ 20000 ∧ u ≤ mn 20000 (u + 100 * v4) := (by unfold mn; split <;> omega); have hNc := hNb.set (x' := (nm, y1, y2, u, mn 20000 (u + 100 * v4))) 4 (.int .i64 (mn 20000 (u + 100 * v4))) (fun f hf => by match f, hf with | 0, _ => rfl | 1, _ => rfl | 2, _ => rfl | 3, _ => rfl | 4, _ => rfl); clear hNb db3 db4 fb4 hwr da3; generalize (Wb.setCell ⟨X, 4, none⟩ (.int .i64 (mn 20000 (u + 100 * v4)))) = Wc at hNc ⊢; generalize mn 20000 (u + 100 * v4) = y4 at hNc hy4 ⊢; obtain ⟨e0, e1, e2, e3, e4⟩ := hNc.parts; obtain ⟨r0, r1, r2, r3, r4⟩ := hNc.res; have f0 := hNc.2.2.2.1.frozen 0; have f1 := hNc.2.2.2.1.frozen 1; have f2 := hNc.2.2.2.1.frozen 2; have f3 := hNc.2.2.2.1.frozen 3; have f4 := hNc.2.2.2.1.frozen 4; have HNC := Lib.hid hNc; clear hNc; go_wp2; have hR := (((((HNC.out.2.2.2.1.set 0 (.string nm)).set 1 (.int .i64 y1)).set 2 (.int .i64 y2)).set 3 (.int .i64 u)).set 4 (.int .i64 y4)).congr (g := fld (nm, y1, y2, u, y4)) (fun i hi => by match i, hi with | 0, _ => rfl | 1, _ => rfl | 2, _ => rfl | 3, _ => rfl | 4, _ => rfl); obtain ⟨q0, q1, q2, q3, q4⟩ := cells5 hR; exact bodyPost_ret (v := .agg #[.string nm, .int .i64 y1, .int .i64 y2, .int .i64 u, .int .i64 y4]) (by simp [results, Tryz.results27, go_sem, q0, q1, q2, q3, q4]) rfl ⟨y1, y2, u, y4, _, rfl, starB_mk hnm v10 v11 hy2.1 hy2.2 HU.out hy4.2 hy4.1, Nat.le_trans (Nat.le_refl (M8 + 4 + 2)) (by omega), far5 HNC.out⟩))))))
end Go.Proofs.YtfnjndbnogeddaaGreatDoor
