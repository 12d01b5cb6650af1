/- The model's drawn estimates: l06New. -/
import Derived.Test.YtiogffjhhhpolaaK0
import Derived.Test.YtiogffjhhhpolaaE1
import Derived.Deep.OwnRows
import Derived.Maps.AppendAt
import Derived.Deep.Cut
namespace Go.Proofs.Ytiogffjhhhpolaa
open Go.ChangeShapes Go.WideShapes Go.ChangeAt Go.RowKit Go.Deep

theorem grown_farE {w a b : World} {g row : Option Nat} (h : w.grownBy a g) (k : a.grownBy b row) (hr : ∀ j, row = some j → w.heap.size ≤ j) : w.grownBy b g :=
  ⟨k.os.trans h.os, k.tape.trans h.tape, k.output.trans h.output, Nat.le_trans h.size k.size, fun i hi hg => (k.block i (Nat.lt_of_lt_of_le hi h.size) (fun e => by have := hr i e.symm; omega)).trans (h.block i hi hg)⟩
/-- a text that is a name -/
def nmP (s : ByteArray) : Prop := nameB s = true
/-- between two choices of l06New: the source, the result's block R, the estimate's block X -/
def NSE (T TS : TypeId) (w W : World) (g R X : Nat) (a : Option Addr) (len cap M : Nat) (x : Es) : Prop :=
  Src W T g a len cap M ∧ LstB W g a len ∧ w.grownBy W (some g) ∧ W.rowIs R TS 5 (fldEs es0) ∧ W.rowIs X TS 5 (fldEs x) ∧ w.heap.size ≤ R ∧ w.heap.size ≤ X ∧ R ≠ X ∧ g < w.heap.size
theorem NSE.call {T TS : TypeId} {w W W' : World} {g R X : Nat} {a : Option Addr} {len cap M M' : Nat} {x : Es} (h : NSE T TS w W g R X a len cap M x) (hg : W.grownBy W' (some g)) (hs : Src W' T g a len cap M') : NSE T TS w W' g R X a len cap M' x := by
  obtain ⟨_, h2, h3, h4, h5, h6, h7, h8, h9⟩ := h
  exact ⟨hs, h2.grown hg, grown_trans h3 hg, h4.of_block (hg.block R h4.lt (by simp; omega)), h5.of_block (hg.block X h5.lt (by simp; omega)), h6, h7, h8, h9⟩
theorem NSE.fits {T TS : TypeId} {w W W' : World} {g R X : Nat} {a : Option Addr} {len cap M : Nat} {x x' : Es} (h : NSE T TS w W g R X a len cap M x) (hg : W.grownBy W' (some X)) (hx : W'.rowIs X TS 5 (fldEs x')) : NSE T TS w W' g R X a len cap M x' := by
  obtain ⟨h1, h2, h3, h4, h5, h6, h7, h8, h9⟩ := h
  refine ⟨src_kept h1 (hg.block g (src_lt h1) (by simp; omega)), fun i hi => ?_, ?_, h4.of_block (hg.block R h4.lt (by simp; omega)), hx, h6, h7, h8, h9⟩
  · obtain ⟨b, off, v, e, hb, hc, h0, h1⟩ := h2 i hi
    exact ⟨b, off, v, e, hb, hg.cell hc (by simp; omega), h0, h1⟩
  · exact ⟨hg.os.trans h3.os, hg.tape.trans h3.tape, hg.output.trans h3.output, Nat.le_trans h3.size hg.size, fun i hi hr => (hg.block i (Nat.lt_of_lt_of_le hi h3.size) (by simp; omega)).trans (h3.block i hi hr)⟩
theorem NSE.set {T TS : TypeId} {w W : World} {g R X : Nat} {a : Option Addr} {len cap M : Nat} {x x' : Es} (h : NSE T TS w W g R X a len cap M x) (j : Nat) (v : Value) (hf : ∀ f, f < 5 → (if f = j then v else fldEs x f) = fldEs x' f) : NSE T TS w (W.setCell ⟨X, j, none⟩ v) g R X a len cap M x' :=
  h.fits (grown_set (grown_refl W (some X)) j v) ((h.2.2.2.2.1.set j v).congr hf)
theorem NSE.alloc {T TS : TypeId} {w W : World} {g R X : Nat} {a : Option Addr} {len cap M : Nat} {x : Es} (h : NSE T TS w W g R X a len cap M x) (o : Obj) : NSE T TS w (W.alloc o) g R X a len cap M x :=
  h.fits (World.grownBy_alloc _ _ _) (h.2.2.2.2.1.alloc o)
theorem NSE.drew {T TS : TypeId} {w W : World} {g R X : Nat} {a : Option Addr} {len cap M : Nat} {x : Es} (h : NSE T TS w W g R X a len cap M x) : NSE T TS w W.drew g R X a len cap M x :=
  h.fits (grown_drewN (grown_refl W (some X)) 1) h.2.2.2.2.1
theorem NSE.parts {T TS : TypeId} {w W : World} {g R X : Nat} {a : Option Addr} {len cap M : Nat} {x0 : Int} {x1 x2 : ByteArray} {x3 : Int} {x4 : Bool} (h : NSE T TS w W g R X a len cap M (x0, x1, x2, x3, x4)) :
    W.cell? ⟨X, 0, none⟩ = some (.int .i64 x0) ∧ W.cell? ⟨X, 1, none⟩ = some (.string x1) ∧ W.cell? ⟨X, 2, none⟩ = some (.string x2) ∧ W.cell? ⟨X, 3, none⟩ = some (.int .i64 x3) ∧ W.cell? ⟨X, 4, none⟩ = some (.bool x4) :=
  ⟨h.2.2.2.2.1.cell (i := 0) (by decide), h.2.2.2.2.1.cell (i := 1) (by decide), h.2.2.2.2.1.cell (i := 2) (by decide), h.2.2.2.2.1.cell (i := 3) (by decide), h.2.2.2.2.1.cell (i := 4) (by decide)⟩
theorem NSE.res {T TS : TypeId} {w W : World} {g R X : Nat} {a : Option Addr} {len cap M : Nat} {x : Es} (h : NSE T TS w W g R X a len cap M x) :
    W.cell? ⟨R, 0, none⟩ = some (.int .i64 0) ∧ W.cell? ⟨R, 1, none⟩ = some (.string ⟨#[]⟩) ∧ W.cell? ⟨R, 2, none⟩ = some (.string ⟨#[]⟩) ∧ W.cell? ⟨R, 3, none⟩ = some (.int .i64 0) ∧ W.cell? ⟨R, 4, none⟩ = some (.bool false) :=
  ⟨h.2.2.2.1.cell (i := 0) (by decide), h.2.2.2.1.cell (i := 1) (by decide), h.2.2.2.1.cell (i := 2) (by decide), h.2.2.2.1.cell (i := 3) (by decide), h.2.2.2.1.cell (i := 4) (by decide)⟩
theorem cells5E {W : World} {T R : Nat} {x0 : Int} {x1 x2 : ByteArray} {x3 : Int} {x4 : Bool} (h : W.rowIs R T 5 (fldEs (x0, x1, x2, x3, x4))) :
    W.cell? ⟨R, 0, none⟩ = some (.int .i64 x0) ∧ W.cell? ⟨R, 1, none⟩ = some (.string x1) ∧ W.cell? ⟨R, 2, none⟩ = some (.string x2) ∧ W.cell? ⟨R, 3, none⟩ = some (.int .i64 x3) ∧ W.cell? ⟨R, 4, none⟩ = some (.bool x4) :=
  ⟨h.cell (i := 0) (by decide), h.cell (i := 1) (by decide), h.cell (i := 2) (by decide), h.cell (i := 3) (by decide), h.cell (i := 4) (by decide)⟩
theorem esB_mk {x0 : Int} {x1 x2 : ByteArray} {x3 : Int} {x4 : Bool} (h0 : 0 ≤ x0) (h0' : x0 ≤ 40000) (h1 : nmP x1) (h2 : nmP x2) (h3 : 0 ≤ x3) (h4 : x3 ≤ 12000) : esB (x0, x1, x2, x3, x4) = true := by
  have hv : magB x3 = true := magB_iff.2 ⟨by omega, by omega⟩
  have ht : tmB x0 = true := inB_iff.2 ⟨by omega, by omega⟩
  simp only [esB, ht, Bool.true_and, show nameB x1 = true from h1, show nameB x2 = true from h2, hv]
/-- five stores into a block that was not there leave the source as it is -/
theorem far5E {T TS : TypeId} {w W : World} {g R X : Nat} {a : Option Addr} {len cap M : Nat} {x : Es} (h : NSE T TS w W g R X a len cap M x) {v0 v1 v2 v3 v4 : Value} :
    Src (((((W.setCell ⟨R, 0, none⟩ v0).setCell ⟨R, 1, none⟩ v1).setCell ⟨R, 2, none⟩ v2).setCell ⟨R, 3, none⟩ v3).setCell ⟨R, 4, none⟩ v4) T g a len cap M ∧ w.grownBy (((((W.setCell ⟨R, 0, none⟩ v0).setCell ⟨R, 1, none⟩ v1).setCell ⟨R, 2, none⟩ v2).setCell ⟨R, 3, none⟩ v3).setCell ⟨R, 4, none⟩ v4) (some g) := by
  have hg : W.grownBy (((((W.setCell ⟨R, 0, none⟩ v0).setCell ⟨R, 1, none⟩ v1).setCell ⟨R, 2, none⟩ v2).setCell ⟨R, 3, none⟩ v3).setCell ⟨R, 4, none⟩ v4) (some R) := grown_set (grown_set (grown_set (grown_set (grown_set (grown_refl W (some R)) 0 v0) 1 v1) 2 v2) 3 v3) 4 v4
  obtain ⟨h1, _, h3, _, _, h6, _, _, h9⟩ := h
  refine ⟨src_kept h1 (hg.block g (src_lt h1) (by simp; omega)), hg.os.trans h3.os, hg.tape.trans h3.tape, hg.output.trans h3.output, Nat.le_trans h3.size hg.size, fun i hi hr => (hg.block i (Nat.lt_of_lt_of_le hi h3.size) (by simp; omega)).trans (h3.block i hi hr)⟩
theorem three_names {w : World} {T : TypeId} {s0 s1 s2 : ByteArray} (h0 : nmP s0) (h1 : nmP s1) (h2 : nmP s2) : ∀ i, i < 3 → ∃ v, (w.alloc (.cells #[.string s0, .string s1, .string s2] T)).cell? ⟨w.heap.size, 0 + i, none⟩ = some (.string v) ∧ nmP v := by
  intro i hi
  rw [World.cell?_alloc_new]
  match i, hi with
  | 0, _ => exact ⟨_, rfl, h0⟩
  | 1, _ => exact ⟨_, rfl, h1⟩
  | 2, _ => exact ⟨_, rfl, h2⟩
theorem n_mira : nmP ⟨#[109, 105, 114, 97]⟩ := by unfold nmP; exact of_decide_eq_true (by decide)
theorem n_rrlyr : nmP ⟨#[114, 114, 45, 108, 121, 114]⟩ := by unfold nmP; exact of_decide_eq_true (by decide)
theorem n_sscyg : nmP ⟨#[115, 115, 45, 99, 121, 103]⟩ := by unfold nmP; exact of_decide_eq_true (by decide)
theorem n_ab : nmP ⟨#[97, 98]⟩ := by unfold nmP; exact of_decide_eq_true (by decide)
theorem n_cd : nmP ⟨#[99, 100]⟩ := by unfold nmP; exact of_decide_eq_true (by decide)
theorem n_e : nmP ⟨#[101]⟩ := by unfold nmP; exact of_decide_eq_true (by decide)
set_option maxRecDepth 100000 in
set_option maxHeartbeats 4000000 in
theorem l06New_any (g : Nat) (a : Option Addr) (len cap M : Nat) (w : World) (h : Src w 108 g a len cap M) (hb : LstB w g a len) (hM : M ≤ 1000000) (hlen : len ≤ 1048576) :
    Calls Try.prog 105 #[.pointer (some ⟨g, 0, none⟩)] w fun e w' => ∃ x0 x1 x2 x3 x4 M', e = .returned (.agg #[.int .i64 x0, .string x1, .string x2, .int .i64 x3, .bool x4]) ∧ esB (x0, x1, x2, x3, x4) = true ∧ M' ≤ M + 20 ∧ Src w' 108 g a len cap M' ∧ w.grownBy w' (some g) := by
  have hgl := src_lt h
  obtain ⟨W0, hW0⟩ : ∃ W0 : World, W0 = w.alloc (.cells #[.int .i64 0, .string ⟨#[]⟩, .string ⟨#[]⟩, .int .i64 0, .bool false] 50) := ⟨_, rfl⟩
  have k0 : Src W0 108 g a len cap M := by rw [hW0]; exact src_kept h (Below.heap_alloc _ _ _ hgl)
  have k1 : LstB W0 g a len := by rw [hW0]; exact hb.below ((Below.refl _ _).alloc (Nat.le_of_lt hgl) _)
  have k2 : w.grownBy W0 (some g) := by rw [hW0]; exact World.grownBy_alloc _ _ _
  have k3 : W0.rowIs w.heap.size 50 5 (fldEs es0) := by
    rw [hW0]
    refine World.rowIs_alloc _ _ _ _ (fun i hi => ?_)
    match i, hi with
    | 0, _ => rfl
    | 1, _ => rfl
    | 2, _ => rfl
    | 3, _ => rfl
    | 4, _ => rfl
  have k4 : W0.heap.size = w.heap.size + 1 := by rw [hW0]; simp
  go_enter Try.func105, Try.ntmps105
  go_wp2_with fail
  rw [← hW0]
  clear hW0
  refine (pick_any 30 29 g a len cap M W0 k0 k1 (by omega) hlen (by omega) (by omega) (by omega)).mono ?_
  rintro e W1 ⟨v1, rfl, v10, v11, hs1, hg1⟩
  have z1 := hg1.size
  have hN2 : NSE 108 50 w (W1.alloc (.cells #[.int .i64 (1000 * v1), .string ⟨#[]⟩, .string ⟨#[]⟩, .int .i64 0, .bool false] 50)) g w.heap.size W1.heap.size a len cap (M + 2) (1000 * v1, ⟨#[]⟩, ⟨#[]⟩, 0, false) :=
    ⟨src_kept hs1 (Below.heap_alloc _ _ _ (src_lt hs1)), (k1.grown hg1).below ((Below.refl _ _).alloc (by omega) _), grown_trans (grown_trans k2 hg1) (World.grownBy_alloc _ _ _), (k3.of_block (hg1.block _ k3.lt (by simp; omega))).alloc _, (World.rowIs_alloc _ _ _ _ (fun i hi => by
      match i, hi with
      | 0, _ => rfl
      | 1, _ => rfl
      | 2, _ => rfl
      | 3, _ => rfl
      | 4, _ => rfl)), Nat.le_refl _, by omega, by omega, hgl⟩
  clear k0 k1 k2 k3 hs1 hg1
  go_wp2_with fail
  generalize W1.alloc (.cells #[.int .i64 (1000 * v1), .string ⟨#[]⟩, .string ⟨#[]⟩, .int .i64 0, .bool false] 50) = W2 at hN2 ⊢
  generalize W1.heap.size = X at hN2 z1 ⊢
  have hy1 : 0 ≤ 1000 * v1 ∧ 1000 * v1 ≤ 29000 := by omega
  generalize 1000 * v1 = t1 at hN2 hy1 ⊢
  clear v10 v11
  refine (one_any 2 g a len cap (M + 2) W2 hN2.1 hN2.2.1 (by omega) hlen (by omega)).mono ?_
  rintro e W3 ⟨b1, rfl, hs3, hg3⟩
  have hN3 := hN2.call hg3 hs3
  clear hs3 hg3 hN2
  rcases b1 with _ | _
  · obtain ⟨M4, hM4, hN4⟩ : ∃ M4, M4 ≤ M + 6 ∧ NSE 108 50 w W3 g w.heap.size X a len cap M4 (t1, ⟨#[]⟩, ⟨#[]⟩, 0, false) := ⟨_, by omega, hN3⟩
    clear hN3
    generalize W3 = W4 at hN4 ⊢
    have hy0 : 0 ≤ t1 ∧ t1 ≤ 40000 := by omega
    clear hy1
    generalize t1 = y0 at hN4 hy0 ⊢
    (have hL5 := hN4.alloc (.cells #[.string ⟨#[109, 105, 114, 97]⟩, .string ⟨#[114, 114, 45, 108, 121, 114]⟩, .string ⟨#[115, 115, 45, 99, 121, 103]⟩] 9); have hne5 : W4.heap.size ≠ g := (by have := src_lt hN4.1; omega); go_wp2_with fail; refine (text_any nmP W4.heap.size 0 3 3 g a len cap M4 _ hL5.1 hL5.2.1 (by omega) hlen (by omega) (by omega) hne5 (three_names n_mira n_rrlyr n_sscyg)).mono ?_; rintro e W5 ⟨st, rfl, hst, hs5, hg5⟩; have hN5 := hL5.call hg5 hs5; clear hs5 hg5 hL5 hN4 hne5; obtain ⟨-, d1, -, -, -⟩ := hN5.parts; have f1 := hN5.2.2.2.2.1.frozen 1; have hN6 := hN5.set (x' := (y0, st, ⟨#[]⟩, 0, false)) 1 (.string st) (fun f hf => by match f, hf with | 0, _ => rfl | 1, _ => rfl | 2, _ => rfl | 3, _ => rfl | 4, _ => rfl); have HST := Lib.hid hst; clear hN5 hst; go_wp2_with fail; clear d1 f1; have hz65 : (W5.setCell ⟨X, 1, none⟩ (.string st)).heap.size = W5.heap.size := (by simp); rw [← hz65]; clear hz65; generalize (W5.setCell ⟨X, 1, none⟩ (.string st)) = W6 at hN6 ⊢; have hL7 := hN6.alloc (.cells #[.string ⟨#[97, 98]⟩, .string ⟨#[99, 100]⟩, .string ⟨#[101]⟩] 9); have hne7 : W6.heap.size ≠ g := (by have := src_lt hN6.1; omega); refine (text_any nmP W6.heap.size 0 3 3 g a len cap (M4 + 2) _ hL7.1 hL7.2.1 (by omega) hlen (by omega) (by omega) hne7 (three_names n_ab n_cd n_e)).mono ?_; rintro e W7 ⟨ob, rfl, hob, hs7, hg7⟩; have hN7 := hL7.call hg7 hs7; clear hs7 hg7 hL7 hN6 hne7; obtain ⟨-, -, d2, -, -⟩ := hN7.parts; have f2 := hN7.2.2.2.2.1.frozen 2; have hN8 := hN7.set (x' := (y0, st, ob, 0, false)) 2 (.string ob) (fun f hf => by match f, hf with | 0, _ => rfl | 1, _ => rfl | 2, _ => rfl | 3, _ => rfl | 4, _ => rfl); have HOB := Lib.hid hob; clear hN7 hob; go_wp2_with fail; clear d2 f2; generalize (W7.setCell ⟨X, 2, none⟩ (.string ob)) = W8 at hN8 ⊢; refine (pick_any 60 59 g a len cap (M4 + 2 + 2) W8 hN8.1 hN8.2.1 (by omega) hlen (by omega) (by omega) (by omega)).mono ?_; rintro e W9 ⟨v3, rfl, v30, v31, hs9, hg9⟩; have hN9 := hN8.call hg9 hs9; clear hs9 hg9 hN8; obtain ⟨-, -, -, d3, -⟩ := hN9.parts; have f3 := hN9.2.2.2.2.1.frozen 3; have hNa := hN9.set (x' := (y0, st, ob, 8000 + 50 * v3, false)) 3 (.int .i64 (8000 + 50 * v3)) (fun f hf => by match f, hf with | 0, _ => rfl | 1, _ => rfl | 2, _ => rfl | 3, _ => rfl | 4, _ => rfl); clear hN9; go_wp2_with fail; clear d3 f3; generalize (W9.setCell ⟨X, 3, none⟩ (.int .i64 (8000 + 50 * v3))) = Wa at hNa ⊢; have hy3 : 0 ≤ 8000 + 50 * v3 ∧ 8000 + 50 * v3 ≤ 12000 := (by omega); generalize 8000 + 50 * v3 = y3 at hNa hy3 ⊢; clear v30 v31; refine (one_any 5 g a len cap (M4 + 2 + 2 + 2) Wa hNa.1 hNa.2.1 (by omega) hlen (by omega)).mono ?_; rintro e Wb ⟨bf, rfl, hsb, hgb⟩; have hNb := hNa.call hgb hsb; clear hsb hgb hNa; obtain ⟨-, -, -, -, d4⟩ := hNb.parts; have f4 := hNb.2.2.2.2.1.frozen 4; have hNc := hNb.set (x' := (y0, st, ob, y3, bf)) 4 (.bool bf) (fun f hf => by match f, hf with | 0, _ => rfl | 1, _ => rfl | 2, _ => rfl | 3, _ => rfl | 4, _ => rfl); clear hNb; go_upto_region 8 with fail; clear d4 f4; generalize (Wb.setCell ⟨X, 4, none⟩ (.bool bf)) = Wc at hNc ⊢; obtain ⟨e0, e1, e2, e3, e4⟩ := hNc.parts; obtain ⟨r0, r1, r2, r3, r4⟩ := hNc.res; have f0 := hNc.2.2.2.1.frozen 0; have f1 := hNc.2.2.2.1.frozen 1; have f2 := hNc.2.2.2.1.frozen 2; have f3 := hNc.2.2.2.1.frozen 3; have f4 := hNc.2.2.2.1.frozen 4; have HNC := Lib.hid hNc; clear hNc; go_wp2; have hR := (((((HNC.out.2.2.2.1.set 0 (.int .i64 y0)).set 1 (.string st)).set 2 (.string ob)).set 3 (.int .i64 y3)).set 4 (.bool bf)).congr (g := fldEs (y0, st, ob, y3, bf)) (fun i hi => by match i, hi with | 0, _ => rfl | 1, _ => rfl | 2, _ => rfl | 3, _ => rfl | 4, _ => rfl); obtain ⟨q0, q1, q2, q3, q4⟩ := cells5E hR; exact bodyPost_ret (v := .agg #[.int .i64 y0, .string st, .string ob, .int .i64 y3, .bool bf]) (by simp [results, Try.results105, go_sem, q0, q1, q2, q3, q4]) rfl ⟨y0, st, ob, y3, bf, M4 + 2 + 2 + 2 + 2, rfl, esB_mk hy0.1 hy0.2 HST.out HOB.out hy3.1 hy3.2, by omega, far5E HNC.out⟩)
  · have hNd := hN3.drew
    obtain ⟨da0, -, -, -, -⟩ := hN3.parts
    obtain ⟨db0, -, -, -, -⟩ := hNd.parts
    go_wp2_with fail
    go_region_with (first | (go_at_call 94; refine (pick_any 3000 2999 g a len cap (M + 2 + 2) _ hNd.1 hNd.2.1 (by omega) hlen (by omega) (by omega) (by omega)).mono ?_; rintro e Wb ⟨v4, rfl, v40, v41, hsb, hgb⟩; have hNb := hNd.call hgb hsb; obtain ⟨dc0, -, -, -, -⟩ := hNb.parts; have fc0 := hNb.2.2.2.2.1.frozen 0))
    all_goals (focus (have hwr : IntKind.i64.wrap (t1 + v4) = t1 + v4 := (by simp only [IntKind.wrap_i64]; omega); rw [hwr]; have hy0 : 0 ≤ t1 + v4 ∧ t1 + v4 ≤ 40000 := (by omega); obtain ⟨M4, hM4, hN4⟩ : ∃ M4, M4 ≤ M + 6 ∧ NSE 108 50 w (Wb.setCell ⟨X, 0, none⟩ (.int .i64 (t1 + v4))) g w.heap.size X a len cap M4 (t1 + v4, ⟨#[]⟩, ⟨#[]⟩, 0, false) := ⟨_, by omega, hNb.set 0 _ (fun f hf => by match f, hf with | 0, _ => rfl | 1, _ => rfl | 2, _ => rfl | 3, _ => rfl | 4, _ => rfl)⟩; clear hNb hNd hN3 hsb hgb dc0 fc0 db0 da0 hwr hy1; generalize (Wb.setCell ⟨X, 0, none⟩ (.int .i64 (t1 + v4))) = W4 at hN4 ⊢; generalize t1 + v4 = y0 at hN4 hy0 ⊢; clear v40 v41; (have hL5 := hN4.alloc (.cells #[.string ⟨#[109, 105, 114, 97]⟩, .string ⟨#[114, 114, 45, 108, 121, 114]⟩, .string ⟨#[115, 115, 45, 99, 121, 103]⟩] 9); have hne5 : W4.heap.size ≠ g := (by have := src_lt hN4.1; omega); go_wp2_with fail; refine (text_any nmP W4.heap.size 0 3 3 g a len cap M4 _ hL5.1 hL5.2.1 (by omega) hlen (by omega) (by omega) hne5 (three_names n_mira n_rrlyr n_sscyg)).mono ?_; rintro e W5 ⟨st, rfl, hst, hs5, hg5⟩; have hN5 := hL5.call hg5 hs5; clear hs5 hg5 hL5 hN4 hne5; obtain ⟨-, d1, -, -, -⟩ := hN5.parts; have f1 := hN5.2.2.2.2.1.frozen 1; have hN6 := hN5.set (x' := (y0, st, ⟨#[]⟩, 0, false)) 1 (.string st) (fun f hf => by match f, hf with | 0, _ => rfl | 1, _ => rfl | 2, _ => rfl | 3, _ => rfl | 4, _ => rfl); have HST := Lib.hid hst; clear hN5 hst; go_wp2_with fail; clear d1 f1; have hz65 : (W5.setCell ⟨X, 1, none⟩ (.string st)).heap.size = W5.heap.size := (by simp); rw [← hz65]; clear hz65; generalize (W5.setCell ⟨X, 1, none⟩ (.string st)) = W6 at hN6 ⊢; have hL7 := hN6.alloc (.cells #[.string ⟨#[97, 98]⟩, .string ⟨#[99, 100]⟩, .string ⟨#[101]⟩] 9); have hne7 : W6.heap.size ≠ g := (by have := src_lt hN6.1; omega); refine (text_any nmP W6.heap.size 0 3 3 g a len cap (M4 + 2) _ hL7.1 hL7.2.1 (by omega) hlen (by omega) (by omega) hne7 (three_names n_ab n_cd n_e)).mono ?_; rintro e W7 ⟨ob, rfl, hob, hs7, hg7⟩; have hN7 := hL7.call hg7 hs7; clear hs7 hg7 hL7 hN6 hne7; obtain ⟨-, -, d2, -, -⟩ := hN7.parts; have f2 := hN7.2.2.2.2.1.frozen 2; have hN8 := hN7.set (x' := (y0, st, ob, 0, false)) 2 (.string ob) (fun f hf => by match f, hf with | 0, _ => rfl | 1, _ => rfl | 2, _ => rfl | 3, _ => rfl | 4, _ => rfl); have HOB := Lib.hid hob; clear hN7 hob; go_wp2_with fail; clear d2 f2; generalize (W7.setCell ⟨X, 2, none⟩ (.string ob)) = W8 at hN8 ⊢; refine (pick_any 60 59 g a len cap (M4 + 2 + 2) W8 hN8.1 hN8.2.1 (by omega) hlen (by omega) (by omega) (by omega)).mono ?_; rintro e W9 ⟨v3, rfl, v30, v31, hs9, hg9⟩; have hN9 := hN8.call hg9 hs9; clear hs9 hg9 hN8; obtain ⟨-, -, -, d3, -⟩ := hN9.parts; have f3 := hN9.2.2.2.2.1.frozen 3; have hNa := hN9.set (x' := (y0, st, ob, 8000 + 50 * v3, false)) 3 (.int .i64 (8000 + 50 * v3)) (fun f hf => by match f, hf with | 0, _ => rfl | 1, _ => rfl | 2, _ => rfl | 3, _ => rfl | 4, _ => rfl); clear hN9; go_wp2_with fail; clear d3 f3; generalize (W9.setCell ⟨X, 3, none⟩ (.int .i64 (8000 + 50 * v3))) = Wa at hNa ⊢; have hy3 : 0 ≤ 8000 + 50 * v3 ∧ 8000 + 50 * v3 ≤ 12000 := (by omega); generalize 8000 + 50 * v3 = y3 at hNa hy3 ⊢; clear v30 v31; refine (one_any 5 g a len cap (M4 + 2 + 2 + 2) Wa hNa.1 hNa.2.1 (by omega) hlen (by omega)).mono ?_; rintro e Wb ⟨bf, rfl, hsb, hgb⟩; have hNb := hNa.call hgb hsb; clear hsb hgb hNa; obtain ⟨-, -, -, -, d4⟩ := hNb.parts; have f4 := hNb.2.2.2.2.1.frozen 4; have hNc := hNb.set (x' := (y0, st, ob, y3, bf)) 4 (.bool bf) (fun f hf => by match f, hf with | 0, _ => rfl | 1, _ => rfl | 2, _ => rfl | 3, _ => rfl | 4, _ => rfl); clear hNb; go_upto_region 8 with fail; clear d4 f4; generalize (Wb.setCell ⟨X, 4, none⟩ (.bool bf)) = Wc at hNc ⊢; obtain ⟨e0, e1, e2, e3, e4⟩ := hNc.parts; obtain ⟨r0, r1, r2, r3, r4⟩ := hNc.res; have f0 := hNc.2.2.2.1.frozen 0; have f1 := hNc.2.2.2.1.frozen 1; have f2 := hNc.2.2.2.1.frozen 2; have f3 := hNc.2.2.2.1.frozen 3; have f4 := hNc.2.2.2.1.frozen 4; have HNC := Lib.hid hNc; clear hNc; go_wp2; have hR := (((((HNC.out.2.2.2.1.set 0 (.int .i64 y0)).set 1 (.string st)).set 2 (.string ob)).set 3 (.int .i64 y3)).set 4 (.bool bf)).congr (g := fldEs (y0, st, ob, y3, bf)) (fun i hi => by match i, hi with | 0, _ => rfl | 1, _ => rfl | 2, _ => rfl | 3, _ => rfl | 4, _ => rfl); obtain ⟨q0, q1, q2, q3, q4⟩ := cells5E hR; exact bodyPost_ret (v := .agg #[.int .i64 y0, .string st, .string ob, .int .i64 y3, .bool bf]) (by simp [results, Try.results105, go_sem, q0, q1, q2, q3, q4]) rfl ⟨y0, st, ob, y3, bf, M4 + 2 + 2 + 2 + 2, rfl, esB_mk hy0.1 hy0.2 HST.out HOB.out hy3.1 hy3.2, by omega, far5E HNC.out⟩)))
end Go.Proofs.Ytiogffjhhhpolaa
