/- pointsByBin: the walk. -/
import Derived.Test.YtidiiladlmaigaaF6
import Derived.Test.YtidiiladlmaigaaJSM
import Derived.Deep.RegionLaw
import Derived.Deep.Cut
namespace Go.Proofs.Ytidiiladlmaigaa
open Go.ChangeShapes Go.WideShapes Go.ChangeAt Go.RowKit Go.Deep

theorem z50_at {i : Nat} (hi : i < 50) : (#[.slice none 0 0, .slice none 0 0, .slice none 0 0, .slice none 0 0, .slice none 0 0, .slice none 0 0, .slice none 0 0, .slice none 0 0, .slice none 0 0, .slice none 0 0, .slice none 0 0, .slice none 0 0, .slice none 0 0, .slice none 0 0, .slice none 0 0, .slice none 0 0, .slice none 0 0, .slice none 0 0, .slice none 0 0, .slice none 0 0, .slice none 0 0, .slice none 0 0, .slice none 0 0, .slice none 0 0, .slice none 0 0, .slice none 0 0, .slice none 0 0, .slice none 0 0, .slice none 0 0, .slice none 0 0, .slice none 0 0, .slice none 0 0, .slice none 0 0, .slice none 0 0, .slice none 0 0, .slice none 0 0, .slice none 0 0, .slice none 0 0, .slice none 0 0, .slice none 0 0, .slice none 0 0, .slice none 0 0, .slice none 0 0, .slice none 0 0, .slice none 0 0, .slice none 0 0, .slice none 0 0, .slice none 0 0, .slice none 0 0, .slice none 0 0] : Array Value)[i]? = some (.slice none 0 0) := by
  rw [show (#[.slice none 0 0, .slice none 0 0, .slice none 0 0, .slice none 0 0, .slice none 0 0, .slice none 0 0, .slice none 0 0, .slice none 0 0, .slice none 0 0, .slice none 0 0, .slice none 0 0, .slice none 0 0, .slice none 0 0, .slice none 0 0, .slice none 0 0, .slice none 0 0, .slice none 0 0, .slice none 0 0, .slice none 0 0, .slice none 0 0, .slice none 0 0, .slice none 0 0, .slice none 0 0, .slice none 0 0, .slice none 0 0, .slice none 0 0, .slice none 0 0, .slice none 0 0, .slice none 0 0, .slice none 0 0, .slice none 0 0, .slice none 0 0, .slice none 0 0, .slice none 0 0, .slice none 0 0, .slice none 0 0, .slice none 0 0, .slice none 0 0, .slice none 0 0, .slice none 0 0, .slice none 0 0, .slice none 0 0, .slice none 0 0, .slice none 0 0, .slice none 0 0, .slice none 0 0, .slice none 0 0, .slice none 0 0, .slice none 0 0, .slice none 0 0] : Array Value) = (List.replicate 50 (.slice none 0 0)).toArray from rfl, List.getElem?_toArray, List.getElem?_replicate, if_pos hi]
theorem own_start (T : TypeId) (W : World) (U : TypeId) : OwnV T W.heap.size (W.alloc (.cells #[.slice none 0 0, .slice none 0 0, .slice none 0 0, .slice none 0 0, .slice none 0 0, .slice none 0 0, .slice none 0 0, .slice none 0 0, .slice none 0 0, .slice none 0 0, .slice none 0 0, .slice none 0 0, .slice none 0 0, .slice none 0 0, .slice none 0 0, .slice none 0 0, .slice none 0 0, .slice none 0 0, .slice none 0 0, .slice none 0 0, .slice none 0 0, .slice none 0 0, .slice none 0 0, .slice none 0 0, .slice none 0 0, .slice none 0 0, .slice none 0 0, .slice none 0 0, .slice none 0 0, .slice none 0 0, .slice none 0 0, .slice none 0 0, .slice none 0 0, .slice none 0 0, .slice none 0 0, .slice none 0 0, .slice none 0 0, .slice none 0 0, .slice none 0 0, .slice none 0 0, .slice none 0 0, .slice none 0 0, .slice none 0 0, .slice none 0 0, .slice none 0 0, .slice none 0 0, .slice none 0 0, .slice none 0 0, .slice none 0 0, .slice none 0 0] U)) (fun _ => .slice none 0 0) (fun _ => []) :=
  ⟨by simp, fun i hi => by rw [World.cell?_alloc_new]; exact z50_at hi, fun i hi => by rw [World.frozen?_alloc_new], fun i _ => World.ownsRow_nil _ _ _ _, fun i j _ _ _ b e => by cases e⟩
theorem there_start (W : World) (U : TypeId) : (W.alloc (.cells #[.slice none 0 0, .slice none 0 0, .slice none 0 0, .slice none 0 0, .slice none 0 0, .slice none 0 0, .slice none 0 0, .slice none 0 0, .slice none 0 0, .slice none 0 0, .slice none 0 0, .slice none 0 0, .slice none 0 0, .slice none 0 0, .slice none 0 0, .slice none 0 0, .slice none 0 0, .slice none 0 0, .slice none 0 0, .slice none 0 0, .slice none 0 0, .slice none 0 0, .slice none 0 0, .slice none 0 0, .slice none 0 0, .slice none 0 0, .slice none 0 0, .slice none 0 0, .slice none 0 0, .slice none 0 0, .slice none 0 0, .slice none 0 0, .slice none 0 0, .slice none 0 0, .slice none 0 0, .slice none 0 0, .slice none 0 0, .slice none 0 0, .slice none 0 0, .slice none 0 0, .slice none 0 0, .slice none 0 0, .slice none 0 0, .slice none 0 0, .slice none 0 0, .slice none 0 0, .slice none 0 0, .slice none 0 0, .slice none 0 0, .slice none 0 0] U)).there W.heap.size 0 50 := fun j hj => by
  rw [Nat.zero_add, World.cell?_alloc_new, z50_at hj, World.frozen?_alloc_new]
  exact ⟨rfl, rfl⟩
theorem gSets (b : Nat) : ∀ (vs : List Value) (o : Nat) (w : World), w.grownBy (w.setCells b o vs) (some b)
  | [], _, _ => gRefl _ _
  | v :: r, o, w => (gSet w ⟨b, o, none⟩ v).trans (gSets b r (o + 1) _)
theorem belSets {B b : Nat} {a : World} (hb : B ≤ b) : ∀ (vs : List Value) (o : Nat) (w : World), Below B a w → Below B a (w.setCells b o vs)
  | [], _, _, h => h
  | v :: r, o, _, h => belSets hb r (o + 1) _ (Below.setCell h hb v)
theorem OwnV.sets {T : TypeId} {g : Nat} {w : World} {vs : Nat → Value} {L : Nat → List Pt} (h : OwnV T g w vs L) {b o : Nat} {cs : List Value} (hb : b < g) : OwnV T g (w.setCells b o cs) vs L := by
  have hg := gSets b cs o w
  refine ⟨Nat.lt_of_lt_of_le h.lt hg.size, fun i hi => ?_, fun i hi => ?_, fun i hi => (h.row i hi).kept hg ?_, h.apart⟩
  · rw [World.cell?_setCells_out b cs o w ⟨g, i, none⟩ (fun e _ => by have hh : g = b := e; omega)]
    exact h.cell i hi
  · rw [World.frozen?_setCells]; exact h.free i hi
  · cases hv : (vs i).ownBlock with
    | none => exact .inl rfl
    | some q =>
      right
      intro e
      have h1 := ((h.row i hi).lt q hv).1
      have h2 : q = b := Option.some.inj e
      omega
theorem arr_info : (Try.prog.info? 76).map (·.size) = some 50 := by kernel_rfl
set_option maxRecDepth 100000 in
set_option maxHeartbeats 1000000 in
theorem pbb_any (e p b : Int) (a : Option Addr) (n c : Nat) (xs : List Pt) (w : World) (h : PtL w a n xs) (hn : n ≤ 100) (h1 : 0 ≤ e) (h2 : e ≤ 10000000) (h3 : 1 ≤ p) (h4 : p ≤ 1000000) (h7 : 1 ≤ b) (h8 : b ≤ 50) (hbd : ∀ k, k < n → bdP (xs[k]?.getD pt0)) :
    Calls Try.prog 45 #[.agg #[.int .i64 e, .int .i64 p, .int .i64 b], .slice a n c] w fun x w' => ∃ vs : Nat → Value, x = .returned (.agg (arrV vs).toArray) ∧ (∀ i, i < 50 → ∃ a c, vs i = .slice a (ptsIn e p b xs n i).length c ∧ (ptsIn e p b xs n i).length ≤ c ∧ PtL w' a (ptsIn e p b xs n i).length (ptsIn e p b xs n i)) ∧ Below w.heap.size w w' := by
  obtain ⟨i0, hi, hz0, hz1, hz2⟩ := info_parts Pt_info
  have hl : (n : Int) ≤ 100 := by omega
  have HX := Lib.hid h.1
  have HBD := Lib.hid hbd
  obtain ⟨-, c0, c1, c2⟩ := bp_fresh e p b w
  have hb1 : Below w.heap.size w (w.alloc (.cells #[.int .i64 e, .int .i64 p, .int .i64 b] 78)) := (Below.refl _ w).alloc (Nat.le_refl _) _
  have hbv' : Below (w.heap.size + 1) (w.alloc (.cells #[.int .i64 e, .int .i64 p, .int .i64 b] 78)) (((w.alloc (.cells #[.int .i64 e, .int .i64 p, .int .i64 b] 78)).alloc (.cells #[.slice none 0 0, .slice none 0 0, .slice none 0 0, .slice none 0 0, .slice none 0 0, .slice none 0 0, .slice none 0 0, .slice none 0 0, .slice none 0 0, .slice none 0 0, .slice none 0 0, .slice none 0 0, .slice none 0 0, .slice none 0 0, .slice none 0 0, .slice none 0 0, .slice none 0 0, .slice none 0 0, .slice none 0 0, .slice none 0 0, .slice none 0 0, .slice none 0 0, .slice none 0 0, .slice none 0 0, .slice none 0 0, .slice none 0 0, .slice none 0 0, .slice none 0 0, .slice none 0 0, .slice none 0 0, .slice none 0 0, .slice none 0 0, .slice none 0 0, .slice none 0 0, .slice none 0 0, .slice none 0 0, .slice none 0 0, .slice none 0 0, .slice none 0 0, .slice none 0 0, .slice none 0 0, .slice none 0 0, .slice none 0 0, .slice none 0 0, .slice none 0 0, .slice none 0 0, .slice none 0 0, .slice none 0 0, .slice none 0 0, .slice none 0 0] 76)).alloc (.cells #[.slice none 0 0, .slice none 0 0, .slice none 0 0, .slice none 0 0, .slice none 0 0, .slice none 0 0, .slice none 0 0, .slice none 0 0, .slice none 0 0, .slice none 0 0, .slice none 0 0, .slice none 0 0, .slice none 0 0, .slice none 0 0, .slice none 0 0, .slice none 0 0, .slice none 0 0, .slice none 0 0, .slice none 0 0, .slice none 0 0, .slice none 0 0, .slice none 0 0, .slice none 0 0, .slice none 0 0, .slice none 0 0, .slice none 0 0, .slice none 0 0, .slice none 0 0, .slice none 0 0, .slice none 0 0, .slice none 0 0, .slice none 0 0, .slice none 0 0, .slice none 0 0, .slice none 0 0, .slice none 0 0, .slice none 0 0, .slice none 0 0, .slice none 0 0, .slice none 0 0, .slice none 0 0, .slice none 0 0, .slice none 0 0, .slice none 0 0, .slice none 0 0, .slice none 0 0, .slice none 0 0, .slice none 0 0, .slice none 0 0, .slice none 0 0] 76)) := ((Below.refl _ _).alloc (by simp) _).alloc (by simp) _
  have hbv : Below w.heap.size w (((w.alloc (.cells #[.int .i64 e, .int .i64 p, .int .i64 b] 78)).alloc (.cells #[.slice none 0 0, .slice none 0 0, .slice none 0 0, .slice none 0 0, .slice none 0 0, .slice none 0 0, .slice none 0 0, .slice none 0 0, .slice none 0 0, .slice none 0 0, .slice none 0 0, .slice none 0 0, .slice none 0 0, .slice none 0 0, .slice none 0 0, .slice none 0 0, .slice none 0 0, .slice none 0 0, .slice none 0 0, .slice none 0 0, .slice none 0 0, .slice none 0 0, .slice none 0 0, .slice none 0 0, .slice none 0 0, .slice none 0 0, .slice none 0 0, .slice none 0 0, .slice none 0 0, .slice none 0 0, .slice none 0 0, .slice none 0 0, .slice none 0 0, .slice none 0 0, .slice none 0 0, .slice none 0 0, .slice none 0 0, .slice none 0 0, .slice none 0 0, .slice none 0 0, .slice none 0 0, .slice none 0 0, .slice none 0 0, .slice none 0 0, .slice none 0 0, .slice none 0 0, .slice none 0 0, .slice none 0 0, .slice none 0 0, .slice none 0 0] 76)).alloc (.cells #[.slice none 0 0, .slice none 0 0, .slice none 0 0, .slice none 0 0, .slice none 0 0, .slice none 0 0, .slice none 0 0, .slice none 0 0, .slice none 0 0, .slice none 0 0, .slice none 0 0, .slice none 0 0, .slice none 0 0, .slice none 0 0, .slice none 0 0, .slice none 0 0, .slice none 0 0, .slice none 0 0, .slice none 0 0, .slice none 0 0, .slice none 0 0, .slice none 0 0, .slice none 0 0, .slice none 0 0, .slice none 0 0, .slice none 0 0, .slice none 0 0, .slice none 0 0, .slice none 0 0, .slice none 0 0, .slice none 0 0, .slice none 0 0, .slice none 0 0, .slice none 0 0, .slice none 0 0, .slice none 0 0, .slice none 0 0, .slice none 0 0, .slice none 0 0, .slice none 0 0, .slice none 0 0, .slice none 0 0, .slice none 0 0, .slice none 0 0, .slice none 0 0, .slice none 0 0, .slice none 0 0, .slice none 0 0, .slice none 0 0, .slice none 0 0] 76)) := hb1.trans (hbv'.mono (by omega))
  have d0 := (hbv'.cell (p := ⟨w.heap.size, 0, none⟩) (by show w.heap.size < _; omega)).trans c0
  have d1 := (hbv'.cell (p := ⟨w.heap.size, 1, none⟩) (by show w.heap.size < _; omega)).trans c1
  have d2 := (hbv'.cell (p := ⟨w.heap.size, 2, none⟩) (by show w.heap.size < _; omega)).trans c2
  have hO0 : OwnV 28 (w.heap.size + 1 + 1) (((w.alloc (.cells #[.int .i64 e, .int .i64 p, .int .i64 b] 78)).alloc (.cells #[.slice none 0 0, .slice none 0 0, .slice none 0 0, .slice none 0 0, .slice none 0 0, .slice none 0 0, .slice none 0 0, .slice none 0 0, .slice none 0 0, .slice none 0 0, .slice none 0 0, .slice none 0 0, .slice none 0 0, .slice none 0 0, .slice none 0 0, .slice none 0 0, .slice none 0 0, .slice none 0 0, .slice none 0 0, .slice none 0 0, .slice none 0 0, .slice none 0 0, .slice none 0 0, .slice none 0 0, .slice none 0 0, .slice none 0 0, .slice none 0 0, .slice none 0 0, .slice none 0 0, .slice none 0 0, .slice none 0 0, .slice none 0 0, .slice none 0 0, .slice none 0 0, .slice none 0 0, .slice none 0 0, .slice none 0 0, .slice none 0 0, .slice none 0 0, .slice none 0 0, .slice none 0 0, .slice none 0 0, .slice none 0 0, .slice none 0 0, .slice none 0 0, .slice none 0 0, .slice none 0 0, .slice none 0 0, .slice none 0 0, .slice none 0 0] 76)).alloc (.cells #[.slice none 0 0, .slice none 0 0, .slice none 0 0, .slice none 0 0, .slice none 0 0, .slice none 0 0, .slice none 0 0, .slice none 0 0, .slice none 0 0, .slice none 0 0, .slice none 0 0, .slice none 0 0, .slice none 0 0, .slice none 0 0, .slice none 0 0, .slice none 0 0, .slice none 0 0, .slice none 0 0, .slice none 0 0, .slice none 0 0, .slice none 0 0, .slice none 0 0, .slice none 0 0, .slice none 0 0, .slice none 0 0, .slice none 0 0, .slice none 0 0, .slice none 0 0, .slice none 0 0, .slice none 0 0, .slice none 0 0, .slice none 0 0, .slice none 0 0, .slice none 0 0, .slice none 0 0, .slice none 0 0, .slice none 0 0, .slice none 0 0, .slice none 0 0, .slice none 0 0, .slice none 0 0, .slice none 0 0, .slice none 0 0, .slice none 0 0, .slice none 0 0, .slice none 0 0, .slice none 0 0, .slice none 0 0, .slice none 0 0, .slice none 0 0] 76)) (fun _ => .slice none 0 0) (fun _ => []) := by
    have h := own_start 28 ((w.alloc (.cells #[.int .i64 e, .int .i64 p, .int .i64 b] 78)).alloc (.cells #[.slice none 0 0, .slice none 0 0, .slice none 0 0, .slice none 0 0, .slice none 0 0, .slice none 0 0, .slice none 0 0, .slice none 0 0, .slice none 0 0, .slice none 0 0, .slice none 0 0, .slice none 0 0, .slice none 0 0, .slice none 0 0, .slice none 0 0, .slice none 0 0, .slice none 0 0, .slice none 0 0, .slice none 0 0, .slice none 0 0, .slice none 0 0, .slice none 0 0, .slice none 0 0, .slice none 0 0, .slice none 0 0, .slice none 0 0, .slice none 0 0, .slice none 0 0, .slice none 0 0, .slice none 0 0, .slice none 0 0, .slice none 0 0, .slice none 0 0, .slice none 0 0, .slice none 0 0, .slice none 0 0, .slice none 0 0, .slice none 0 0, .slice none 0 0, .slice none 0 0, .slice none 0 0, .slice none 0 0, .slice none 0 0, .slice none 0 0, .slice none 0 0, .slice none 0 0, .slice none 0 0, .slice none 0 0, .slice none 0 0, .slice none 0 0] 76)) 76
    rwa [show ((w.alloc (.cells #[.int .i64 e, .int .i64 p, .int .i64 b] 78)).alloc (.cells #[.slice none 0 0, .slice none 0 0, .slice none 0 0, .slice none 0 0, .slice none 0 0, .slice none 0 0, .slice none 0 0, .slice none 0 0, .slice none 0 0, .slice none 0 0, .slice none 0 0, .slice none 0 0, .slice none 0 0, .slice none 0 0, .slice none 0 0, .slice none 0 0, .slice none 0 0, .slice none 0 0, .slice none 0 0, .slice none 0 0, .slice none 0 0, .slice none 0 0, .slice none 0 0, .slice none 0 0, .slice none 0 0, .slice none 0 0, .slice none 0 0, .slice none 0 0, .slice none 0 0, .slice none 0 0, .slice none 0 0, .slice none 0 0, .slice none 0 0, .slice none 0 0, .slice none 0 0, .slice none 0 0, .slice none 0 0, .slice none 0 0, .slice none 0 0, .slice none 0 0, .slice none 0 0, .slice none 0 0, .slice none 0 0, .slice none 0 0, .slice none 0 0, .slice none 0 0, .slice none 0 0, .slice none 0 0, .slice none 0 0, .slice none 0 0] 76)).heap.size = w.heap.size + 1 + 1 by simp] at h
  have hT0 : (World.there (((w.alloc (.cells #[.int .i64 e, .int .i64 p, .int .i64 b] 78)).alloc (.cells #[.slice none 0 0, .slice none 0 0, .slice none 0 0, .slice none 0 0, .slice none 0 0, .slice none 0 0, .slice none 0 0, .slice none 0 0, .slice none 0 0, .slice none 0 0, .slice none 0 0, .slice none 0 0, .slice none 0 0, .slice none 0 0, .slice none 0 0, .slice none 0 0, .slice none 0 0, .slice none 0 0, .slice none 0 0, .slice none 0 0, .slice none 0 0, .slice none 0 0, .slice none 0 0, .slice none 0 0, .slice none 0 0, .slice none 0 0, .slice none 0 0, .slice none 0 0, .slice none 0 0, .slice none 0 0, .slice none 0 0, .slice none 0 0, .slice none 0 0, .slice none 0 0, .slice none 0 0, .slice none 0 0, .slice none 0 0, .slice none 0 0, .slice none 0 0, .slice none 0 0, .slice none 0 0, .slice none 0 0, .slice none 0 0, .slice none 0 0, .slice none 0 0, .slice none 0 0, .slice none 0 0, .slice none 0 0, .slice none 0 0, .slice none 0 0] 76)).alloc (.cells #[.slice none 0 0, .slice none 0 0, .slice none 0 0, .slice none 0 0, .slice none 0 0, .slice none 0 0, .slice none 0 0, .slice none 0 0, .slice none 0 0, .slice none 0 0, .slice none 0 0, .slice none 0 0, .slice none 0 0, .slice none 0 0, .slice none 0 0, .slice none 0 0, .slice none 0 0, .slice none 0 0, .slice none 0 0, .slice none 0 0, .slice none 0 0, .slice none 0 0, .slice none 0 0, .slice none 0 0, .slice none 0 0, .slice none 0 0, .slice none 0 0, .slice none 0 0, .slice none 0 0, .slice none 0 0, .slice none 0 0, .slice none 0 0, .slice none 0 0, .slice none 0 0, .slice none 0 0, .slice none 0 0, .slice none 0 0, .slice none 0 0, .slice none 0 0, .slice none 0 0, .slice none 0 0, .slice none 0 0, .slice none 0 0, .slice none 0 0, .slice none 0 0, .slice none 0 0, .slice none 0 0, .slice none 0 0, .slice none 0 0, .slice none 0 0] 76)) (w.heap.size + 1) 0 50) := by
    have h := there_start (w.alloc (.cells #[.int .i64 e, .int .i64 p, .int .i64 b] 78)) 76
    rw [show (w.alloc (.cells #[.int .i64 e, .int .i64 p, .int .i64 b] 78)).heap.size = w.heap.size + 1 by simp] at h
    intro j hj
    have hbb : Below (w.heap.size + 1 + 1) ((w.alloc (.cells #[.int .i64 e, .int .i64 p, .int .i64 b] 78)).alloc (.cells #[.slice none 0 0, .slice none 0 0, .slice none 0 0, .slice none 0 0, .slice none 0 0, .slice none 0 0, .slice none 0 0, .slice none 0 0, .slice none 0 0, .slice none 0 0, .slice none 0 0, .slice none 0 0, .slice none 0 0, .slice none 0 0, .slice none 0 0, .slice none 0 0, .slice none 0 0, .slice none 0 0, .slice none 0 0, .slice none 0 0, .slice none 0 0, .slice none 0 0, .slice none 0 0, .slice none 0 0, .slice none 0 0, .slice none 0 0, .slice none 0 0, .slice none 0 0, .slice none 0 0, .slice none 0 0, .slice none 0 0, .slice none 0 0, .slice none 0 0, .slice none 0 0, .slice none 0 0, .slice none 0 0, .slice none 0 0, .slice none 0 0, .slice none 0 0, .slice none 0 0, .slice none 0 0, .slice none 0 0, .slice none 0 0, .slice none 0 0, .slice none 0 0, .slice none 0 0, .slice none 0 0, .slice none 0 0, .slice none 0 0, .slice none 0 0] 76)) (((w.alloc (.cells #[.int .i64 e, .int .i64 p, .int .i64 b] 78)).alloc (.cells #[.slice none 0 0, .slice none 0 0, .slice none 0 0, .slice none 0 0, .slice none 0 0, .slice none 0 0, .slice none 0 0, .slice none 0 0, .slice none 0 0, .slice none 0 0, .slice none 0 0, .slice none 0 0, .slice none 0 0, .slice none 0 0, .slice none 0 0, .slice none 0 0, .slice none 0 0, .slice none 0 0, .slice none 0 0, .slice none 0 0, .slice none 0 0, .slice none 0 0, .slice none 0 0, .slice none 0 0, .slice none 0 0, .slice none 0 0, .slice none 0 0, .slice none 0 0, .slice none 0 0, .slice none 0 0, .slice none 0 0, .slice none 0 0, .slice none 0 0, .slice none 0 0, .slice none 0 0, .slice none 0 0, .slice none 0 0, .slice none 0 0, .slice none 0 0, .slice none 0 0, .slice none 0 0, .slice none 0 0, .slice none 0 0, .slice none 0 0, .slice none 0 0, .slice none 0 0, .slice none 0 0, .slice none 0 0, .slice none 0 0, .slice none 0 0] 76)).alloc (.cells #[.slice none 0 0, .slice none 0 0, .slice none 0 0, .slice none 0 0, .slice none 0 0, .slice none 0 0, .slice none 0 0, .slice none 0 0, .slice none 0 0, .slice none 0 0, .slice none 0 0, .slice none 0 0, .slice none 0 0, .slice none 0 0, .slice none 0 0, .slice none 0 0, .slice none 0 0, .slice none 0 0, .slice none 0 0, .slice none 0 0, .slice none 0 0, .slice none 0 0, .slice none 0 0, .slice none 0 0, .slice none 0 0, .slice none 0 0, .slice none 0 0, .slice none 0 0, .slice none 0 0, .slice none 0 0, .slice none 0 0, .slice none 0 0, .slice none 0 0, .slice none 0 0, .slice none 0 0, .slice none 0 0, .slice none 0 0, .slice none 0 0, .slice none 0 0, .slice none 0 0, .slice none 0 0, .slice none 0 0, .slice none 0 0, .slice none 0 0, .slice none 0 0, .slice none 0 0, .slice none 0 0, .slice none 0 0, .slice none 0 0, .slice none 0 0] 76)) := (Below.refl _ _).alloc (by simp) _
    rw [hbb.cell (p := ⟨w.heap.size + 1, 0 + j, none⟩) (by show w.heap.size + 1 < _; omega), hbb.frozen (p := ⟨w.heap.size + 1, 0 + j, none⟩) (by show w.heap.size + 1 < _; omega)]
    exact h j hj
  have hsv : w.heap.size + 1 + 1 < (World.heap (((w.alloc (.cells #[.int .i64 e, .int .i64 p, .int .i64 b] 78)).alloc (.cells #[.slice none 0 0, .slice none 0 0, .slice none 0 0, .slice none 0 0, .slice none 0 0, .slice none 0 0, .slice none 0 0, .slice none 0 0, .slice none 0 0, .slice none 0 0, .slice none 0 0, .slice none 0 0, .slice none 0 0, .slice none 0 0, .slice none 0 0, .slice none 0 0, .slice none 0 0, .slice none 0 0, .slice none 0 0, .slice none 0 0, .slice none 0 0, .slice none 0 0, .slice none 0 0, .slice none 0 0, .slice none 0 0, .slice none 0 0, .slice none 0 0, .slice none 0 0, .slice none 0 0, .slice none 0 0, .slice none 0 0, .slice none 0 0, .slice none 0 0, .slice none 0 0, .slice none 0 0, .slice none 0 0, .slice none 0 0, .slice none 0 0, .slice none 0 0, .slice none 0 0, .slice none 0 0, .slice none 0 0, .slice none 0 0, .slice none 0 0, .slice none 0 0, .slice none 0 0, .slice none 0 0, .slice none 0 0, .slice none 0 0, .slice none 0 0] 76)).alloc (.cells #[.slice none 0 0, .slice none 0 0, .slice none 0 0, .slice none 0 0, .slice none 0 0, .slice none 0 0, .slice none 0 0, .slice none 0 0, .slice none 0 0, .slice none 0 0, .slice none 0 0, .slice none 0 0, .slice none 0 0, .slice none 0 0, .slice none 0 0, .slice none 0 0, .slice none 0 0, .slice none 0 0, .slice none 0 0, .slice none 0 0, .slice none 0 0, .slice none 0 0, .slice none 0 0, .slice none 0 0, .slice none 0 0, .slice none 0 0, .slice none 0 0, .slice none 0 0, .slice none 0 0, .slice none 0 0, .slice none 0 0, .slice none 0 0, .slice none 0 0, .slice none 0 0, .slice none 0 0, .slice none 0 0, .slice none 0 0, .slice none 0 0, .slice none 0 0, .slice none 0 0, .slice none 0 0, .slice none 0 0, .slice none 0 0, .slice none 0 0, .slice none 0 0, .slice none 0 0, .slice none 0 0, .slice none 0 0, .slice none 0 0, .slice none 0 0] 76))).size := by simp
  clear c0 c1 c2 hb1 hbv'
  go_enter Try.func45, Try.ntmps45
  go_wp2
  generalize (((w.alloc (.cells #[.int .i64 e, .int .i64 p, .int .i64 b] 78)).alloc (.cells #[.slice none 0 0, .slice none 0 0, .slice none 0 0, .slice none 0 0, .slice none 0 0, .slice none 0 0, .slice none 0 0, .slice none 0 0, .slice none 0 0, .slice none 0 0, .slice none 0 0, .slice none 0 0, .slice none 0 0, .slice none 0 0, .slice none 0 0, .slice none 0 0, .slice none 0 0, .slice none 0 0, .slice none 0 0, .slice none 0 0, .slice none 0 0, .slice none 0 0, .slice none 0 0, .slice none 0 0, .slice none 0 0, .slice none 0 0, .slice none 0 0, .slice none 0 0, .slice none 0 0, .slice none 0 0, .slice none 0 0, .slice none 0 0, .slice none 0 0, .slice none 0 0, .slice none 0 0, .slice none 0 0, .slice none 0 0, .slice none 0 0, .slice none 0 0, .slice none 0 0, .slice none 0 0, .slice none 0 0, .slice none 0 0, .slice none 0 0, .slice none 0 0, .slice none 0 0, .slice none 0 0, .slice none 0 0, .slice none 0 0, .slice none 0 0] 76)).alloc (.cells #[.slice none 0 0, .slice none 0 0, .slice none 0 0, .slice none 0 0, .slice none 0 0, .slice none 0 0, .slice none 0 0, .slice none 0 0, .slice none 0 0, .slice none 0 0, .slice none 0 0, .slice none 0 0, .slice none 0 0, .slice none 0 0, .slice none 0 0, .slice none 0 0, .slice none 0 0, .slice none 0 0, .slice none 0 0, .slice none 0 0, .slice none 0 0, .slice none 0 0, .slice none 0 0, .slice none 0 0, .slice none 0 0, .slice none 0 0, .slice none 0 0, .slice none 0 0, .slice none 0 0, .slice none 0 0, .slice none 0 0, .slice none 0 0, .slice none 0 0, .slice none 0 0, .slice none 0 0, .slice none 0 0, .slice none 0 0, .slice none 0 0, .slice none 0 0, .slice none 0 0, .slice none 0 0, .slice none 0 0, .slice none 0 0, .slice none 0 0, .slice none 0 0, .slice none 0 0, .slice none 0 0, .slice none 0 0, .slice none 0 0, .slice none 0 0] 76)) = v at hbv d0 d1 d2 hO0 hT0 hsv ⊢
  have hv := h.mono hbv
  obtain ⟨G, hG⟩ : ∃ G, w.heap.size + 1 + 1 = G := ⟨_, rfl⟩
  rw [hG] at hO0 hsv ⊢
  have hwG : w.heap.size + 1 < G := by omega
  have HG := Lib.hid hG
  clear hG
  go_loopw [11] (fun i wr => ∃ (k : Nat) (vs : Nat → Value), k ≤ n ∧ i = .int .i64 k ∧ Hid (OwnV 28 G wr vs (ptsIn e p b xs k)) ∧ Below G v wr) (fun i _ => n - (Go.RowKit.intOf i).toNat)
  case atStart => exact ⟨0, _, Nat.zero_le _, rfl, Lib.hid (hO0.congr fun i _ => ptsIn_zero _ _ _ _ i), Below.refl _ _⟩
  case round =>
    obtain ⟨k, vs, hk, rfl, HO, hB⟩ := hrel
    have hsz := hB.size
    have e0 := (hB.cell (p := ⟨w.heap.size, 0, none⟩) (by show w.heap.size < _; omega)).trans d0
    have e1 := (hB.cell (p := ⟨w.heap.size, 1, none⟩) (by show w.heap.size < _; omega)).trans d1
    have e2 := (hB.cell (p := ⟨w.heap.size, 2, none⟩) (by show w.heap.size < _; omega)).trans d2
    by_cases hlt : k < n
    · obtain ⟨b1, o1, rfl, hc⟩ := h.2 k hlt
      have hkk : (k : Int) < (n : Int) := by omega
      have hbx := HBD.out k hlt
      obtain ⟨⟨x0, x1⟩, hx⟩ : ∃ x, xs[k]?.getD pt0 = x := ⟨_, rfl⟩
      rw [hx] at hc hbx
      have hb1w := hc.1
      obtain ⟨-, p0, p1⟩ := ((hc.mono hbv).of_block hsz (hB.block b1 (by omega))).parts
      have hbn := bnN_is (e := e) (t := x0) h3 h7
      have hbl := bnN_lt (e := e) (t := x0) h3 h7
      obtain ⟨q, hq⟩ : ∃ q, bnN e p b x0 = q := ⟨_, rfl⟩
      rw [hq] at hbn hbl
      have HBN := Lib.hid hbn
      have HQ := Lib.hid hq
      have HXX := Lib.hid hx
      have hq50 : q < 50 := by omega
      have hq50z : (q : Int) < 50 := by omega
      have hOx := HO.out
      obtain ⟨aq, cq, hvq, hcq, -⟩ := hOx.form hq50
      have hrow := hOx.row q hq50
      have hcellq := hOx.cell q hq50
      rw [hvq] at hrow hcellq
      obtain ⟨Lq, hLq⟩ : ∃ l, ptsIn e p b xs k q = l := ⟨_, rfl⟩
      have hll := ptsIn_len e p b xs k q
      rw [hLq] at hrow hcellq hll hcq hvq
      have HVQ := Lib.hid hvq
      have HLQ := Lib.hid hLq
      have hGlt := hOx.lt
      have hlw : w.heap.size < wr.heap.size := by omega
      clear hc hx hbn hbl hq hvq hLq hOx
      go_wp2_with fail
      refine (binOf_any e p b x0 _ h1 h2 h3 h4 (by unfold bdP at hbx; omega) (by unfold bdP at hbx; omega) h7 (by omega)).mono ?_
      rintro x w5 ⟨rfl, b5⟩
      rw [HBN.out]
      have hs5 := b5.size
      simp only [World.size_alloc] at hs5
      have D5 : Below wr.heap.size wr w5 := belowCall ((Below.refl _ _).alloc (Nat.le_refl _) _) b5
      have hrow5 := ownKeepF hrow D5
      have g1 : w5.cell? ⟨G, q, none⟩ = some (.slice aq Lq.length cq) := (D5.cell (p := ⟨G, q, none⟩) hGlt).trans hcellq
      have hfree5 : w5.frozen? ⟨G, q, none⟩ = false := (D5.frozen (p := ⟨G, q, none⟩) hGlt).trans (HO.out.free q hq50)
      have t0 : w5.cell? ⟨wr.heap.size, 0, none⟩ = some (.int .i64 x0) := by rw [b5.cell (p := ⟨wr.heap.size, 0, none⟩) (by simp)]; go_keep
      have t1 : w5.cell? ⟨wr.heap.size, 1, none⟩ = some (.int .i64 x1) := by rw [b5.cell (p := ⟨wr.heap.size, 1, none⟩) (by simp)]; go_keep
      have hGw5 : G < w5.heap.size := by omega
      have hrw5 : wr.heap.size < w5.heap.size := by omega
      have hq0 : (0 : Int) ≤ (q : Int) := by omega
      clear hrow hcellq b5
      go_wp2_with fail
      have hownd : w5.drew.ownsRow (G + 1) 28 2 (.slice aq Lq.length cq) Lq.length (flatPt Lq) := ownKeepF hrow5 (Below.drew (Below.refl _ _))
      have hnb : ∀ u, (Value.slice aq Lq.length cq).ownBlock = some u → G + 1 ≤ u ∧ u < wr.heap.size := fun u e => ⟨(hownd.lt u e).1, ((HO.out.row q hq50).lt u (by rw [HVQ.out]; exact e)).2⟩
      have HNB := Lib.hid hnb
      clear hnb hrow5
      go_region_law (refine Go.step_append_lies _ rfl _ _ 34 rfl (G + 1) 28 i0 _ 2 16 Try.underlying34 hi hz0 hz1 hz2 rfl (by decide) (.slice aq Lq.length cq) Lq.length (flatPt Lq) rfl (hownd.alloc _) ⟨w5.heap.size, 0, none⟩ 1 1 [.int .i64 x0, .int .i64 x1] rfl rfl (cellsPt _ _ _ _) (by intro u hu; simp at hu; rcases hu with rfl | rfl <;> rfl) (by decide) (by unfold maxLen; omega) (by omega) (by simp; omega) _ rfl ?_; intro g7 c7 w7 hown7 hg7 hat7 hlt7; have c70 := hg7.cell (a := ⟨G, q, none⟩) (v := .slice aq Lq.length cq) (by go_keep) (fun e => by have hh : G + 1 ≤ G := (HNB.out _ e.symm).1; omega); have c71 := hg7.cell (a := ⟨wr.heap.size, 0, none⟩) (v := .int .i64 x0) (by go_keep) (fun e => by have hh : wr.heap.size < wr.heap.size := (HNB.out _ e.symm).2; omega); have c72 := hg7.cell (a := ⟨wr.heap.size, 1, none⟩) (v := .int .i64 x1) (by go_keep) (fun e => by have hh : wr.heap.size < wr.heap.size := (HNB.out _ e.symm).2; omega); have f70 : w7.frozen? ⟨G, q, none⟩ = false := (World.grownBy.frozen_far hg7 ⟨G, q, none⟩ (by simp; omega) (fun e => by have hh : G + 1 ≤ G := (HNB.out _ e.symm).1; omega)).trans (((show Below w5.heap.size w5 _ by (repeat (first | assumption | exact Below.refl _ _ | refine belowDN ?_ _ | refine Below.drew ?_ | refine Below.setCell ?_ (by first | omega | (simp <;> omega)) _ | refine Below.alloc ?_ (by first | omega | (simp <;> omega)) _ | refine belowCall ?_ (by assumption)))).frozen (p := ⟨G, q, none⟩) hGw5).trans hfree5); have HG7 := Lib.hid hg7; have HAT7 := Lib.hid hat7; have HOWN7 := Lib.hid hown7; clear hg7 hat7 hown7)
      all_goals
        have D6 : Below wr.heap.size wr (w5.drew.alloc (.cells #[.int .i64 x0, .int .i64 x1] 28)) := by (repeat (first | assumption | exact Below.refl _ _ | refine belowDN ?_ _ | refine Below.drew ?_ | refine Below.setCell ?_ (by first | omega | (simp <;> omega)) _ | refine Below.alloc ?_ (by first | omega | (simp <;> omega)) _ | refine belowCall ?_ (by assumption)))
        have HB7 : Below G v w7 := (hB.trans (D6.mono (by omega))).grown HG7.out (by simp; omega) (fun j e => by have hh := (HNB.out j e).1; omega)
        have hbP : Below G v (w7.setCell ⟨G, q, none⟩ (.slice (some ⟨g7, 0, none⟩) (Lq.length + 1) c7)) := Below.setCell HB7 (Nat.le_refl _) _
        have HN : Hid (OwnV 28 G (w7.setCell ⟨G, q, none⟩ (.slice (some ⟨g7, 0, none⟩) (Lq.length + 1) c7)) (updV vs q (.slice (some ⟨g7, 0, none⟩) (Lq.length + 1) c7)) (ptsIn e p b xs (k + 1))) := Lib.hid ((OwnV.put HO.out D6 hq50 (Li := Lq ++ [(x0, x1)]) (by rw [flatPt_snoc]; exact HOWN7.out) (by simp) (by rw [HVQ.out]; exact HG7.out) (by rw [HVQ.out]; exact HAT7.out)).congr fun i hi => by
          by_cases ei : i = q
          · subst ei
            rw [updV, if_pos rfl, ptsIn_same (by have := HX.out; omega) HXX.out HQ.out, HLQ.out]
          · rw [updV, if_neg ei, ptsIn_other (by have := HX.out; omega) HXX.out (by rw [HQ.out]; exact fun e' => ei e'.symm)])
        clear HB7 D6
        go_wp2
        go_roundw
        case rel => exact ⟨k + 1, _, by omega, by go_num, HN, hbP⟩
        case measure => simp [Go.RowKit.intOf]; omega
    · obtain rfl : k = n := by omega
      have hTw : wr.there (w.heap.size + 1) 0 50 := fun j hj => by
        rw [hB.cell (p := ⟨w.heap.size + 1, 0 + j, none⟩) (by show w.heap.size + 1 < _; omega), hB.frozen (p := ⟨w.heap.size + 1, 0 + j, none⟩) (by show w.heap.size + 1 < _; omega)]
        exact hT0 j hj
      have hinf : (Try.prog.info? 76).map (·.size) = some (arrV vs).length := by rw [arrV_len]; exact arr_info
      have hinf' : (Try.prog.info? 76).map (·.size) = some (arrV vs).toArray.size := by rw [List.size_toArray]; exact hinf
      have hTw' : wr.there (w.heap.size + 1) 0 (arrV vs).toArray.size := by
        have e : (arrV vs).toArray.size = 50 := by rw [List.size_toArray]; exact arrV_len vs
        rw [e]; exact hTw
      have hrg : (wr.setCells (w.heap.size + 1) 0 (arrV vs)).rangeAt (w.heap.size + 1) 0 (arrV vs) := World.rangeAt_setCells_same _ _ _ _ (by rw [arrV_len]; exact hTw)
      have hrr := run_loadVar_mid (P := Try.prog) (wr.setCells (w.heap.size + 1) 0 (arrV vs)) (w.heap.size + 1) 0 76 (arrV vs) _ hrg Try.underlying76 rfl hinf
      have HF := Lib.hid (HO.out.sets (b := w.heap.size + 1) (o := 0) (cs := arrV vs) (by omega))
      have hBE : Below w.heap.size w (wr.setCells (w.heap.size + 1) 0 (arrV vs)) := belSets (by omega) _ _ _ (hbv.trans (hB.mono (by omega)))
      have HRR := Lib.hid hrr
      have HOO := Lib.hid HO.out.one
      have HRA := Lib.hid HO.out.range
      have HFM := Lib.hid (fun i hi => HF.out.form (i := i) hi)
      clear hrg hrr hT0
      go_upto_region 8 with fail
      refine wp_region_lit ?_
      refine wpList_load_mid rfl 76 _ rfl G 0 rfl (arrV vs) _ HRA.out Try.underlying76 rfl hinf ?_
      go_simp
      refine wpList_store_mid rfl 76 _ _ rfl (w.heap.size + 1) 0 (arrV vs).toArray rfl rfl hTw' hinf' HOO.out ?_
      go_simp
      clear hinf hinf' hTw hTw' hbd HBD HOO HRA HF HO d0 d1 d2 e0 e1 e2 hB hsz hbv hv h hi hz0 hz1 hz2
      generalize wr.setCells (w.heap.size + 1) 0 (arrV vs) = wE at HRR HFM hBE ⊢
      generalize hAV : (arrV vs).toArray = VA at HRR ⊢
      have HAV := Lib.hid hAV
      clear hAV
      go_wp2
      rw [← HAV.out]
      rw [← HAV.out] at HRR
      exact bodyPost_ret (v := .agg (arrV vs).toArray) (by simp [results, Try.results45, asAddr, HRR.out]) rfl ⟨vs, rfl, HFM.out, hBE⟩
end Go.Proofs.Ytidiiladlmaigaa
