/- The program's sums by bins: an array of twenty structs. -/
import Derived.Test.YtcjipmpccmppiaaEC
import Derived.Test.YtcjipmpccmppiaaEA
import Derived.Deep.RegionLaw
import Derived.Deep.Cut
import Derived.Deep.MidRow
namespace Go.Proofs.Ytcjipmpccmppiaa
open Go.ChangeShapes Go.WideShapes Go.ChangeAt Go.RowKit Go.Deep

/-- the three sums of each bin after k points, as cells -/
def smF (B : Nat → Nat) (m : Nat → Int) (k i : Nat) : Int := if i % 3 = 0 then bCN B (i / 3) k else if i % 3 = 1 then bCS B m (i / 3) k else bCQ B m (i / 3) k
theorem smF_0 (B : Nat → Nat) (m : Nat → Int) (k q : Nat) : smF B m k (q * 3) = bCN B q k := by
  unfold smF
  rw [if_pos (by omega), show q * 3 / 3 = q by omega]
theorem smF_1 (B : Nat → Nat) (m : Nat → Int) (k q : Nat) : smF B m k (q * 3 + 1) = bCS B m q k := by
  unfold smF
  rw [if_neg (by omega), if_pos (by omega), show (q * 3 + 1) / 3 = q by omega]
theorem smF_2 (B : Nat → Nat) (m : Nat → Int) (k q : Nat) : smF B m k (q * 3 + 2) = bCQ B m q k := by
  unfold smF
  rw [if_neg (by omega), if_neg (by omega), show (q * 3 + 2) / 3 = q by omega]
theorem smF_start (B : Nat → Nat) (m : Nat → Int) (i : Nat) : smF B m 0 i = 0 := by
  unfold smF
  split
  · rfl
  · split <;> rfl
theorem smF_other {B : Nat → Nat} {m : Nat → Int} {k q i : Nat} (hq : B k = q) (hi : i / 3 ≠ q) : smF B m (k + 1) i = smF B m k i := by
  have hne : B k ≠ i / 3 := fun e => hi (by rw [← e, hq])
  unfold smF
  rw [bCN_no hne, bCS_no hne, bCQ_no hne]
/-- block g holds the sums -/
structure Sm20 (w : World) (g : Nat) (f : Nat → Int) : Prop where
  lt : g < w.heap.size
  cell : ∀ i, i < 60 → w.cell? ⟨g, i, none⟩ = some (.int .i64 (f i))
  free : ∀ i, i < 60 → w.frozen? ⟨g, i, none⟩ = false
theorem Sm20.mono {w w' : World} {g : Nat} {f : Nat → Int} (h : Sm20 w g f) (hb : Below w.heap.size w w') : Sm20 w' g f :=
  ⟨Nat.lt_of_lt_of_le h.lt hb.size, fun i hi => (hb.cell (p := ⟨g, i, none⟩) h.lt).trans (h.cell i hi), fun i hi => (hb.frozen (p := ⟨g, i, none⟩) h.lt).trans (h.free i hi)⟩
theorem Sm20.congr {w : World} {g : Nat} {f f' : Nat → Int} (h : Sm20 w g f) (e : ∀ i, i < 60 → f' i = f i) : Sm20 w g f' :=
  ⟨h.lt, fun i hi => by rw [e i hi]; exact h.cell i hi, h.free⟩
theorem Sm20.put {w : World} {g q : Nat} {f : Nat → Int} (h : Sm20 w g f) (c s t : Int) :
    Sm20 (((w.setCell ⟨g, q * 3, none⟩ (.int .i64 c)).setCell ⟨g, q * 3 + 1, none⟩ (.int .i64 s)).setCell ⟨g, q * 3 + 2, none⟩ (.int .i64 t)) g (fun i => if i = q * 3 then c else if i = q * 3 + 1 then s else if i = q * 3 + 2 then t else f i) := by
  refine ⟨by simp only [World.size_setCell]; exact h.lt, fun i hi => ?_, fun i hi => by simp only [World.frozen?_setCell]; exact h.free i hi⟩
  have hc := h.cell i hi
  by_cases e0 : i = q * 3
  · subst e0
    simp only [if_true]
    exact scO (by simp) (scO (by simp) (scS hc))
  by_cases e1 : i = q * 3 + 1
  · subst e1
    rw [if_neg (by omega), if_pos rfl]
    exact scO (by simp) (scS (scO (by simp) hc))
  by_cases e2 : i = q * 3 + 2
  · subst e2
    rw [if_neg (by omega), if_neg (by omega), if_pos rfl]
    exact scS (scO (by simp) (scO (by simp) hc))
  · rw [if_neg e0, if_neg e1, if_neg e2]
    exact scO (fun e => e2 e.symm) (scO (fun e => e1 e.symm) (scO (fun e => e0 e.symm) hc))
/-- the array's value -/
def arrS (f : Nat → Int) : List Value := (List.range 60).map fun i => .int .i64 (f i)
theorem arrS_len (f : Nat → Int) : (arrS f).length = 60 := by simp [arrS]
theorem arrS_at (f : Nat → Int) {i : Nat} (hi : i < 60) : (arrS f)[i]? = some (.int .i64 (f i)) := by simp [arrS, hi]
theorem Sm20.range {w : World} {g : Nat} {f : Nat → Int} (h : Sm20 w g f) : w.rangeAt g 0 (arrS f) := fun j v hv => by
  have hj : j < 60 := by have := (List.getElem?_eq_some_iff.1 hv).1; rwa [arrS_len] at this
  rw [arrS_at f hj] at hv
  cases hv
  rw [Nat.zero_add]
  exact h.cell j hj
theorem z60_at {i : Nat} (hi : i < 60) : (#[.int .i64 0, .int .i64 0, .int .i64 0, .int .i64 0, .int .i64 0, .int .i64 0, .int .i64 0, .int .i64 0, .int .i64 0, .int .i64 0, .int .i64 0, .int .i64 0, .int .i64 0, .int .i64 0, .int .i64 0, .int .i64 0, .int .i64 0, .int .i64 0, .int .i64 0, .int .i64 0, .int .i64 0, .int .i64 0, .int .i64 0, .int .i64 0, .int .i64 0, .int .i64 0, .int .i64 0, .int .i64 0, .int .i64 0, .int .i64 0, .int .i64 0, .int .i64 0, .int .i64 0, .int .i64 0, .int .i64 0, .int .i64 0, .int .i64 0, .int .i64 0, .int .i64 0, .int .i64 0, .int .i64 0, .int .i64 0, .int .i64 0, .int .i64 0, .int .i64 0, .int .i64 0, .int .i64 0, .int .i64 0, .int .i64 0, .int .i64 0, .int .i64 0, .int .i64 0, .int .i64 0, .int .i64 0, .int .i64 0, .int .i64 0, .int .i64 0, .int .i64 0, .int .i64 0, .int .i64 0] : Array Value)[i]? = some (.int .i64 0) := by
  rw [show (#[.int .i64 0, .int .i64 0, .int .i64 0, .int .i64 0, .int .i64 0, .int .i64 0, .int .i64 0, .int .i64 0, .int .i64 0, .int .i64 0, .int .i64 0, .int .i64 0, .int .i64 0, .int .i64 0, .int .i64 0, .int .i64 0, .int .i64 0, .int .i64 0, .int .i64 0, .int .i64 0, .int .i64 0, .int .i64 0, .int .i64 0, .int .i64 0, .int .i64 0, .int .i64 0, .int .i64 0, .int .i64 0, .int .i64 0, .int .i64 0, .int .i64 0, .int .i64 0, .int .i64 0, .int .i64 0, .int .i64 0, .int .i64 0, .int .i64 0, .int .i64 0, .int .i64 0, .int .i64 0, .int .i64 0, .int .i64 0, .int .i64 0, .int .i64 0, .int .i64 0, .int .i64 0, .int .i64 0, .int .i64 0, .int .i64 0, .int .i64 0, .int .i64 0, .int .i64 0, .int .i64 0, .int .i64 0, .int .i64 0, .int .i64 0, .int .i64 0, .int .i64 0, .int .i64 0, .int .i64 0] : Array Value) = (List.replicate 60 (.int .i64 0)).toArray from rfl, List.getElem?_toArray, List.getElem?_replicate, if_pos hi]
theorem sm_start (W : World) (U : TypeId) : Sm20 (W.alloc (.cells #[.int .i64 0, .int .i64 0, .int .i64 0, .int .i64 0, .int .i64 0, .int .i64 0, .int .i64 0, .int .i64 0, .int .i64 0, .int .i64 0, .int .i64 0, .int .i64 0, .int .i64 0, .int .i64 0, .int .i64 0, .int .i64 0, .int .i64 0, .int .i64 0, .int .i64 0, .int .i64 0, .int .i64 0, .int .i64 0, .int .i64 0, .int .i64 0, .int .i64 0, .int .i64 0, .int .i64 0, .int .i64 0, .int .i64 0, .int .i64 0, .int .i64 0, .int .i64 0, .int .i64 0, .int .i64 0, .int .i64 0, .int .i64 0, .int .i64 0, .int .i64 0, .int .i64 0, .int .i64 0, .int .i64 0, .int .i64 0, .int .i64 0, .int .i64 0, .int .i64 0, .int .i64 0, .int .i64 0, .int .i64 0, .int .i64 0, .int .i64 0, .int .i64 0, .int .i64 0, .int .i64 0, .int .i64 0, .int .i64 0, .int .i64 0, .int .i64 0, .int .i64 0, .int .i64 0, .int .i64 0] U)) W.heap.size (fun _ => 0) :=
  ⟨by simp, fun i hi => by rw [World.cell?_alloc_new]; exact z60_at hi, fun i hi => by rw [World.frozen?_alloc_new]⟩
theorem there_st (W : World) (U : TypeId) : (W.alloc (.cells #[.int .i64 0, .int .i64 0, .int .i64 0, .int .i64 0, .int .i64 0, .int .i64 0, .int .i64 0, .int .i64 0, .int .i64 0, .int .i64 0, .int .i64 0, .int .i64 0, .int .i64 0, .int .i64 0, .int .i64 0, .int .i64 0, .int .i64 0, .int .i64 0, .int .i64 0, .int .i64 0, .int .i64 0, .int .i64 0, .int .i64 0, .int .i64 0, .int .i64 0, .int .i64 0, .int .i64 0, .int .i64 0, .int .i64 0, .int .i64 0, .int .i64 0, .int .i64 0, .int .i64 0, .int .i64 0, .int .i64 0, .int .i64 0, .int .i64 0, .int .i64 0, .int .i64 0, .int .i64 0, .int .i64 0, .int .i64 0, .int .i64 0, .int .i64 0, .int .i64 0, .int .i64 0, .int .i64 0, .int .i64 0, .int .i64 0, .int .i64 0, .int .i64 0, .int .i64 0, .int .i64 0, .int .i64 0, .int .i64 0, .int .i64 0, .int .i64 0, .int .i64 0, .int .i64 0, .int .i64 0] U)).there W.heap.size 0 60 := fun j hj => by
  rw [Nat.zero_add, World.cell?_alloc_new, z60_at hj, World.frozen?_alloc_new]
  exact ⟨rfl, rfl⟩
theorem gSets (b : Nat) : ∀ (vs : List Value) (o : Nat) (w : World), w.grownBy (w.setCells b o vs) (some b)
  | [], _, _ => gRefl _ _
  | v :: r, o, w => (gSet w ⟨b, o, none⟩ v).trans (gSets b r (o + 1) _)
theorem belSets {B b : Nat} {a : World} (hb : B ≤ b) : ∀ (vs : List Value) (o : Nat) (w : World), Below B a w → Below B a (w.setCells b o vs)
  | [], _, _, h => h
  | v :: r, o, _, h => belSets hb r (o + 1) _ (Below.setCell h hb v)
theorem arrS_info : (Try.prog.info? 114).map (·.size) = some 60 := by kernel_rfl
theorem arrS_one (f : Nat → Int) : (arrS f).toArray.all (·.oneCell') = true := all_oneCell_toArray fun v hv => by
  simp only [arrS, List.mem_map, List.mem_range] at hv
  obtain ⟨i, hi, rfl⟩ := hv
  rfl
set_option maxRecDepth 100000 in
set_option maxHeartbeats 1000000 in
theorem sbb_any (p b : Int) (a : Option Addr) (n c : Nat) (xs : List Pt) (w : World) (h : PtL w a n xs) (hok : okP xs = true) (h3 : 1 ≤ p) (h4 : p ≤ 1000000) (h7 : 1 ≤ b) (h8 : b ≤ 20) :
    Calls Try.prog 108 #[.agg #[.int .i64 0, .int .i64 p, .int .i64 b], .slice a n c] w fun x w' => x = .returned (.agg (arrS (smF (bf p b xs) (mgX xs) n)).toArray) ∧ Below w.heap.size w w' := by
  obtain ⟨hn, hbd, -⟩ := okP_num h.1 hok
  have HBD := Lib.hid hbd
  have HMB := Lib.hid (mgX_bd hbd)
  have hl : (n : Int) ≤ 100 := by omega
  obtain ⟨-, c0, c1, c2⟩ := bp_fresh 0 p b w
  have hb1 : Below w.heap.size w (w.alloc (.cells #[.int .i64 0, .int .i64 p, .int .i64 b] 85)) := (Below.refl _ w).alloc (Nat.le_refl _) _
  have hbv' : Below (w.heap.size + 1) (w.alloc (.cells #[.int .i64 0, .int .i64 p, .int .i64 b] 85)) (((w.alloc (.cells #[.int .i64 0, .int .i64 p, .int .i64 b] 85)).alloc (.cells #[.int .i64 0, .int .i64 0, .int .i64 0, .int .i64 0, .int .i64 0, .int .i64 0, .int .i64 0, .int .i64 0, .int .i64 0, .int .i64 0, .int .i64 0, .int .i64 0, .int .i64 0, .int .i64 0, .int .i64 0, .int .i64 0, .int .i64 0, .int .i64 0, .int .i64 0, .int .i64 0, .int .i64 0, .int .i64 0, .int .i64 0, .int .i64 0, .int .i64 0, .int .i64 0, .int .i64 0, .int .i64 0, .int .i64 0, .int .i64 0, .int .i64 0, .int .i64 0, .int .i64 0, .int .i64 0, .int .i64 0, .int .i64 0, .int .i64 0, .int .i64 0, .int .i64 0, .int .i64 0, .int .i64 0, .int .i64 0, .int .i64 0, .int .i64 0, .int .i64 0, .int .i64 0, .int .i64 0, .int .i64 0, .int .i64 0, .int .i64 0, .int .i64 0, .int .i64 0, .int .i64 0, .int .i64 0, .int .i64 0, .int .i64 0, .int .i64 0, .int .i64 0, .int .i64 0, .int .i64 0] 114)).alloc (.cells #[.int .i64 0, .int .i64 0, .int .i64 0, .int .i64 0, .int .i64 0, .int .i64 0, .int .i64 0, .int .i64 0, .int .i64 0, .int .i64 0, .int .i64 0, .int .i64 0, .int .i64 0, .int .i64 0, .int .i64 0, .int .i64 0, .int .i64 0, .int .i64 0, .int .i64 0, .int .i64 0, .int .i64 0, .int .i64 0, .int .i64 0, .int .i64 0, .int .i64 0, .int .i64 0, .int .i64 0, .int .i64 0, .int .i64 0, .int .i64 0, .int .i64 0, .int .i64 0, .int .i64 0, .int .i64 0, .int .i64 0, .int .i64 0, .int .i64 0, .int .i64 0, .int .i64 0, .int .i64 0, .int .i64 0, .int .i64 0, .int .i64 0, .int .i64 0, .int .i64 0, .int .i64 0, .int .i64 0, .int .i64 0, .int .i64 0, .int .i64 0, .int .i64 0, .int .i64 0, .int .i64 0, .int .i64 0, .int .i64 0, .int .i64 0, .int .i64 0, .int .i64 0, .int .i64 0, .int .i64 0] 114)) := ((Below.refl _ _).alloc (by simp) _).alloc (by simp) _
  have hbv : Below w.heap.size w (((w.alloc (.cells #[.int .i64 0, .int .i64 p, .int .i64 b] 85)).alloc (.cells #[.int .i64 0, .int .i64 0, .int .i64 0, .int .i64 0, .int .i64 0, .int .i64 0, .int .i64 0, .int .i64 0, .int .i64 0, .int .i64 0, .int .i64 0, .int .i64 0, .int .i64 0, .int .i64 0, .int .i64 0, .int .i64 0, .int .i64 0, .int .i64 0, .int .i64 0, .int .i64 0, .int .i64 0, .int .i64 0, .int .i64 0, .int .i64 0, .int .i64 0, .int .i64 0, .int .i64 0, .int .i64 0, .int .i64 0, .int .i64 0, .int .i64 0, .int .i64 0, .int .i64 0, .int .i64 0, .int .i64 0, .int .i64 0, .int .i64 0, .int .i64 0, .int .i64 0, .int .i64 0, .int .i64 0, .int .i64 0, .int .i64 0, .int .i64 0, .int .i64 0, .int .i64 0, .int .i64 0, .int .i64 0, .int .i64 0, .int .i64 0, .int .i64 0, .int .i64 0, .int .i64 0, .int .i64 0, .int .i64 0, .int .i64 0, .int .i64 0, .int .i64 0, .int .i64 0, .int .i64 0] 114)).alloc (.cells #[.int .i64 0, .int .i64 0, .int .i64 0, .int .i64 0, .int .i64 0, .int .i64 0, .int .i64 0, .int .i64 0, .int .i64 0, .int .i64 0, .int .i64 0, .int .i64 0, .int .i64 0, .int .i64 0, .int .i64 0, .int .i64 0, .int .i64 0, .int .i64 0, .int .i64 0, .int .i64 0, .int .i64 0, .int .i64 0, .int .i64 0, .int .i64 0, .int .i64 0, .int .i64 0, .int .i64 0, .int .i64 0, .int .i64 0, .int .i64 0, .int .i64 0, .int .i64 0, .int .i64 0, .int .i64 0, .int .i64 0, .int .i64 0, .int .i64 0, .int .i64 0, .int .i64 0, .int .i64 0, .int .i64 0, .int .i64 0, .int .i64 0, .int .i64 0, .int .i64 0, .int .i64 0, .int .i64 0, .int .i64 0, .int .i64 0, .int .i64 0, .int .i64 0, .int .i64 0, .int .i64 0, .int .i64 0, .int .i64 0, .int .i64 0, .int .i64 0, .int .i64 0, .int .i64 0, .int .i64 0] 114)) := hb1.trans (hbv'.mono (by omega))
  have d0 := (hbv'.cell (p := ⟨w.heap.size, 0, none⟩) (by show w.heap.size < _; omega)).trans c0
  have d1 := (hbv'.cell (p := ⟨w.heap.size, 1, none⟩) (by show w.heap.size < _; omega)).trans c1
  have d2 := (hbv'.cell (p := ⟨w.heap.size, 2, none⟩) (by show w.heap.size < _; omega)).trans c2
  have hO0 : Sm20 (((w.alloc (.cells #[.int .i64 0, .int .i64 p, .int .i64 b] 85)).alloc (.cells #[.int .i64 0, .int .i64 0, .int .i64 0, .int .i64 0, .int .i64 0, .int .i64 0, .int .i64 0, .int .i64 0, .int .i64 0, .int .i64 0, .int .i64 0, .int .i64 0, .int .i64 0, .int .i64 0, .int .i64 0, .int .i64 0, .int .i64 0, .int .i64 0, .int .i64 0, .int .i64 0, .int .i64 0, .int .i64 0, .int .i64 0, .int .i64 0, .int .i64 0, .int .i64 0, .int .i64 0, .int .i64 0, .int .i64 0, .int .i64 0, .int .i64 0, .int .i64 0, .int .i64 0, .int .i64 0, .int .i64 0, .int .i64 0, .int .i64 0, .int .i64 0, .int .i64 0, .int .i64 0, .int .i64 0, .int .i64 0, .int .i64 0, .int .i64 0, .int .i64 0, .int .i64 0, .int .i64 0, .int .i64 0, .int .i64 0, .int .i64 0, .int .i64 0, .int .i64 0, .int .i64 0, .int .i64 0, .int .i64 0, .int .i64 0, .int .i64 0, .int .i64 0, .int .i64 0, .int .i64 0] 114)).alloc (.cells #[.int .i64 0, .int .i64 0, .int .i64 0, .int .i64 0, .int .i64 0, .int .i64 0, .int .i64 0, .int .i64 0, .int .i64 0, .int .i64 0, .int .i64 0, .int .i64 0, .int .i64 0, .int .i64 0, .int .i64 0, .int .i64 0, .int .i64 0, .int .i64 0, .int .i64 0, .int .i64 0, .int .i64 0, .int .i64 0, .int .i64 0, .int .i64 0, .int .i64 0, .int .i64 0, .int .i64 0, .int .i64 0, .int .i64 0, .int .i64 0, .int .i64 0, .int .i64 0, .int .i64 0, .int .i64 0, .int .i64 0, .int .i64 0, .int .i64 0, .int .i64 0, .int .i64 0, .int .i64 0, .int .i64 0, .int .i64 0, .int .i64 0, .int .i64 0, .int .i64 0, .int .i64 0, .int .i64 0, .int .i64 0, .int .i64 0, .int .i64 0, .int .i64 0, .int .i64 0, .int .i64 0, .int .i64 0, .int .i64 0, .int .i64 0, .int .i64 0, .int .i64 0, .int .i64 0, .int .i64 0] 114)) (w.heap.size + 1 + 1) (smF (bf p b xs) (mgX xs) 0) := by
    have h := sm_start ((w.alloc (.cells #[.int .i64 0, .int .i64 p, .int .i64 b] 85)).alloc (.cells #[.int .i64 0, .int .i64 0, .int .i64 0, .int .i64 0, .int .i64 0, .int .i64 0, .int .i64 0, .int .i64 0, .int .i64 0, .int .i64 0, .int .i64 0, .int .i64 0, .int .i64 0, .int .i64 0, .int .i64 0, .int .i64 0, .int .i64 0, .int .i64 0, .int .i64 0, .int .i64 0, .int .i64 0, .int .i64 0, .int .i64 0, .int .i64 0, .int .i64 0, .int .i64 0, .int .i64 0, .int .i64 0, .int .i64 0, .int .i64 0, .int .i64 0, .int .i64 0, .int .i64 0, .int .i64 0, .int .i64 0, .int .i64 0, .int .i64 0, .int .i64 0, .int .i64 0, .int .i64 0, .int .i64 0, .int .i64 0, .int .i64 0, .int .i64 0, .int .i64 0, .int .i64 0, .int .i64 0, .int .i64 0, .int .i64 0, .int .i64 0, .int .i64 0, .int .i64 0, .int .i64 0, .int .i64 0, .int .i64 0, .int .i64 0, .int .i64 0, .int .i64 0, .int .i64 0, .int .i64 0] 114)) 114
    rw [show ((w.alloc (.cells #[.int .i64 0, .int .i64 p, .int .i64 b] 85)).alloc (.cells #[.int .i64 0, .int .i64 0, .int .i64 0, .int .i64 0, .int .i64 0, .int .i64 0, .int .i64 0, .int .i64 0, .int .i64 0, .int .i64 0, .int .i64 0, .int .i64 0, .int .i64 0, .int .i64 0, .int .i64 0, .int .i64 0, .int .i64 0, .int .i64 0, .int .i64 0, .int .i64 0, .int .i64 0, .int .i64 0, .int .i64 0, .int .i64 0, .int .i64 0, .int .i64 0, .int .i64 0, .int .i64 0, .int .i64 0, .int .i64 0, .int .i64 0, .int .i64 0, .int .i64 0, .int .i64 0, .int .i64 0, .int .i64 0, .int .i64 0, .int .i64 0, .int .i64 0, .int .i64 0, .int .i64 0, .int .i64 0, .int .i64 0, .int .i64 0, .int .i64 0, .int .i64 0, .int .i64 0, .int .i64 0, .int .i64 0, .int .i64 0, .int .i64 0, .int .i64 0, .int .i64 0, .int .i64 0, .int .i64 0, .int .i64 0, .int .i64 0, .int .i64 0, .int .i64 0, .int .i64 0] 114)).heap.size = w.heap.size + 1 + 1 by simp] at h
    exact h.congr fun i _ => smF_start _ _ i
  have hT0 : (World.there (((w.alloc (.cells #[.int .i64 0, .int .i64 p, .int .i64 b] 85)).alloc (.cells #[.int .i64 0, .int .i64 0, .int .i64 0, .int .i64 0, .int .i64 0, .int .i64 0, .int .i64 0, .int .i64 0, .int .i64 0, .int .i64 0, .int .i64 0, .int .i64 0, .int .i64 0, .int .i64 0, .int .i64 0, .int .i64 0, .int .i64 0, .int .i64 0, .int .i64 0, .int .i64 0, .int .i64 0, .int .i64 0, .int .i64 0, .int .i64 0, .int .i64 0, .int .i64 0, .int .i64 0, .int .i64 0, .int .i64 0, .int .i64 0, .int .i64 0, .int .i64 0, .int .i64 0, .int .i64 0, .int .i64 0, .int .i64 0, .int .i64 0, .int .i64 0, .int .i64 0, .int .i64 0, .int .i64 0, .int .i64 0, .int .i64 0, .int .i64 0, .int .i64 0, .int .i64 0, .int .i64 0, .int .i64 0, .int .i64 0, .int .i64 0, .int .i64 0, .int .i64 0, .int .i64 0, .int .i64 0, .int .i64 0, .int .i64 0, .int .i64 0, .int .i64 0, .int .i64 0, .int .i64 0] 114)).alloc (.cells #[.int .i64 0, .int .i64 0, .int .i64 0, .int .i64 0, .int .i64 0, .int .i64 0, .int .i64 0, .int .i64 0, .int .i64 0, .int .i64 0, .int .i64 0, .int .i64 0, .int .i64 0, .int .i64 0, .int .i64 0, .int .i64 0, .int .i64 0, .int .i64 0, .int .i64 0, .int .i64 0, .int .i64 0, .int .i64 0, .int .i64 0, .int .i64 0, .int .i64 0, .int .i64 0, .int .i64 0, .int .i64 0, .int .i64 0, .int .i64 0, .int .i64 0, .int .i64 0, .int .i64 0, .int .i64 0, .int .i64 0, .int .i64 0, .int .i64 0, .int .i64 0, .int .i64 0, .int .i64 0, .int .i64 0, .int .i64 0, .int .i64 0, .int .i64 0, .int .i64 0, .int .i64 0, .int .i64 0, .int .i64 0, .int .i64 0, .int .i64 0, .int .i64 0, .int .i64 0, .int .i64 0, .int .i64 0, .int .i64 0, .int .i64 0, .int .i64 0, .int .i64 0, .int .i64 0, .int .i64 0] 114)) (w.heap.size + 1) 0 60) := by
    have h := there_st (w.alloc (.cells #[.int .i64 0, .int .i64 p, .int .i64 b] 85)) 114
    rw [show (w.alloc (.cells #[.int .i64 0, .int .i64 p, .int .i64 b] 85)).heap.size = w.heap.size + 1 by simp] at h
    intro j hj
    have hbb : Below (w.heap.size + 1 + 1) ((w.alloc (.cells #[.int .i64 0, .int .i64 p, .int .i64 b] 85)).alloc (.cells #[.int .i64 0, .int .i64 0, .int .i64 0, .int .i64 0, .int .i64 0, .int .i64 0, .int .i64 0, .int .i64 0, .int .i64 0, .int .i64 0, .int .i64 0, .int .i64 0, .int .i64 0, .int .i64 0, .int .i64 0, .int .i64 0, .int .i64 0, .int .i64 0, .int .i64 0, .int .i64 0, .int .i64 0, .int .i64 0, .int .i64 0, .int .i64 0, .int .i64 0, .int .i64 0, .int .i64 0, .int .i64 0, .int .i64 0, .int .i64 0, .int .i64 0, .int .i64 0, .int .i64 0, .int .i64 0, .int .i64 0, .int .i64 0, .int .i64 0, .int .i64 0, .int .i64 0, .int .i64 0, .int .i64 0, .int .i64 0, .int .i64 0, .int .i64 0, .int .i64 0, .int .i64 0, .int .i64 0, .int .i64 0, .int .i64 0, .int .i64 0, .int .i64 0, .int .i64 0, .int .i64 0, .int .i64 0, .int .i64 0, .int .i64 0, .int .i64 0, .int .i64 0, .int .i64 0, .int .i64 0] 114)) (((w.alloc (.cells #[.int .i64 0, .int .i64 p, .int .i64 b] 85)).alloc (.cells #[.int .i64 0, .int .i64 0, .int .i64 0, .int .i64 0, .int .i64 0, .int .i64 0, .int .i64 0, .int .i64 0, .int .i64 0, .int .i64 0, .int .i64 0, .int .i64 0, .int .i64 0, .int .i64 0, .int .i64 0, .int .i64 0, .int .i64 0, .int .i64 0, .int .i64 0, .int .i64 0, .int .i64 0, .int .i64 0, .int .i64 0, .int .i64 0, .int .i64 0, .int .i64 0, .int .i64 0, .int .i64 0, .int .i64 0, .int .i64 0, .int .i64 0, .int .i64 0, .int .i64 0, .int .i64 0, .int .i64 0, .int .i64 0, .int .i64 0, .int .i64 0, .int .i64 0, .int .i64 0, .int .i64 0, .int .i64 0, .int .i64 0, .int .i64 0, .int .i64 0, .int .i64 0, .int .i64 0, .int .i64 0, .int .i64 0, .int .i64 0, .int .i64 0, .int .i64 0, .int .i64 0, .int .i64 0, .int .i64 0, .int .i64 0, .int .i64 0, .int .i64 0, .int .i64 0, .int .i64 0] 114)).alloc (.cells #[.int .i64 0, .int .i64 0, .int .i64 0, .int .i64 0, .int .i64 0, .int .i64 0, .int .i64 0, .int .i64 0, .int .i64 0, .int .i64 0, .int .i64 0, .int .i64 0, .int .i64 0, .int .i64 0, .int .i64 0, .int .i64 0, .int .i64 0, .int .i64 0, .int .i64 0, .int .i64 0, .int .i64 0, .int .i64 0, .int .i64 0, .int .i64 0, .int .i64 0, .int .i64 0, .int .i64 0, .int .i64 0, .int .i64 0, .int .i64 0, .int .i64 0, .int .i64 0, .int .i64 0, .int .i64 0, .int .i64 0, .int .i64 0, .int .i64 0, .int .i64 0, .int .i64 0, .int .i64 0, .int .i64 0, .int .i64 0, .int .i64 0, .int .i64 0, .int .i64 0, .int .i64 0, .int .i64 0, .int .i64 0, .int .i64 0, .int .i64 0, .int .i64 0, .int .i64 0, .int .i64 0, .int .i64 0, .int .i64 0, .int .i64 0, .int .i64 0, .int .i64 0, .int .i64 0, .int .i64 0] 114)) := (Below.refl _ _).alloc (by simp) _
    rw [hbb.cell (p := ⟨w.heap.size + 1, 0 + j, none⟩) (by show w.heap.size + 1 < _; omega), hbb.frozen (p := ⟨w.heap.size + 1, 0 + j, none⟩) (by show w.heap.size + 1 < _; omega)]
    exact h j hj
  have hsv : w.heap.size + 1 + 1 < (World.heap (((w.alloc (.cells #[.int .i64 0, .int .i64 p, .int .i64 b] 85)).alloc (.cells #[.int .i64 0, .int .i64 0, .int .i64 0, .int .i64 0, .int .i64 0, .int .i64 0, .int .i64 0, .int .i64 0, .int .i64 0, .int .i64 0, .int .i64 0, .int .i64 0, .int .i64 0, .int .i64 0, .int .i64 0, .int .i64 0, .int .i64 0, .int .i64 0, .int .i64 0, .int .i64 0, .int .i64 0, .int .i64 0, .int .i64 0, .int .i64 0, .int .i64 0, .int .i64 0, .int .i64 0, .int .i64 0, .int .i64 0, .int .i64 0, .int .i64 0, .int .i64 0, .int .i64 0, .int .i64 0, .int .i64 0, .int .i64 0, .int .i64 0, .int .i64 0, .int .i64 0, .int .i64 0, .int .i64 0, .int .i64 0, .int .i64 0, .int .i64 0, .int .i64 0, .int .i64 0, .int .i64 0, .int .i64 0, .int .i64 0, .int .i64 0, .int .i64 0, .int .i64 0, .int .i64 0, .int .i64 0, .int .i64 0, .int .i64 0, .int .i64 0, .int .i64 0, .int .i64 0, .int .i64 0] 114)).alloc (.cells #[.int .i64 0, .int .i64 0, .int .i64 0, .int .i64 0, .int .i64 0, .int .i64 0, .int .i64 0, .int .i64 0, .int .i64 0, .int .i64 0, .int .i64 0, .int .i64 0, .int .i64 0, .int .i64 0, .int .i64 0, .int .i64 0, .int .i64 0, .int .i64 0, .int .i64 0, .int .i64 0, .int .i64 0, .int .i64 0, .int .i64 0, .int .i64 0, .int .i64 0, .int .i64 0, .int .i64 0, .int .i64 0, .int .i64 0, .int .i64 0, .int .i64 0, .int .i64 0, .int .i64 0, .int .i64 0, .int .i64 0, .int .i64 0, .int .i64 0, .int .i64 0, .int .i64 0, .int .i64 0, .int .i64 0, .int .i64 0, .int .i64 0, .int .i64 0, .int .i64 0, .int .i64 0, .int .i64 0, .int .i64 0, .int .i64 0, .int .i64 0, .int .i64 0, .int .i64 0, .int .i64 0, .int .i64 0, .int .i64 0, .int .i64 0, .int .i64 0, .int .i64 0, .int .i64 0, .int .i64 0] 114))).size := by simp
  clear c0 c1 c2 hb1 hbv' hok hbd
  go_enter Try.func108, Try.ntmps108
  go_wp2
  generalize (((w.alloc (.cells #[.int .i64 0, .int .i64 p, .int .i64 b] 85)).alloc (.cells #[.int .i64 0, .int .i64 0, .int .i64 0, .int .i64 0, .int .i64 0, .int .i64 0, .int .i64 0, .int .i64 0, .int .i64 0, .int .i64 0, .int .i64 0, .int .i64 0, .int .i64 0, .int .i64 0, .int .i64 0, .int .i64 0, .int .i64 0, .int .i64 0, .int .i64 0, .int .i64 0, .int .i64 0, .int .i64 0, .int .i64 0, .int .i64 0, .int .i64 0, .int .i64 0, .int .i64 0, .int .i64 0, .int .i64 0, .int .i64 0, .int .i64 0, .int .i64 0, .int .i64 0, .int .i64 0, .int .i64 0, .int .i64 0, .int .i64 0, .int .i64 0, .int .i64 0, .int .i64 0, .int .i64 0, .int .i64 0, .int .i64 0, .int .i64 0, .int .i64 0, .int .i64 0, .int .i64 0, .int .i64 0, .int .i64 0, .int .i64 0, .int .i64 0, .int .i64 0, .int .i64 0, .int .i64 0, .int .i64 0, .int .i64 0, .int .i64 0, .int .i64 0, .int .i64 0, .int .i64 0] 114)).alloc (.cells #[.int .i64 0, .int .i64 0, .int .i64 0, .int .i64 0, .int .i64 0, .int .i64 0, .int .i64 0, .int .i64 0, .int .i64 0, .int .i64 0, .int .i64 0, .int .i64 0, .int .i64 0, .int .i64 0, .int .i64 0, .int .i64 0, .int .i64 0, .int .i64 0, .int .i64 0, .int .i64 0, .int .i64 0, .int .i64 0, .int .i64 0, .int .i64 0, .int .i64 0, .int .i64 0, .int .i64 0, .int .i64 0, .int .i64 0, .int .i64 0, .int .i64 0, .int .i64 0, .int .i64 0, .int .i64 0, .int .i64 0, .int .i64 0, .int .i64 0, .int .i64 0, .int .i64 0, .int .i64 0, .int .i64 0, .int .i64 0, .int .i64 0, .int .i64 0, .int .i64 0, .int .i64 0, .int .i64 0, .int .i64 0, .int .i64 0, .int .i64 0, .int .i64 0, .int .i64 0, .int .i64 0, .int .i64 0, .int .i64 0, .int .i64 0, .int .i64 0, .int .i64 0, .int .i64 0, .int .i64 0] 114)) = v at hbv d0 d1 d2 hO0 hT0 hsv ⊢
  have hv := h.mono hbv
  obtain ⟨G, hG⟩ : ∃ G, w.heap.size + 1 + 1 = G := ⟨_, rfl⟩
  rw [hG] at hO0 hsv ⊢
  have hwG : w.heap.size + 1 < G := by omega
  have HG := Lib.hid hG
  clear hG
  go_loopw [11] (fun i wr => ∃ k : Nat, k ≤ n ∧ i = .int .i64 k ∧ Hid (Sm20 wr G (smF (bf p b xs) (mgX xs) k)) ∧ Below G v wr) (fun i _ => n - (Go.RowKit.intOf i).toNat)
  case atStart => exact ⟨0, Nat.zero_le _, rfl, Lib.hid hO0, Below.refl _ _⟩
  case round =>
    obtain ⟨k, hk, rfl, HO, hB⟩ := hrel
    have hsz := hB.size
    have e0 := (hB.cell (p := ⟨w.heap.size, 0, none⟩) (by show w.heap.size < _; omega)).trans d0
    have e1 := (hB.cell (p := ⟨w.heap.size, 1, none⟩) (by show w.heap.size < _; omega)).trans d1
    have e2 := (hB.cell (p := ⟨w.heap.size, 2, none⟩) (by show w.heap.size < _; omega)).trans d2
    by_cases hlt : k < n
    · obtain ⟨b1, o1, rfl, hc⟩ := h.2 k hlt
      have hkk : (k : Int) < (n : Int) := by omega
      have hbx := HBD.out k hlt
      obtain ⟨⟨x0, x1⟩, hx⟩ : ∃ x, xs[k]?.getD pt0 = x := ⟨_, rfl⟩
      have hmk : mgX xs k = x1 := by rw [mgX, hx]
      have hbn := bf_is h3 h7 hx
      rw [hx] at hc hbx
      simp only at hbx hbn
      have hb1w := hc.1
      obtain ⟨-, p0, p1⟩ := ((hc.mono hbv).of_block hsz (hB.block b1 (by omega))).parts
      have hbl := bf_lt h3 h7 xs (K := 20) (by omega) k
      have s1 := bCN_bd (bf p b xs) (bf p b xs k) k
      have s2 := bCS_bd (B := bf p b xs) (b := bf p b xs k) HMB.out k hk
      have s3 := bCQ_bd (B := bf p b xs) (b := bf p b xs k) HMB.out k hk
      have hOx := HO.out
      have c0 := hOx.cell (bf p b xs k * 3) (by omega)
      have c1 := hOx.cell (bf p b xs k * 3 + 1) (by omega)
      have c2 := hOx.cell (bf p b xs k * 3 + 2) (by omega)
      have z0 := hOx.free (bf p b xs k * 3) (by omega)
      have z1 := hOx.free (bf p b xs k * 3 + 1) (by omega)
      have z2 := hOx.free (bf p b xs k * 3 + 2) (by omega)
      rw [smF_0] at c0
      rw [smF_1] at c1
      rw [smF_2] at c2
      have HST : ∀ (q : Nat), bf p b xs k = q → ∀ i, i < 60 → smF (bf p b xs) (mgX xs) (k + 1) i = (if i = q * 3 then bCN (bf p b xs) q k + 1 else if i = q * 3 + 1 then bCS (bf p b xs) (mgX xs) q k + x1 else if i = q * 3 + 2 then bCQ (bf p b xs) (mgX xs) q k + x1 * x1 else smF (bf p b xs) (mgX xs) k i) := fun q hq i _ => by
        by_cases a0 : i = q * 3
        · subst a0; rw [if_pos rfl, smF_0, bCN_yes hq]
        by_cases a1 : i = q * 3 + 1
        · subst a1; rw [if_neg (by omega), if_pos rfl, smF_1, bCS_yes hq, hmk]
        by_cases a2 : i = q * 3 + 2
        · subst a2; rw [if_neg (by omega), if_neg (by omega), if_pos rfl, smF_2, bCQ_yes hq, hmk]
        · rw [if_neg a0, if_neg a1, if_neg a2, smF_other hq (by omega)]
      obtain ⟨q, hq⟩ : ∃ q, bf p b xs k = q := ⟨_, rfl⟩
      have HSF := Lib.hid (HST q hq)
      rw [hq] at hbn hbl s1 s2 s3 c0 c1 c2 z0 z1 z2
      obtain ⟨C, hC⟩ : ∃ C, bCN (bf p b xs) q k = C := ⟨_, rfl⟩
      obtain ⟨S, hS⟩ : ∃ C, bCS (bf p b xs) (mgX xs) q k = C := ⟨_, rfl⟩
      obtain ⟨Q, hQ⟩ : ∃ C, bCQ (bf p b xs) (mgX xs) q k = C := ⟨_, rfl⟩
      rw [hC] at s1 c0 HSF
      rw [hS] at s2 c1 HSF
      rw [hQ] at s3 c2 HSF
      have HBN := Lib.hid hbn
      have hGlt := hOx.lt
      have hlw : w.heap.size < wr.heap.size := by omega
      have hq20z : (q : Int) < 20 := by omega
      clear HST hc hx hbn hq hC hS hQ hOx hmk
      go_wp2_with fail
      refine (binOf_any 0 p b x0 _ (by omega) (by omega) h3 h4 (by omega) (by omega) h7 (by omega)).mono ?_
      rintro x w5 ⟨rfl, b5⟩
      rw [HBN.out]
      have hs5 := b5.size
      simp only [World.size_alloc] at hs5
      have D5 : Below wr.heap.size wr w5 := belowCall ((Below.refl _ _).alloc (Nat.le_refl _) _) b5
      have g0 := (D5.cell (p := ⟨G, q * 3, none⟩) hGlt).trans c0
      have g1 := (D5.cell (p := ⟨G, q * 3 + 1, none⟩) hGlt).trans c1
      have g2 := (D5.cell (p := ⟨G, q * 3 + 2, none⟩) hGlt).trans c2
      have f0 := (D5.frozen (p := ⟨G, q * 3, none⟩) hGlt).trans z0
      have f1 := (D5.frozen (p := ⟨G, q * 3 + 1, none⟩) hGlt).trans z1
      have f2 := (D5.frozen (p := ⟨G, q * 3 + 2, none⟩) hGlt).trans z2
      have t1 : w5.cell? ⟨wr.heap.size, 1, none⟩ = some (.int .i64 x1) := by rw [b5.cell (p := ⟨wr.heap.size, 1, none⟩) (by simp)]; go_keep
      have hGw5 : G < w5.heap.size := by omega
      have hrw5 : wr.heap.size < w5.heap.size := by omega
      have hq0 : (0 : Int) ≤ (q : Int) := by omega
      clear b5 c0 c1 c2 z0 z1 z2
      go_wp2_with fail
      go_region_with (first | (go_at_call 113; refine (with_any C S Q x1 _ (by omega) (by omega) (by omega) (by omega) (by omega) (by omega) (by omega) (by omega)).mono ?_; rintro x w7 ⟨rfl, b7⟩; have D7 : Below w5.heap.size w5 w7 := belowCall (Below.drew (Below.refl _ _)) b7; have e0 := (D7.cell (p := ⟨G, q * 3, none⟩) hGw5).trans g0; have e1 := (D7.cell (p := ⟨G, q * 3 + 1, none⟩) hGw5).trans g1; have e2 := (D7.cell (p := ⟨G, q * 3 + 2, none⟩) hGw5).trans g2; have h0 := (D7.frozen (p := ⟨G, q * 3, none⟩) hGw5).trans f0; have h1' := (D7.frozen (p := ⟨G, q * 3 + 1, none⟩) hGw5).trans f1; have h2' := (D7.frozen (p := ⟨G, q * 3 + 2, none⟩) hGw5).trans f2))
      all_goals
        have D7' : Below wr.heap.size wr w7 := D5.trans (D7.mono (by omega))
        have HN : Hid (Sm20 (((w7.setCell ⟨G, q * 3, none⟩ (.int .i64 (C + 1))).setCell ⟨G, q * 3 + 1, none⟩ (.int .i64 (S + x1))).setCell ⟨G, q * 3 + 2, none⟩ (.int .i64 (Q + x1 * x1))) G (smF (bf p b xs) (mgX xs) (k + 1))) := Lib.hid (((HO.out.mono D7').put _ _ _).congr HSF.out)
        have hBn : Below G v (((w7.setCell ⟨G, q * 3, none⟩ (.int .i64 (C + 1))).setCell ⟨G, q * 3 + 1, none⟩ (.int .i64 (S + x1))).setCell ⟨G, q * 3 + 2, none⟩ (.int .i64 (Q + x1 * x1))) := Below.setCell (Below.setCell (Below.setCell (hB.trans (D7'.mono (by omega))) (Nat.le_refl _) _) (Nat.le_refl _) _) (Nat.le_refl _) _
        go_wp2
        go_roundw
        case rel => exact ⟨k + 1, by omega, by go_num, HN, hBn⟩
        case measure => simp [Go.RowKit.intOf]; omega
    · obtain rfl : k = n := by omega
      obtain ⟨F, hF⟩ : ∃ F, smF (bf p b xs) (mgX xs) k = F := ⟨_, rfl⟩
      rw [hF] at HO
      have HFF := Lib.hid hF
      clear hF
      have hTw : wr.there (w.heap.size + 1) 0 60 := fun j hj => by
        rw [hB.cell (p := ⟨w.heap.size + 1, 0 + j, none⟩) (by show w.heap.size + 1 < _; omega), hB.frozen (p := ⟨w.heap.size + 1, 0 + j, none⟩) (by show w.heap.size + 1 < _; omega)]
        exact hT0 j hj
      have hinf : (Try.prog.info? 114).map (·.size) = some (arrS F).length := by rw [arrS_len]; exact arrS_info
      have hinf' : (Try.prog.info? 114).map (·.size) = some (arrS F).toArray.size := by rw [List.size_toArray]; exact hinf
      have hTw' : wr.there (w.heap.size + 1) 0 (arrS F).toArray.size := by
        have e : (arrS F).toArray.size = 60 := by rw [List.size_toArray]; exact arrS_len F
        rw [e]; exact hTw
      have hrg : (wr.setCells (w.heap.size + 1) 0 (arrS F)).rangeAt (w.heap.size + 1) 0 (arrS F) := World.rangeAt_setCells_same _ _ _ _ (by rw [arrS_len]; exact hTw)
      have hrr := run_loadVar_mid (P := Try.prog) (wr.setCells (w.heap.size + 1) 0 (arrS F)) (w.heap.size + 1) 0 114 (arrS F) _ hrg Try.underlying114 rfl hinf
      have hBE : Below w.heap.size w (wr.setCells (w.heap.size + 1) 0 (arrS F)) := belSets (by omega) _ _ _ (hbv.trans (hB.mono (by omega)))
      have HRR := Lib.hid hrr
      have HOO := Lib.hid (arrS_one F)
      have HRA := Lib.hid HO.out.range
      clear hrg hrr hT0
      go_upto_region 8 with fail
      refine wp_region_lit ?_
      refine wpList_load_mid rfl 114 _ rfl G 0 rfl (arrS F) _ HRA.out Try.underlying114 rfl hinf ?_
      go_simp
      refine wpList_store_mid rfl 114 _ _ rfl (w.heap.size + 1) 0 (arrS F).toArray rfl rfl hTw' hinf' HOO.out ?_
      go_simp
      clear hinf hinf' hTw hTw' HBD HOO HRA HO d0 d1 d2 e0 e1 e2 hB hsz hbv hv h
      generalize wr.setCells (w.heap.size + 1) 0 (arrS F) = wE at HRR hBE ⊢
      generalize hAV : (arrS F).toArray = VA at HRR ⊢
      have HAV := Lib.hid hAV
      clear hAV
      go_wp2
      rw [← HAV.out]
      rw [← HAV.out] at HRR
      exact bodyPost_ret (v := .agg (arrS F).toArray) (by simp [results, Try.results108, asAddr, HRR.out]) rfl ⟨by rw [HFF.out], hBE⟩
end Go.Proofs.Ytcjipmpccmppiaa
