/- Slices of plotBox: what a law is told of one that came in; the laws' sizes, copying and comparing (by gen.py). -/
import Derived.Test.YtfabpcdeppfmdaaDoorGBq1
import Derived.Deep.RegionHeld3
namespace Go.Proofs.YtfabpcdeppfmdaaDoor
open Go.ChangeShapes Go.WideShapes Go.ChangeAt Go.RowKit Go.Deep

def gdBq (x : Bq) : Prop := (Lit.int .i64 x.1).wf = true ∧ (Lit.int .i64 x.2.1).wf = true ∧ (Lit.int .i64 x.2.2.1).wf = true ∧ (Lit.int .i64 x.2.2.2).wf = true
section
variable {H : Type} {enc : TypeId × Value → H} {P : Program} {w : World} {base : Nat} {spare : Nat → Bool} {held : Bool}
theorem bq_of {e : TypeId} {f0 f1 f2 f3 : Field} {k : Nat} {cs : List Value} {x : DataW H × List MemPlace} (hs : P.underlying e = some (.struct #[f0, f1, f2, f3])) (hone : oneCellFields P #[f0, f1, f2, f3] = true) (hC : P.cellsOf e = 4)
    (u0 : P.underlying f0.type = some (.int .i64)) (u1 : P.underlying f1.type = some (.int .i64)) (u2 : P.underlying f2.type = some (.int .i64)) (u3 : P.underlying f3.type = some (.int .i64))
    (h : DataW.trod enc P w base spare held k e cs = some x) : ∃ x0 x1 x2 x3, cs = [.int .i64 x0, .int .i64 x1, .int .i64 x2, .int .i64 x3] ∧ (Lit.int .i64 x0).wf = true ∧ (Lit.int .i64 x1).wf = true ∧ (Lit.int .i64 x2).wf = true ∧ (Lit.int .i64 x3).wf = true := by
  obtain ⟨xs, k', _, _, hcl, hxl, hf⟩ := DataW.trod_struct hs h
  rw [hC] at hcl
  obtain ⟨o0, k0⟩ := hone_of hone 0 f0 rfl
  obtain ⟨o1, k1⟩ := hone_of hone 1 f1 rfl
  obtain ⟨o2, k2⟩ := hone_of hone 2 f2 rfl
  obtain ⟨o3, k3⟩ := hone_of hone 3 f3 rfl
  have t0 := hf 0 f0 rfl
  have t1 := hf 1 f1 rfl
  have t2 := hf 2 f2 rfl
  have t3 := hf 3 f3 rfl
  rw [o0, k0] at t0
  rw [o1, k1] at t1
  rw [o2, k2] at t2
  rw [o3, k3] at t3
  match cs, hcl, xs, hxl with
  | [c0, c1, c2, c3], _, [y0, y1, y2, y3], _ =>
    simp at t0 t1 t2 t3
    obtain ⟨x0, e0, _, w0⟩ := DataW.trod_int u0 t0
    obtain ⟨x1, e1, _, w1⟩ := DataW.trod_int u1 t1
    obtain ⟨x2, e2, _, w2⟩ := DataW.trod_int u2 t2
    obtain ⟨x3, e3, _, w3⟩ := DataW.trod_int u3 t3
    simp only [List.cons.injEq, and_true] at e0 e1 e2 e3
    subst e0 e1 e2 e3
    exact ⟨x0, x1, x2, x3, rfl, w0, w1, w2, w3⟩
theorem open_bq {r : Reach} {b0 : Nat} {e : TypeId} {f0 f1 f2 f3 : Field} {v : Value} {dd : DataW H} {p : List MemPlace} (hs : P.underlying e = some (.struct #[f0, f1, f2, f3])) (hone : oneCellFields P #[f0, f1, f2, f3] = true) (hC : P.cellsOf e = 4)
    (u0 : P.underlying f0.type = some (.int .i64)) (u1 : P.underlying f1.type = some (.int .i64)) (u2 : P.underlying f2.type = some (.int .i64)) (u3 : P.underlying f3.type = some (.int .i64))
    (hv : Value.okWide P w r b0 e v) (h : DataW.Trod enc P w base spare held e v dd p) : ∃ x0 x1 x2 x3, v = .agg #[.int .i64 x0, .int .i64 x1, .int .i64 x2, .int .i64 x3] ∧ (Lit.int .i64 x0).wf = true ∧ (Lit.int .i64 x1).wf = true ∧ (Lit.int .i64 x2).wf = true ∧ (Lit.int .i64 x3).wf = true := by
  obtain ⟨cs, rfl, _⟩ := okWide_struct hs hv
  obtain ⟨k, hk⟩ := h
  obtain ⟨x0, x1, x2, x3, hcs, rest⟩ := bq_of hs hone hC u0 u1 u2 u3 (show DataW.trod enc P w base spare held k e cs.toList = some (dd, p) from hk)
  refine ⟨x0, x1, x2, x3, ?_, rest⟩
  congr 1
  apply Array.toList_inj.1
  rw [hcs]
end

/-- the slice 'a, n' reads as xs -/
def BqL (w : World) (a : Option Addr) (n : Nat) (xs : List Bq) : Prop :=
  xs.length = n ∧ ∀ i, i < n → ∃ b off, a = some ⟨b, off, none⟩ ∧ BqC w b (off + i * 4) (xs[i]?.getD bq0)
theorem BqL.mono {w w' : World} {a : Option Addr} {n : Nat} {xs : List Bq} (h : BqL w a n xs) (hb : Below w.heap.size w w') : BqL w' a n xs :=
  ⟨h.1, fun i hi => by
    obtain ⟨b, off, e, hc⟩ := h.2 i hi
    exact ⟨b, off, e, hc.mono hb⟩⟩
theorem BqL.take {w : World} {a : Option Addr} {n k : Nat} {xs : List Bq} (h : BqL w a n xs) (hk : k ≤ n) : BqL w a k (xs.take k) := by
  refine ⟨by rw [List.length_take, h.1]; omega, fun i hi => ?_⟩
  obtain ⟨b, off, e, hc⟩ := h.2 i (by omega)
  refine ⟨b, off, e, ?_⟩
  rw [List.getElem?_take_of_lt hi]
  exact hc
theorem BqL.drop {w : World} {b off n k : Nat} {xs : List Bq} (h : BqL w (some ⟨b, off, none⟩) n xs) (hk : k ≤ n) : BqL w (some ⟨b, off + k * 4, none⟩) (n - k) (xs.drop k) := by
  refine ⟨by rw [List.length_drop, h.1], fun i hi => ?_⟩
  obtain ⟨b', off', e, hc⟩ := h.2 (k + i) (by omega)
  cases e
  refine ⟨b, off + k * 4, rfl, ?_⟩
  rw [List.getElem?_drop, show off + k * 4 + i * 4 = off + (k + i) * 4 from by omega]
  exact hc
/-- what a walk is told of a slice that came in -/
def IsBq (w : World) (a : Option Addr) (n cap : Nat) (xs : List Bq) : Prop := BqL w a n xs ∧ n ≤ maxLen ∧ cap ≤ maxLen ∧ ∀ x ∈ xs, gdBq x
theorem IsBq.mono {w w' : World} {a : Option Addr} {n cap : Nat} {xs : List Bq} (h : IsBq w a n cap xs) (hb : Below w.heap.size w w') : IsBq w' a n cap xs := ⟨h.1.mono hb, h.2⟩
theorem IsBq.at {w : World} {a : Option Addr} {n cap k : Nat} {xs : List Bq} (h : IsBq w a n cap xs) (hk : k < n) : gdBq (xs[k]?.getD bq0) := by
  have hkx : k < xs.length := by rw [h.1.1]; exact hk
  have := h.2.2.2 (xs[k]) (List.getElem_mem hkx)
  simpa [hkx] using this
theorem bqs_of {H : Type} {enc : TypeId × Value → H} {P : Program} {w : World} {base : Nat} {spare : Nat → Bool} {held : Bool} {t e : TypeId} {f0 f1 f2 f3 : Field} {k : Nat} {a : Option Addr} {n cap : Nat} {x : DataW H × List MemPlace}
    (ht : P.underlying t = some (.slice e)) (hs : P.underlying e = some (.struct #[f0, f1, f2, f3])) (hone : oneCellFields P #[f0, f1, f2, f3] = true) (hC : P.cellsOf e = 4)
    (u0 : P.underlying f0.type = some (.int .i64)) (u1 : P.underlying f1.type = some (.int .i64)) (u2 : P.underlying f2.type = some (.int .i64)) (u3 : P.underlying f3.type = some (.int .i64))
    (h : DataW.trod enc P w base spare held k t [.slice a n cap] = some x) : ∃ xs, IsBq w a n cap xs := by
  rcases open_slice ht h with ⟨hc, _⟩ | ⟨y, len, cap', m, k', D, Pl, hc, _, hl, hm, hmm, _, hi⟩
  · simp at hc
    obtain ⟨rfl, rfl, rfl⟩ := hc
    exact ⟨[], ⟨rfl, fun i hi => absurd hi (by omega)⟩, by unfold maxLen; omega, by unfold maxLen; omega, by simp⟩
  · simp at hc
    obtain ⟨rfl, rfl, rfl⟩ := hc
    have hlm : n ≤ m := by rw [hmm]; split <;> omega
    by_cases hn0 : n = 0
    · subst hn0
      exact ⟨[], ⟨rfl, fun i hi => absurd hi (by omega)⟩, by unfold maxLen; omega, hm, by simp⟩
    obtain ⟨b, off, spot⟩ := y
    obtain rfl : spot = none := by
      obtain ⟨cs, hcs, htr⟩ := hi 0 (by omega)
      rw [hC] at hcs
      obtain ⟨_, _, hat⟩ := World.cells?_some hcs
      obtain ⟨x0, x1, x2, x3, rfl, _⟩ := bq_of hs hone hC u0 u1 u2 u3 htr
      simpa [Addr.add] using World.cell?_spot (hat 0 (by omega))
    have each : ∀ i, i < n → ∃ q : Bq, BqC w b (off + i * 4) q ∧ gdBq q := by
      intro i hin
      obtain ⟨cs, hcs, htr⟩ := hi i (by omega)
      rw [hC] at hcs
      obtain ⟨_, _, hat⟩ := World.cells?_some hcs
      obtain ⟨x0, x1, x2, x3, rfl, hgd⟩ := bq_of hs hone hC u0 u1 u2 u3 htr
      have hat' : ∀ f, f < 4 → w.cell? ⟨b, off + i * 4 + f, none⟩ = [Value.int .i64 x0, .int .i64 x1, .int .i64 x2, .int .i64 x3][f]? := fun f hf => by
        have := hat f hf
        rwa [Go.WideShapes.add_plain, Go.WideShapes.add_plain] at this
      refine ⟨(x0, x1, x2, x3), ⟨cellLt (hat' 0 (by omega)), fun f hf => ?_⟩, hgd⟩
      rw [hat' f hf]
      match f, hf with
      | 0, _ => rfl
      | 1, _ => rfl
      | 2, _ => rfl
      | 3, _ => rfl
    obtain ⟨q, hq⟩ := choose_lt each
    refine ⟨(List.range n).map q, ⟨by simp, fun i hi => ⟨b, off, rfl, ?_⟩⟩, by omega, hm, fun x hx => ?_⟩
    · have := (hq i hi).1
      simpa [hi] using this
    · obtain ⟨i, hi, rfl⟩ := List.mem_map.1 hx
      exact (hq i (by simpa using hi)).2
def totBq (xs : List Bq) : Int := xs.length
theorem totBq_nonneg (xs : List Bq) : (xs.length : Int) ≤ totBq xs := Int.le_refl _
theorem sizeBq {xs : List Bq} {l : Int} (h : ¬ l < totBq xs) (hl : l ≤ 1048576) {n : Nat} (hn : xs.length = n) : n ≤ 1048576 := by have h1 := totBq_nonneg xs; omega
theorem Bq_info : (Tryd.prog.info? 70).map (fun i => (i.zero, i.size, i.bytes)) = some (some (.agg #[.int .i64 0, .int .i64 0, .int .i64 0, .int .i64 0]), 4, 32) := by kernel_rfl
/-- the first k of xs, then zero values, cell by cell -/
def colBq (xs : List Bq) (k j : Nat) : Value := if j < k * 4 then fldBq (xs[j / 4]?.getD bq0) (j % 4) else fldBq bq0 (j % 4)
theorem colBq_at {xs : List Bq} {k i f : Nat} (hi : i < k) (hf : f < 4) : colBq xs k (i * 4 + f) = fldBq (xs[i]?.getD bq0) f := by
  unfold colBq
  rw [if_pos (by omega), show (i * 4 + f) / 4 = i from by omega, show (i * 4 + f) % 4 = f from by omega]
theorem colBq_put {w : World} {g n k : Nat} {T : TypeId} {xs : List Bq} {x0 : Int} {x1 : Int} {x2 : Int} {x3 : Int} (h : w.rowIs g T n (colBq xs k)) (hx : xs[k]?.getD bq0 = (x0, x1, x2, x3)) :
    ((((w.setCell ⟨g, k * 4, none⟩ (.int .i64 x0)).setCell ⟨g, k * 4 + 1, none⟩ (.int .i64 x1)).setCell ⟨g, k * 4 + 2, none⟩ (.int .i64 x2)).setCell ⟨g, k * 4 + 3, none⟩ (.int .i64 x3)).rowIs g T n (colBq xs (k + 1)) := by
  refine ((((h.set (k * 4) (.int .i64 x0)).set (k * 4 + 1) (.int .i64 x1)).set (k * 4 + 2) (.int .i64 x2)).set (k * 4 + 3) (.int .i64 x3)).congr fun i _ => ?_
  by_cases h1 : i < k * 4
  · rw [if_neg (by omega), if_neg (by omega), if_neg (by omega), if_neg (by omega)]
    unfold colBq
    rw [if_pos h1, if_pos (by omega)]
  by_cases h2 : i < (k + 1) * 4
  · obtain ⟨f, hf, rfl⟩ : ∃ f, f < 4 ∧ i = k * 4 + f := ⟨i - k * 4, by omega, by omega⟩
    rw [show colBq xs (k + 1) (k * 4 + f) = fldBq (x0, x1, x2, x3) f from by rw [colBq_at (by omega) hf, hx]]
    match f, hf with
    | 0, _ => simp [fldBq]
    | 1, _ => simp [fldBq]
    | 2, _ => simp [fldBq]
    | 3, _ => simp [fldBq]
  · rw [if_neg (by omega), if_neg (by omega), if_neg (by omega), if_neg (by omega)]
    unfold colBq
    rw [if_neg h1, if_neg h2]
theorem BqL.of_row {w : World} {g : Nat} {T : TypeId} {xs : List Bq} {n : Nat} (hn : xs.length = n) (h : w.rowIs g T (n * 4) (colBq xs n)) : BqL w (some ⟨g, 0, none⟩) n xs :=
  ⟨hn, fun i hi => ⟨g, 0, rfl, h.lt, fun f hf => by
    rw [show 0 + i * 4 + f = i * 4 + f from by omega, h.cell (by omega), colBq_at hi hf]⟩⟩
theorem made_colBq (n : Nat) (j : Nat) (hj : j < n * 4) (xs : List Bq) : ((madeCells (Value.agg #[.int .i64 0, .int .i64 0, .int .i64 0, .int .i64 0]).cells (n * 4)).toList[j]?).getD (.bool false) = colBq xs 0 j := by
  have hj5 : j % 4 < 4 := by omega
  simp [madeCells, hj, Value.cells, colBq]
  match h : j % 4, hj5 with
  | 0, _ => rfl
  | 1, _ => rfl
  | 2, _ => rfl
  | 3, _ => rfl
end Go.Proofs.YtfabpcdeppfmdaaDoor
