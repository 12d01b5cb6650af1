/- Slices of Observer: what a law is told of one that came in; the laws' sizes, copying and comparing (by gen.py). -/
import Derived.Test.YtfnjndbnogeddaaGOb1
import Derived.Deep.RegionHeld3
namespace Go.Proofs.Ytfnjndbnogeddaa
open Go.ChangeShapes Go.WideShapes Go.ChangeAt Go.RowKit Go.Deep

def gdOb (x : Ob) : Prop := x.1.size ≤ maxLen ∧ (Lit.int .i64 x.2).wf = true
section
variable {H : Type} {enc : TypeId × Value → H} {P : Program} {w : World} {base : Nat} {spare : Nat → Bool} {held : Bool}
theorem ob_of {e : TypeId} {f0 f1 : Field} {k : Nat} {cs : List Value} {x : DataW H × List MemPlace} (hs : P.underlying e = some (.struct #[f0, f1])) (hone : oneCellFields P #[f0, f1] = true) (hC : P.cellsOf e = 2)
    (u0 : P.underlying f0.type = some .string) (u1 : P.underlying f1.type = some (.int .i64))
    (h : DataW.trod enc P w base spare held k e cs = some x) : ∃ x0 x1, cs = [.string x0, .int .i64 x1] ∧ x0.size ≤ maxLen ∧ (Lit.int .i64 x1).wf = true := by
  obtain ⟨xs, k', _, _, hcl, hxl, hf⟩ := DataW.trod_struct hs h
  rw [hC] at hcl
  obtain ⟨o0, k0⟩ := hone_of hone 0 f0 rfl
  obtain ⟨o1, k1⟩ := hone_of hone 1 f1 rfl
  have t0 := hf 0 f0 rfl
  have t1 := hf 1 f1 rfl
  rw [o0, k0] at t0
  rw [o1, k1] at t1
  match cs, hcl, xs, hxl with
  | [c0, c1], _, [y0, y1], _ =>
    simp at t0 t1
    obtain ⟨x0, e0, _, w0⟩ := DataW.trod_string u0 t0
    obtain ⟨x1, e1, _, w1⟩ := DataW.trod_int u1 t1
    simp only [List.cons.injEq, and_true] at e0 e1
    subst e0 e1
    exact ⟨x0, x1, rfl, w0, w1⟩
theorem open_ob {r : Reach} {b0 : Nat} {e : TypeId} {f0 f1 : Field} {v : Value} {dd : DataW H} {p : List MemPlace} (hs : P.underlying e = some (.struct #[f0, f1])) (hone : oneCellFields P #[f0, f1] = true) (hC : P.cellsOf e = 2)
    (u0 : P.underlying f0.type = some .string) (u1 : P.underlying f1.type = some (.int .i64))
    (hv : Value.okWide P w r b0 e v) (h : DataW.Trod enc P w base spare held e v dd p) : ∃ x0 x1, v = .agg #[.string x0, .int .i64 x1] ∧ x0.size ≤ maxLen ∧ (Lit.int .i64 x1).wf = true := by
  obtain ⟨cs, rfl, _⟩ := okWide_struct hs hv
  obtain ⟨k, hk⟩ := h
  obtain ⟨x0, x1, hcs, rest⟩ := ob_of hs hone hC u0 u1 (show DataW.trod enc P w base spare held k e cs.toList = some (dd, p) from hk)
  refine ⟨x0, x1, ?_, rest⟩
  congr 1
  apply Array.toList_inj.1
  rw [hcs]
end

/-- the slice 'a, n' reads as xs -/
def ObL (w : World) (a : Option Addr) (n : Nat) (xs : List Ob) : Prop :=
  xs.length = n ∧ ∀ i, i < n → ∃ b off, a = some ⟨b, off, none⟩ ∧ ObC w b (off + i * 2) (xs[i]?.getD ob0)
theorem ObL.mono {w w' : World} {a : Option Addr} {n : Nat} {xs : List Ob} (h : ObL w a n xs) (hb : Below w.heap.size w w') : ObL w' a n xs :=
  ⟨h.1, fun i hi => by
    obtain ⟨b, off, e, hc⟩ := h.2 i hi
    exact ⟨b, off, e, hc.mono hb⟩⟩
theorem ObL.take {w : World} {a : Option Addr} {n k : Nat} {xs : List Ob} (h : ObL w a n xs) (hk : k ≤ n) : ObL w a k (xs.take k) := by
  refine ⟨by rw [List.length_take, h.1]; omega, fun i hi => ?_⟩
  obtain ⟨b, off, e, hc⟩ := h.2 i (by omega)
  refine ⟨b, off, e, ?_⟩
  rw [List.getElem?_take_of_lt hi]
  exact hc
theorem ObL.drop {w : World} {b off n k : Nat} {xs : List Ob} (h : ObL w (some ⟨b, off, none⟩) n xs) (hk : k ≤ n) : ObL w (some ⟨b, off + k * 2, none⟩) (n - k) (xs.drop k) := by
  refine ⟨by rw [List.length_drop, h.1], fun i hi => ?_⟩
  obtain ⟨b', off', e, hc⟩ := h.2 (k + i) (by omega)
  cases e
  refine ⟨b, off + k * 2, rfl, ?_⟩
  rw [List.getElem?_drop, show off + k * 2 + i * 2 = off + (k + i) * 2 from by omega]
  exact hc
/-- what a walk is told of a slice that came in -/
def IsOb (w : World) (a : Option Addr) (n cap : Nat) (xs : List Ob) : Prop := ObL w a n xs ∧ n ≤ maxLen ∧ cap ≤ maxLen ∧ ∀ x ∈ xs, gdOb x
theorem IsOb.mono {w w' : World} {a : Option Addr} {n cap : Nat} {xs : List Ob} (h : IsOb w a n cap xs) (hb : Below w.heap.size w w') : IsOb w' a n cap xs := ⟨h.1.mono hb, h.2⟩
theorem IsOb.at {w : World} {a : Option Addr} {n cap k : Nat} {xs : List Ob} (h : IsOb w a n cap xs) (hk : k < n) : gdOb (xs[k]?.getD ob0) := by
  have hkx : k < xs.length := by rw [h.1.1]; exact hk
  have := h.2.2.2 (xs[k]) (List.getElem_mem hkx)
  simpa [hkx] using this
theorem obs_of {H : Type} {enc : TypeId × Value → H} {P : Program} {w : World} {base : Nat} {spare : Nat → Bool} {held : Bool} {t e : TypeId} {f0 f1 : Field} {k : Nat} {a : Option Addr} {n cap : Nat} {x : DataW H × List MemPlace}
    (ht : P.underlying t = some (.slice e)) (hs : P.underlying e = some (.struct #[f0, f1])) (hone : oneCellFields P #[f0, f1] = true) (hC : P.cellsOf e = 2)
    (u0 : P.underlying f0.type = some .string) (u1 : P.underlying f1.type = some (.int .i64))
    (h : DataW.trod enc P w base spare held k t [.slice a n cap] = some x) : ∃ xs, IsOb w a n cap xs := by
  rcases open_slice ht h with ⟨hc, _⟩ | ⟨y, len, cap', m, k', D, Pl, hc, _, hl, hm, hmm, _, hi⟩
  · simp at hc
    obtain ⟨rfl, rfl, rfl⟩ := hc
    exact ⟨[], ⟨rfl, fun i hi => absurd hi (by omega)⟩, by unfold maxLen; omega, by unfold maxLen; omega, by simp⟩
  · simp at hc
    obtain ⟨rfl, rfl, rfl⟩ := hc
    have hlm : n ≤ m := by rw [hmm]; split <;> omega
    by_cases hn0 : n = 0
    · subst hn0
      exact ⟨[], ⟨rfl, fun i hi => absurd hi (by omega)⟩, by unfold maxLen; omega, hm, by simp⟩
    obtain ⟨b, off, spot⟩ := y
    obtain rfl : spot = none := by
      obtain ⟨cs, hcs, htr⟩ := hi 0 (by omega)
      rw [hC] at hcs
      obtain ⟨_, _, hat⟩ := World.cells?_some hcs
      obtain ⟨x0, x1, rfl, _⟩ := ob_of hs hone hC u0 u1 htr
      simpa [Addr.add] using World.cell?_spot (hat 0 (by omega))
    have each : ∀ i, i < n → ∃ q : Ob, ObC w b (off + i * 2) q ∧ gdOb q := by
      intro i hin
      obtain ⟨cs, hcs, htr⟩ := hi i (by omega)
      rw [hC] at hcs
      obtain ⟨_, _, hat⟩ := World.cells?_some hcs
      obtain ⟨x0, x1, rfl, hgd⟩ := ob_of hs hone hC u0 u1 htr
      have hat' : ∀ f, f < 2 → w.cell? ⟨b, off + i * 2 + f, none⟩ = [Value.string x0, .int .i64 x1][f]? := fun f hf => by
        have := hat f hf
        rwa [Go.WideShapes.add_plain, Go.WideShapes.add_plain] at this
      refine ⟨(x0, x1), ⟨cellLt (hat' 0 (by omega)), fun f hf => ?_⟩, hgd⟩
      rw [hat' f hf]
      match f, hf with
      | 0, _ => rfl
      | 1, _ => rfl
    obtain ⟨q, hq⟩ := choose_lt each
    refine ⟨(List.range n).map q, ⟨by simp, fun i hi => ⟨b, off, rfl, ?_⟩⟩, by omega, hm, fun x hx => ?_⟩
    · have := (hq i hi).1
      simpa [hi] using this
    · obtain ⟨i, hi, rfl⟩ := List.mem_map.1 hx
      exact (hq i (by simpa using hi)).2
def sumOb (xs : List Ob) : Int := (xs.map fun x => (x.1.size : Int)).sum
def totOb (xs : List Ob) : Int := xs.length + sumOb xs
theorem sumOb_nonneg (xs : List Ob) : 0 ≤ sumOb xs := by
  induction xs with
  | nil => simp [sumOb]
  | cons x xs ih => simp only [sumOb, List.map_cons, List.sum_cons] at *; omega
theorem sumOb_app (xs ys : List Ob) : sumOb (xs ++ ys) = sumOb xs + sumOb ys := by simp [sumOb]
theorem sumOb_step {xs : List Ob} {k : Nat} (hk : k < xs.length) : sumOb (xs.take (k + 1)) = sumOb (xs.take k) + (((xs[k]?.getD ob0).1.size : Int)) := by
  rw [List.take_succ_eq_append_getElem hk, sumOb_app]
  simp [sumOb, hk]
theorem sumOb_take (xs : List Ob) (k : Nat) : sumOb (xs.take k) ≤ sumOb xs := by
  have h := sumOb_app (xs.take k) (xs.drop k)
  rw [List.take_append_drop] at h
  have := sumOb_nonneg (xs.drop k)
  omega
theorem totOb_nonneg (xs : List Ob) : (xs.length : Int) ≤ totOb xs := by have := sumOb_nonneg xs; unfold totOb; omega
theorem sizeOb {xs : List Ob} {l : Int} (h : ¬ l < totOb xs) (hl : l ≤ 1048576) {n : Nat} (hn : xs.length = n) : n ≤ 1048576 := by have h1 := totOb_nonneg xs; omega
/-- the first k of xs, then zero values, cell by cell -/
def colOb (xs : List Ob) (k j : Nat) : Value := if j < k * 2 then fldOb (xs[j / 2]?.getD ob0) (j % 2) else fldOb ob0 (j % 2)
theorem colOb_at {xs : List Ob} {k i f : Nat} (hi : i < k) (hf : f < 2) : colOb xs k (i * 2 + f) = fldOb (xs[i]?.getD ob0) f := by
  unfold colOb
  rw [if_pos (by omega), show (i * 2 + f) / 2 = i from by omega, show (i * 2 + f) % 2 = f from by omega]
theorem colOb_put {w : World} {g n k : Nat} {T : TypeId} {xs : List Ob} {x0 : ByteArray} {x1 : Int} (h : w.rowIs g T n (colOb xs k)) (hx : xs[k]?.getD ob0 = (x0, x1)) :
    ((w.setCell ⟨g, k * 2, none⟩ (.string x0)).setCell ⟨g, k * 2 + 1, none⟩ (.int .i64 x1)).rowIs g T n (colOb xs (k + 1)) := by
  refine ((h.set (k * 2) (.string x0)).set (k * 2 + 1) (.int .i64 x1)).congr fun i _ => ?_
  by_cases h1 : i < k * 2
  · rw [if_neg (by omega), if_neg (by omega)]
    unfold colOb
    rw [if_pos h1, if_pos (by omega)]
  by_cases h2 : i < (k + 1) * 2
  · obtain ⟨f, hf, rfl⟩ : ∃ f, f < 2 ∧ i = k * 2 + f := ⟨i - k * 2, by omega, by omega⟩
    rw [show colOb xs (k + 1) (k * 2 + f) = fldOb (x0, x1) f from by rw [colOb_at (by omega) hf, hx]]
    match f, hf with
    | 0, _ => simp [fldOb]
    | 1, _ => simp [fldOb]
  · rw [if_neg (by omega), if_neg (by omega)]
    unfold colOb
    rw [if_neg h1, if_neg h2]
theorem ObL.of_row {w : World} {g : Nat} {T : TypeId} {xs : List Ob} {n : Nat} (hn : xs.length = n) (h : w.rowIs g T (n * 2) (colOb xs n)) : ObL w (some ⟨g, 0, none⟩) n xs :=
  ⟨hn, fun i hi => ⟨g, 0, rfl, h.lt, fun f hf => by
    rw [show 0 + i * 2 + f = i * 2 + f from by omega, h.cell (by omega), colOb_at hi hf]⟩⟩
theorem made_colOb (n : Nat) (j : Nat) (hj : j < n * 2) (xs : List Ob) : ((madeCells (Value.agg #[.string ByteArray.empty, .int .i64 0]).cells (n * 2)).toList[j]?).getD (.bool false) = colOb xs 0 j := by
  have hj5 : j % 2 < 2 := by omega
  simp [madeCells, hj, Value.cells, colOb]
  match h : j % 2, hj5 with
  | 0, _ => rfl
  | 1, _ => rfl
end Go.Proofs.Ytfnjndbnogeddaa
