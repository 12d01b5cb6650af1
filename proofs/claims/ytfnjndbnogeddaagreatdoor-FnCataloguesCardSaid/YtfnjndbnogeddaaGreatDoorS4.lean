/- Slices of stars: what a law is told of one that came in; the laws' sizes, copying and comparing. -/
import Derived.Test.YtfnjndbnogeddaaGreatDoorST
import Derived.Deep.Slices
import Derived.Deep.Fields
import Derived.Deep.OwnRows
import Derived.ChangeSame
import Derived.OwnWalk
import Derived.Lib.SmallJoins
namespace Go.Proofs.YtfnjndbnogeddaaGreatDoor
open Go.ChangeShapes Go.WideShapes Go.ChangeAt Go.RowKit Go.Deep

section
variable {H : Type} {enc : TypeId × Value → H} {P : Program} {w : World} {base : Nat} {spare : Nat → Bool} {held : Bool}
/-- five one-cell fields, a string and four numbers: the cells of a star -/
theorem star_of {e : TypeId} {f0 f1 f2 f3 f4 : Field} {k : Nat} {cs : List Value} {x : DataW H × List MemPlace} (hs : P.underlying e = some (.struct #[f0, f1, f2, f3, f4])) (hone : oneCellFields P #[f0, f1, f2, f3, f4] = true) (hC : P.cellsOf e = 5)
    (u0 : P.underlying f0.type = some .string) (u1 : P.underlying f1.type = some (.int .i64)) (u2 : P.underlying f2.type = some (.int .i64)) (u3 : P.underlying f3.type = some (.int .i64)) (u4 : P.underlying f4.type = some (.int .i64))
    (h : DataW.trod enc P w base spare held k e cs = some x) : ∃ nm a d u v, cs = [.string nm, .int .i64 a, .int .i64 d, .int .i64 u, .int .i64 v] ∧ nm.size ≤ maxLen ∧ (Lit.int .i64 a).wf = true ∧ (Lit.int .i64 d).wf = true ∧ (Lit.int .i64 u).wf = true ∧ (Lit.int .i64 v).wf = true := by
  obtain ⟨xs, k', _, _, hcl, hxl, hf⟩ := DataW.trod_struct hs h
  rw [hC] at hcl
  obtain ⟨o0, k0⟩ := hone_of hone 0 f0 rfl
  obtain ⟨o1, k1⟩ := hone_of hone 1 f1 rfl
  obtain ⟨o2, k2⟩ := hone_of hone 2 f2 rfl
  obtain ⟨o3, k3⟩ := hone_of hone 3 f3 rfl
  obtain ⟨o4, k4⟩ := hone_of hone 4 f4 rfl
  have t0 := hf 0 f0 rfl
  have t1 := hf 1 f1 rfl
  have t2 := hf 2 f2 rfl
  have t3 := hf 3 f3 rfl
  have t4 := hf 4 f4 rfl
  rw [o0, k0] at t0
  rw [o1, k1] at t1
  rw [o2, k2] at t2
  rw [o3, k3] at t3
  rw [o4, k4] at t4
  match cs, hcl, xs, hxl with
  | [c0, c1, c2, c3, c4], _, [y0, y1, y2, y3, y4], _ =>
    simp at t0 t1 t2 t3 t4
    obtain ⟨nm, e0, _, w0⟩ := DataW.trod_string u0 t0
    obtain ⟨a, e1, _, w1⟩ := DataW.trod_int u1 t1
    obtain ⟨d, e2, _, w2⟩ := DataW.trod_int u2 t2
    obtain ⟨u, e3, _, w3⟩ := DataW.trod_int u3 t3
    obtain ⟨v, e4, _, w4⟩ := DataW.trod_int u4 t4
    simp only [List.cons.injEq, and_true] at e0 e1 e2 e3 e4
    subst e0 e1 e2 e3 e4
    exact ⟨nm, a, d, u, v, rfl, w0, w1, w2, w3, w4⟩
/-- a star by value -/
theorem open_star {r : Reach} {b0 : Nat} {e : TypeId} {f0 f1 f2 f3 f4 : Field} {v : Value} {dd : DataW H} {p : List MemPlace} (hs : P.underlying e = some (.struct #[f0, f1, f2, f3, f4])) (hone : oneCellFields P #[f0, f1, f2, f3, f4] = true) (hC : P.cellsOf e = 5)
    (u0 : P.underlying f0.type = some .string) (u1 : P.underlying f1.type = some (.int .i64)) (u2 : P.underlying f2.type = some (.int .i64)) (u3 : P.underlying f3.type = some (.int .i64)) (u4 : P.underlying f4.type = some (.int .i64))
    (hv : Value.okWide P w r b0 e v) (h : DataW.Trod enc P w base spare held e v dd p) : ∃ nm a d u z, v = .agg #[.string nm, .int .i64 a, .int .i64 d, .int .i64 u, .int .i64 z] ∧ nm.size ≤ maxLen ∧ (Lit.int .i64 a).wf = true ∧ (Lit.int .i64 d).wf = true ∧ (Lit.int .i64 u).wf = true ∧ (Lit.int .i64 z).wf = true := by
  obtain ⟨cs, rfl, _⟩ := okWide_struct hs hv
  obtain ⟨k, hk⟩ := h
  obtain ⟨nm, a, d, u, z, hcs, rest⟩ := star_of hs hone hC u0 u1 u2 u3 u4 (show DataW.trod enc P w base spare held k e cs.toList = some (dd, p) from hk)
  refine ⟨nm, a, d, u, z, ?_, rest⟩
  congr 1
  apply Array.toList_inj.1
  rw [hcs]
end

/-- the slice 'a, n' reads as the stars xs -/
def StL (w : World) (a : Option Addr) (n : Nat) (xs : List St) : Prop :=
  xs.length = n ∧ ∀ i, i < n → ∃ b off, a = some ⟨b, off, none⟩ ∧ StC w b (off + i * 5) (xs[i]?.getD st0)
theorem StL.mono {w w' : World} {a : Option Addr} {n : Nat} {xs : List St} (h : StL w a n xs) (hb : Below w.heap.size w w') : StL w' a n xs :=
  ⟨h.1, fun i hi => by
    obtain ⟨b, off, e, hc⟩ := h.2 i hi
    exact ⟨b, off, e, hc.mono hb⟩⟩
/-- what a walk is told of a slice of stars that came in -/
def IsStars (w : World) (a : Option Addr) (n cap : Nat) (xs : List St) : Prop := StL w a n xs ∧ n ≤ maxLen ∧ cap ≤ maxLen ∧ ∀ x ∈ xs, x.1.size ≤ maxLen
theorem cell_lt' {w : World} {a : Addr} {v : Value} (h : w.cell? a = some v) : a.block < w.heap.size := World.block_lt_of_cell? w a h
theorem stars_of {H : Type} {enc : TypeId × Value → H} {P : Program} {w : World} {base : Nat} {spare : Nat → Bool} {held : Bool} {t e : TypeId} {f0 f1 f2 f3 f4 : Field} {k : Nat} {a : Option Addr} {n cap : Nat} {x : DataW H × List MemPlace}
    (ht : P.underlying t = some (.slice e)) (hs : P.underlying e = some (.struct #[f0, f1, f2, f3, f4])) (hone : oneCellFields P #[f0, f1, f2, f3, f4] = true) (hC : P.cellsOf e = 5)
    (u0 : P.underlying f0.type = some .string) (u1 : P.underlying f1.type = some (.int .i64)) (u2 : P.underlying f2.type = some (.int .i64)) (u3 : P.underlying f3.type = some (.int .i64)) (u4 : P.underlying f4.type = some (.int .i64))
    (h : DataW.trod enc P w base spare held k t [.slice a n cap] = some x) : ∃ xs, IsStars w a n cap xs := by
  rcases open_slice ht h with ⟨hc, _⟩ | ⟨y, len, cap', m, k', D, Pl, hc, _, hl, hm, hmm, _, hi⟩
  · simp at hc
    obtain ⟨rfl, rfl, rfl⟩ := hc
    exact ⟨[], ⟨rfl, fun i hi => absurd hi (by omega)⟩, by unfold maxLen; omega, by unfold maxLen; omega, by simp⟩
  · simp at hc
    obtain ⟨rfl, rfl, rfl⟩ := hc
    have hlm : n ≤ m := by rw [hmm]; split <;> omega
    by_cases hn0 : n = 0
    · subst hn0
      exact ⟨[], ⟨rfl, fun i hi => absurd hi (by omega)⟩, by unfold maxLen; omega, hm, by simp⟩
    obtain ⟨b, off, spot⟩ := y
    obtain rfl : spot = none := by
      obtain ⟨cs, hcs, htr⟩ := hi 0 (by omega)
      rw [hC] at hcs
      obtain ⟨_, _, hat⟩ := World.cells?_some hcs
      obtain ⟨nm, a, d, u, v, rfl, _⟩ := star_of hs hone hC u0 u1 u2 u3 u4 htr
      simpa [Addr.add] using World.cell?_spot (hat 0 (by omega))
    have each : ∀ i, i < n → ∃ q : St, StC w b (off + i * 5) q ∧ q.1.size ≤ maxLen := by
      intro i hin
      obtain ⟨cs, hcs, htr⟩ := hi i (by omega)
      rw [hC] at hcs
      obtain ⟨_, _, hat⟩ := World.cells?_some hcs
      obtain ⟨nm, a, d, u, v, rfl, hnm, _⟩ := star_of hs hone hC u0 u1 u2 u3 u4 htr
      have hat' : ∀ f, f < 5 → w.cell? ⟨b, off + i * 5 + f, none⟩ = [Value.string nm, .int .i64 a, .int .i64 d, .int .i64 u, .int .i64 v][f]? := fun f hf => by
        have := hat f hf
        rwa [Go.WideShapes.add_plain, Go.WideShapes.add_plain] at this
      refine ⟨(nm, a, d, u, v), ⟨cell_lt' (hat' 0 (by omega)), fun f hf => ?_⟩, hnm⟩
      rw [hat' f hf]
      match f, hf with
      | 0, _ => rfl
      | 1, _ => rfl
      | 2, _ => rfl
      | 3, _ => rfl
      | 4, _ => rfl
    obtain ⟨q, hq⟩ := choose_lt each
    refine ⟨(List.range n).map q, ⟨by simp, fun i hi => ⟨b, off, rfl, ?_⟩⟩, by omega, hm, fun x hx => ?_⟩
    · have := (hq i hi).1
      simpa [hi] using this
    · obtain ⟨i, hi, rfl⟩ := List.mem_map.1 hx
      exact (hq i (by simpa using hi)).2
end Go.Proofs.YtfnjndbnogeddaaGreatDoor
