/- SameStars, both sides: equal slices are the same, others not. -/
import Derived.Test.YtfnjndbnogeddaaGreatDoorS5
import Derived.Laws.StructEq
namespace Go.Proofs.YtfnjndbnogeddaaGreatDoor
open Go.ChangeShapes Go.WideShapes Go.ChangeAt Go.RowKit Go.Deep

theorem IsStars.mono {w w' : World} {a : Option Addr} {n cap : Nat} {xs : List St} (h : IsStars w a n cap xs) (hb : Below w.heap.size w w') : IsStars w' a n cap xs := ⟨h.1.mono hb, h.2⟩
def stE (x y : St) : Bool := x.1.toList == y.1.toList && (x.2.1 == y.2.1 && (x.2.2.1 == y.2.2.1 && (x.2.2.2.1 == y.2.2.2.1 && x.2.2.2.2 == y.2.2.2.2)))
theorem neq_star (nm nm' : ByteArray) (a a' d d' u u' v v' : Int) (w : World) :
    (binOp .neq 27 (.agg #[.string nm, .int .i64 a, .int .i64 d, .int .i64 u, .int .i64 v]) (.agg #[.string nm', .int .i64 a', .int .i64 d', .int .i64 u', .int .i64 v'])).run Tryz.prog w = .ok (.bool (!stE (nm, a, d, u, v) (nm', a', d', u', v'))) w := by
  rw [run_neq_struct]
  cases h1 : (nm.toList == nm'.toList)
  · simp [go_sem, h1, stE]
  cases h2 : (a == a')
  · simp [go_sem, h1, h2, stE]
  cases h3 : (d == d')
  · simp [go_sem, h1, h2, h3, stE]
  cases h4 : (u == u')
  · simp [go_sem, h1, h2, h3, h4, stE]
  cases h5 : (v == v')
  · simp [go_sem, h1, h2, h3, h4, h5, stE]
  · simp [go_sem, h1, h2, h3, h4, h5, stE]
theorem stE_eq {x y : St} (h : stE x y = true) : x = y := by
  obtain ⟨nm, a, d, u, v⟩ := x
  obtain ⟨nm', a', d', u', v'⟩ := y
  simp only [stE, Bool.and_eq_true, beq_iff_eq] at h
  obtain ⟨h1, rfl, rfl, rfl, rfl⟩ := h
  have : nm = nm' := by
    rw [ByteArray.toList_eq, ByteArray.toList_eq] at h1
    cases nm; cases nm'; simp at h1; rw [h1]
  rw [this]
theorem stE_self (x : St) : stE x x = true := by simp [stE]
def sameS (xs ys : List St) : Bool := decide (xs = ys)
theorem same_yes {xs ys : List St} {n : Nat} (h1 : xs.length = n) (h2 : ys.length = n) (h : ∀ j, j < n → xs[j]?.getD st0 = ys[j]?.getD st0) : sameS xs ys = true := by
  have : xs = ys := List.ext_getElem (by omega) fun j hj hj' => by
    have := h j (by omega)
    simpa [hj, hj'] using this
  simp [sameS, this]
theorem same_no {xs ys : List St} {k : Nat} (h : stE (xs[k]?.getD st0) (ys[k]?.getD st0) = false) : sameS xs ys = false := by
  simp only [sameS, decide_eq_false_iff_not]
  intro e
  rw [e, stE_self] at h
  cases h
theorem same_len {xs ys : List St} (h : xs.length ≠ ys.length) : sameS xs ys = false := by
  simp only [sameS, decide_eq_false_iff_not]
  intro e; exact h (by rw [e])
end Go.Proofs.YtfnjndbnogeddaaGreatDoor
