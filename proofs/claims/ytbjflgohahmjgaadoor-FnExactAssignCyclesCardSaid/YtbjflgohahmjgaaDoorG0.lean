/- Common words for slices of structs that gen.py's texts share: marks, rows of cells, sizes. -/
import Derived.Test.YtbjflgohahmjgaaDoorB1
import Derived.Test.YtbjflgohahmjgaaDoorMT
import Derived.Deep.Slices
import Derived.Deep.Fields
import Derived.Deep.OwnRows
import Derived.ChangeSame
import Derived.OwnWalk
import Derived.Lib.SmallJoins
import Derived.Laws.StructEq
import Derived.Maps.AppendAt
import Derived.RangeFuncBox
import Derived.StillTailTactics
namespace Go.Proofs.YtbjflgohahmjgaaDoor
open Go.ChangeShapes Go.WideShapes Go.ChangeAt Go.RowKit Go.Deep

theorem strSelf (s : ByteArray) : (!s.toList == s.toList) = false := by simp
theorem intSelf (x : Int) : (x != x) = false := by simp
theorem boolSelf (x : Bool) : (x != x) = false := by simp
theorem mod3B {n : Nat} {z : Int} (h : z = (n : Int)) : decide (n % 3 = 0) = (z % 3 == 0) := by
  subst h
  rw [Bool.eq_iff_iff]
  simp
  omega
def szQ (n left : Int) : Int := if left < n then -1 else left - n
theorem szQ_no {n left : Int} (h : left < n) : szQ n left = -1 := by unfold szQ; rw [if_pos h]
theorem szQ_yes {n left : Int} (h : ¬ left < n) : szQ n left = left - n := by unfold szQ; rw [if_neg h]
theorem cellLt {w : World} {a : Addr} {v : Value} (h : w.cell? a = some v) : a.block < w.heap.size := World.block_lt_of_cell? w a h
theorem rowB {w w' : World} {g n : Nat} {T : TypeId} {f : Nat → Value} (h : w.rowIs g T n f) (hb : Below w.heap.size w w') : w'.rowIs g T n f := h.of_block (hb.block g h.lt)
theorem rowM {w : World} {base g n K : Nat} {T : TypeId} {vs : List Value} (h : w.ownsRow base T K (.slice (some ⟨g, 0, none⟩) n n) n vs) : w.rowIs g T (n * K) (fun j => vs[j]?.getD (.bool false)) := by
  rcases h.2 with ⟨h0, _⟩ | ⟨g', cap, cur, hv, _, hb, _, _, hs, ht⟩
  · cases h0
  · cases hv
    refine ⟨cur, hb, hs, fun i hi => ?_⟩
    rw [← ht, List.take_of_length_le (by simp [hs])]
    simp [hs, hi]
theorem gSet (w : World) (a : Addr) (v : Value) : w.grownBy (w.setCell a v) (some a.block) :=
  ⟨rfl, rfl, rfl, (KeepsWalks.setCell w a v).size, fun k _ hk => Below.heap_setCell _ _ _ k (fun e => hk (by rw [e]))⟩
theorem gBut {w w' : World} (h : Below w.heap.size w w') (row : Option Nat) : w.grownBy w' row := ⟨h.os, h.tape, h.output, h.size, fun i hi _ => h.block i hi⟩
theorem gRefl (w : World) (row : Option Nat) : w.grownBy w row := ⟨rfl, rfl, rfl, Nat.le_refl _, fun _ _ _ => rfl⟩
theorem gPut {w w1 : World} {g : Nat} (h : w.grownBy w1 (some g)) (o : Nat) (v : Value) : w.grownBy (w1.setCell ⟨g, o, none⟩ v) (some g) := h.trans (gSet w1 ⟨g, o, none⟩ v)
theorem gFar {w a b : World} {g row : Option Nat} (h : w.grownBy a g) (k : a.grownBy b row) (hr : ∀ j, row = some j → w.heap.size ≤ j) : w.grownBy b g :=
  ⟨k.os.trans h.os, k.tape.trans h.tape, k.output.trans h.output, Nat.le_trans h.size k.size, fun i hi hne => (k.block i (Nat.lt_of_lt_of_le hi h.size) (fun e => by have := hr i e.symm; omega)).trans (h.block i hi hne)⟩
/-- N cells of block g: writable; those that f names hold what it says -/
def SMG (w : World) (g N : Nat) (f : Nat → Option Value) : Prop := ∀ j, j < N → g < w.heap.size ∧ (∃ v, w.cell? ⟨g, j, none⟩ = some v ∧ ∀ u, f j = some u → v = u) ∧ w.frozen? ⟨g, j, none⟩ = false
theorem SMG.below {w w' : World} {g N : Nat} {f : Nat → Option Value} (h : SMG w g N f) (hb : Below w.heap.size w w') : SMG w' g N f := fun j hj => by
  obtain ⟨h1, ⟨v, h2, h3⟩, h4⟩ := h j hj
  exact ⟨Nat.lt_of_lt_of_le h1 hb.size, ⟨v, by rw [hb.cell (p := ⟨g, j, none⟩) h1]; exact h2, h3⟩, by rw [hb.frozen (p := ⟨g, j, none⟩) h1]; exact h4⟩
theorem SMG.put {w : World} {g N : Nat} {f : Nat → Option Value} (h : SMG w g N f) (i : Nat) (u : Value) : SMG (w.setCell ⟨g, i, none⟩ u) g N (fun j => if j = i then some u else f j) := fun j hj => by
  obtain ⟨h1, ⟨v, h2, h3⟩, h4⟩ := h j hj
  refine ⟨by simpa using h1, ?_, by rw [World.frozen?_setCell]; exact h4⟩
  by_cases hji : j = i
  · subst hji
    exact ⟨u, scS h2, fun x hx => by simpa using hx⟩
  · exact ⟨v, scO (fun e => hji e.symm) h2, fun x hx => h3 x (by simpa [hji] using hx)⟩
theorem SMG.congr {w : World} {g N : Nat} {f f' : Nat → Option Value} (h : SMG w g N f) (hf : ∀ j u, j < N → f' j = some u → f j = some u) : SMG w g N f' := fun j hj => by
  obtain ⟨h1, ⟨v, h2, h3⟩, h4⟩ := h j hj
  exact ⟨h1, ⟨v, h2, fun u hu => h3 u (hf j u hj hu)⟩, h4⟩
theorem SMG.far {w w' : World} {g g' N : Nat} {f : Nat → Option Value} (h : SMG w g N f) (hg : w.grownBy w' (some g')) (hne : g ≠ g') : SMG w' g N f := fun j hj => by
  obtain ⟨h1, ⟨v, h2, h3⟩, h4⟩ := h j hj
  have hb := hg.block g h1 (by simpa using hne)
  exact ⟨Nat.lt_of_lt_of_le h1 hg.size, ⟨v, by rw [World.cell?_of_block (a := ⟨g, j, none⟩) hb]; exact h2, h3⟩, by rw [World.frozen?_of_block (a := ⟨g, j, none⟩) hb]; exact h4⟩
theorem SMG.of_own {w : World} {B e g n c K : Nat} {xs : List Value} (h : w.ownsRow B e K (.slice (some ⟨g, 0, none⟩) n c) n xs) : SMG w g (n * K) (fun _ => none) := fun j hj => by
  have hlt := (h.lt g rfl).2
  have hl := h.1
  have hx : xs[j]? = some (xs[j]'(by omega)) := List.getElem?_eq_getElem (by omega)
  have h1 := h.cells (g := g) rfl j _ hx
  rw [Go.WideShapes.add_plain, Nat.zero_add] at h1
  exact ⟨hlt, ⟨_, h1, fun u hu => by simp at hu⟩, h.frozenAt j⟩
theorem ownLow {w : World} {B B' e size n : Nat} {v : Value} {xs : List Value} (h : w.ownsRow B e size v n xs) (hb : B' ≤ B) : w.ownsRow B' e size v n xs := by
  refine ⟨h.1, ?_⟩
  rcases h.2 with h0 | ⟨g, cap, cur, hv, hg, rest⟩
  · exact .inl h0
  · exact .inr ⟨g, cap, cur, hv, Nat.le_trans hb hg, rest⟩
end Go.Proofs.YtbjflgohahmjgaaDoor
