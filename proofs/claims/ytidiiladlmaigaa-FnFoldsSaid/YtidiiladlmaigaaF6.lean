/- Points by the bins of a period: the program's array of slices. -/
import Derived.Test.YtidiiladlmaigaaFB
import Derived.Test.YtidiiladlmaigaaF5
import Derived.Test.YtidiiladlmaigaaFK
import Derived.Deep.AppendLies
import Derived.Deep.MidRow
namespace Go.Proofs.Ytidiiladlmaigaa
open Go.ChangeShapes Go.WideShapes Go.ChangeAt Go.RowKit Go.Deep

/-- block g holds fifty slices of points, each of its own row -/
structure OwnV (T : TypeId) (g : Nat) (w : World) (vs : Nat → Value) (L : Nat → List Pt) : Prop where
  lt : g < w.heap.size
  cell : ∀ i, i < 50 → w.cell? ⟨g, i, none⟩ = some (vs i)
  free : ∀ i, i < 50 → w.frozen? ⟨g, i, none⟩ = false
  row : ∀ i, i < 50 → w.ownsRow (g + 1) T 2 (vs i) (L i).length (flatPt (L i))
  apart : ∀ i j, i < 50 → j < 50 → i ≠ j → ∀ b, (vs i).ownBlock = some b → (vs j).ownBlock ≠ some b
theorem ownPutF {w : World} {b e s n : Nat} {v : Value} {xs : List Value} (h : w.ownsRow (b + 1) e s v n xs) (o : Nat) (u : Value) : (w.setCell ⟨b, o, none⟩ u).ownsRow (b + 1) e s v n xs :=
  h.kept (gSet w ⟨b, o, none⟩ u) (by
    cases hv : v.ownBlock with
    | none => exact .inl rfl
    | some g => exact .inr (fun e => by cases e; have := (h.lt b hv).1; omega))
def updV {α : Type} (f : Nat → α) (i : Nat) (u : α) : Nat → α := fun j => if j = i then u else f j
theorem OwnV.put {T : TypeId} {g : Nat} {w w6 w7 : World} {vs : Nat → Value} {L : Nat → List Pt} (h : OwnV T g w vs L) (hb : Below w.heap.size w w6) {i : Nat} (hi : i < 50) {g7 c7 n7 : Nat} {Li : List Pt}
    (hown : w7.ownsRow (g + 1) T 2 (.slice (some ⟨g7, 0, none⟩) n7 c7) n7 (flatPt Li)) (hl : Li.length = n7) (hg : w6.grownBy w7 (vs i).ownBlock) (hat : (vs i).ownBlock = some g7 ∨ g7 = w6.heap.size) :
    OwnV T g (w7.setCell ⟨g, i, none⟩ (.slice (some ⟨g7, 0, none⟩) n7 c7)) (updV vs i (.slice (some ⟨g7, 0, none⟩) n7 c7)) (updV L i Li) := by
  have hs6 := hb.size
  have hs7 := hg.size
  have hlt := h.lt
  have hge : ∀ b, (vs i).ownBlock = some b → g + 1 ≤ b ∧ b < w.heap.size := fun b e => (h.row i hi).lt b e
  have hne : some g ≠ (vs i).ownBlock := fun e => by have := (hge g e.symm).1; omega
  have c7 : ∀ j, j < 50 → w7.cell? ⟨g, j, none⟩ = some (vs j) := fun j hj => by
    rw [World.grownBy.cell_far hg ⟨g, j, none⟩ (by show g < _; omega) hne, hb.cell (p := ⟨g, j, none⟩) hlt]
    exact h.cell j hj
  have f7 : ∀ j, j < 50 → w7.frozen? ⟨g, j, none⟩ = false := fun j hj => by
    rw [World.grownBy.frozen_far hg ⟨g, j, none⟩ (by show g < _; omega) hne, hb.frozen (p := ⟨g, j, none⟩) hlt]
    exact h.free j hj
  have big : ∀ b, (vs i).ownBlock = some b ∨ b = w6.heap.size → b = g7 → ∀ j, j < 50 → j ≠ i → (vs j).ownBlock ≠ some b := fun b hbb e j hj hji ej => by
    rcases hbb with hbb | hbb
    · exact h.apart i j hi hj (fun e => hji e.symm) b hbb ej
    · have := ((h.row j hj).lt b ej).2; omega
  refine ⟨by rw [World.size_setCell]; omega, fun j hj => ?_, fun j hj => ?_, fun j hj => ?_, fun j k hj hk hjk b e1 e2 => ?_⟩
  · by_cases e : j = i
    · subst e
      rw [updV, if_pos rfl]
      exact World.cell?_setCell_same _ _ _ (c7 j hj)
    · rw [updV, if_neg e, scO (fun e' => e e'.symm) (c7 j hj)]
  · rw [World.frozen?_setCell]; exact f7 j hj
  · by_cases e : j = i
    · subst e
      rw [updV, updV, if_pos rfl, if_pos rfl, hl]
      exact ownPutF hown _ _
    · rw [updV, updV, if_neg e, if_neg e]
      refine ownPutF ((ownKeepF (h.row j hj) hb).kept hg ?_) _ _
      cases hv : (vs j).ownBlock with
      | none => exact .inl rfl
      | some q => exact .inr (fun e' => h.apart j i hj hi e q hv e'.symm)
  · by_cases ej : j = i
    · subst ej
      rw [updV, if_pos rfl] at e1
      rw [updV, if_neg (fun e => hjk e.symm)] at e2
      have : g7 = b := by simpa [Value.ownBlock] using e1
      exact big g7 hat rfl k hk (fun e => hjk e.symm) (by rw [this]; exact e2)
    · rw [updV, if_neg ej] at e1
      by_cases ek : k = i
      · subst ek
        rw [updV, if_pos rfl] at e2
        have : g7 = b := by simpa [Value.ownBlock] using e2
        exact big g7 hat rfl j hj ej (by rw [this]; exact e1)
      · rw [updV, if_neg ek] at e2
        exact h.apart j k hj hk hjk b e1 e2
theorem OwnV.keep {T : TypeId} {g : Nat} {w w' : World} {vs : Nat → Value} {L : Nat → List Pt} (h : OwnV T g w vs L) (hb : Below w.heap.size w w') : OwnV T g w' vs L :=
  ⟨Nat.lt_of_lt_of_le h.lt hb.size, fun i hi => by rw [hb.cell (p := ⟨g, i, none⟩) h.lt]; exact h.cell i hi, fun i hi => by rw [hb.frozen (p := ⟨g, i, none⟩) h.lt]; exact h.free i hi, fun i hi => ownKeepF (h.row i hi) hb, h.apart⟩
theorem OwnV.congr {T : TypeId} {g : Nat} {w : World} {vs : Nat → Value} {L L' : Nat → List Pt} (h : OwnV T g w vs L) (e : ∀ i, i < 50 → L' i = L i) : OwnV T g w vs L' :=
  ⟨h.lt, h.cell, h.free, fun i hi => by rw [e i hi]; exact h.row i hi, h.apart⟩
/-- the value of such an array -/
def arrV (vs : Nat → Value) : List Value := (List.range 50).map vs
theorem arrV_len (vs : Nat → Value) : (arrV vs).length = 50 := by simp [arrV]
theorem arrV_at (vs : Nat → Value) {i : Nat} (hi : i < 50) : (arrV vs)[i]? = some (vs i) := by simp [arrV, hi]
theorem OwnV.range {T : TypeId} {g : Nat} {w : World} {vs : Nat → Value} {L : Nat → List Pt} (h : OwnV T g w vs L) : w.rangeAt g 0 (arrV vs) := fun j v hv => by
  have hj : j < 50 := by have := (List.getElem?_eq_some_iff.1 hv).1; rwa [arrV_len] at this
  rw [arrV_at vs hj] at hv
  cases hv
  rw [Nat.zero_add]
  exact h.cell j hj
theorem OwnV.form {T : TypeId} {g : Nat} {w : World} {vs : Nat → Value} {L : Nat → List Pt} (h : OwnV T g w vs L) {i : Nat} (hi : i < 50) : ∃ a c, vs i = .slice a (L i).length c ∧ (L i).length ≤ c ∧ PtL w a (L i).length (L i) := by
  have hr := h.row i hi
  rcases hr.2 with ⟨hv, h0⟩ | ⟨q, cap, cur, hv, _, _, hn, _⟩
  · refine ⟨none, 0, by rw [hv, h0], by omega, rfl, fun k hk => by omega⟩
  · refine ⟨some ⟨q, 0, none⟩, cap, hv, hn, ?_⟩
    rw [hv] at hr
    exact PtL.of_own hr rfl
theorem OwnV.one {T : TypeId} {g : Nat} {w : World} {vs : Nat → Value} {L : Nat → List Pt} (h : OwnV T g w vs L) : (arrV vs).toArray.all (·.oneCell') = true := all_oneCell_toArray fun v hv => by
  simp only [arrV, List.mem_map, List.mem_range] at hv
  obtain ⟨i, hi, rfl⟩ := hv
  obtain ⟨a, c, e, _⟩ := h.form hi
  rw [e]; rfl
end Go.Proofs.Ytidiiladlmaigaa
