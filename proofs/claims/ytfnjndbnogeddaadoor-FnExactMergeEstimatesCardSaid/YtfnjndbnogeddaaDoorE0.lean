/- Estimates: their order in plain terms. -/
import Derived.Test.YtfnjndbnogeddaaDoorGEs3
import Derived.Test.YtfnjndbnogeddaaDoorTM
import Derived.Sort.Walk0
import Derived.Shelf.Small.Strs
namespace Go.Proofs.YtfnjndbnogeddaaDoor
open Go.ChangeShapes Go.WideShapes Go.ChangeAt Go.RowKit Go.Deep

/-- a text is before another one -/
def bl (x y : ByteArray) : Bool := Op.bytesLess x.toList y.toList
theorem bl_iff {x y : ByteArray} : bl x y = true ↔ x.toList < y.toList := by simp [bl, Go.Proofs.bytesLess_eq]
theorem ba_eq {x y : ByteArray} : x.toList = y.toList ↔ x = y :=
  ⟨fun h => by rw [ByteArray.toList_eq, ByteArray.toList_eq] at h; cases x; cases y; simp at h; rw [h], fun h => by rw [h]⟩
theorem bl_irrefl (x : ByteArray) : bl x x = false := by
  cases h : bl x x
  · rfl
  · exact absurd (bl_iff.1 h) (List.lt_irrefl _)
theorem bl_trans {x y z : ByteArray} (h1 : bl x y = true) (h2 : bl y z = true) : bl x z = true := bl_iff.2 (List.lt_trans (bl_iff.1 h1) (bl_iff.1 h2))
theorem bl_or (x y : ByteArray) : bl x y = true ∨ x = y ∨ bl y x = true := by
  by_cases h1 : x.toList < y.toList
  · exact .inl (bl_iff.2 h1)
  by_cases h2 : y.toList < x.toList
  · exact .inr (.inr (bl_iff.2 h2))
  · exact .inr (.inl (ba_eq.1 (List.le_antisymm (List.not_lt.1 h2) (List.not_lt.1 h1))))
theorem bl_asymm {x y : ByteArray} (h : bl x y = true) : bl y x = false := by
  cases h2 : bl y x
  · rfl
  · have := bl_trans h h2
    rw [bl_irrefl] at this
    cases this
/-- x is before y: by time, then by star, then by observer -/
def esLt (x y : Es) : Bool := decide (x.1 < y.1) || (decide (x.1 = y.1) && (bl x.2.1 y.2.1 || (decide (x.2.1 = y.2.1) && bl x.2.2.1 y.2.2.1)))
/-- the same place in the order -/
def esEq (x y : Es) : Prop := x.1 = y.1 ∧ x.2.1 = y.2.1 ∧ x.2.2.1 = y.2.2.1
theorem esLt_iff {x y : Es} : esLt x y = true ↔ x.1 < y.1 ∨ (x.1 = y.1 ∧ (bl x.2.1 y.2.1 = true ∨ (x.2.1 = y.2.1 ∧ bl x.2.2.1 y.2.2.1 = true))) := by
  simp [esLt]
theorem esLt_irrefl (x : Es) : esLt x x = false := by simp [esLt, bl_irrefl]
theorem esLt_trans {x y z : Es} (h1 : esLt x y = true) (h2 : esLt y z = true) : esLt x z = true := by
  rw [esLt_iff] at *
  rcases h1 with h1 | ⟨e1, h1⟩ <;> rcases h2 with h2 | ⟨e2, h2⟩
  · exact .inl (by omega)
  · exact .inl (by omega)
  · exact .inl (by omega)
  · refine .inr ⟨e1.trans e2, ?_⟩
    rcases h1 with h1 | ⟨f1, h1⟩ <;> rcases h2 with h2 | ⟨f2, h2⟩
    · exact .inl (bl_trans h1 h2)
    · exact .inl (f2 ▸ h1)
    · exact .inl (f1 ▸ h2)
    · exact .inr ⟨f1.trans f2, bl_trans h1 h2⟩
theorem esLt_or (x y : Es) : esLt x y = true ∨ esEq x y ∨ esLt y x = true := by
  rw [esLt_iff, esLt_iff]
  rcases Int.lt_trichotomy x.1 y.1 with h | h | h
  · exact .inl (.inl h)
  · rcases bl_or x.2.1 y.2.1 with g | g | g
    · exact .inl (.inr ⟨h, .inl g⟩)
    · rcases bl_or x.2.2.1 y.2.2.1 with k | k | k
      · exact .inl (.inr ⟨h, .inr ⟨g, k⟩⟩)
      · exact .inr (.inl ⟨h, g, k⟩)
      · exact .inr (.inr (.inr ⟨h.symm, .inr ⟨g.symm, k⟩⟩))
    · exact .inr (.inr (.inr ⟨h.symm, .inl g⟩))
  · exact .inr (.inr (.inl h))
theorem esLt_asymm {x y : Es} (h : esLt x y = true) : esLt y x = false := by
  cases h2 : esLt y x
  · rfl
  · have := esLt_trans h h2
    rw [esLt_irrefl] at this
    cases this
theorem esEq_lt {x y z : Es} (h : esEq x y) : esLt x z = esLt y z := by
  obtain ⟨h1, h2, h3⟩ := h
  simp only [esLt, h1, h2, h3]
theorem esEq_lt' {x y z : Es} (h : esEq x y) : esLt z x = esLt z y := by
  obtain ⟨h1, h2, h3⟩ := h
  simp only [esLt, h1, h2, h3]
theorem esEq_not {x y : Es} (h : esEq x y) : esLt x y = false := by rw [esEq_lt h, esLt_irrefl]
theorem esEq.symm {x y : Es} (h : esEq x y) : esEq y x := ⟨h.1.symm, h.2.1.symm, h.2.2.symm⟩
theorem esEq.trans {x y z : Es} (h : esEq x y) (k : esEq y z) : esEq x z := ⟨h.1.trans k.1, h.2.1.trans k.2.1, h.2.2.trans k.2.2⟩
theorem esEq_of {x y : Es} (h1 : esLt x y = false) (h2 : esLt y x = false) : esEq x y := by
  rcases esLt_or x y with h | h | h
  · rw [h1] at h; cases h
  · exact h
  · rw [h2] at h; cases h
/-- what strings.Compare hands back -/
def sgB (x y : ByteArray) : Int := Lib.compareBytes x.data.toList y.data.toList
theorem cmpB_sg : ∀ x y : List UInt8, Lib.compareBytes x y = if x < y then -1 else if y < x then 1 else 0
  | [], [] => by simp [Lib.compareBytes]
  | [], _ :: _ => by simp [Lib.compareBytes]
  | _ :: _, [] => by simp [Lib.compareBytes]
  | a :: xs, b :: bs => by
    have ih := cmpB_sg xs bs
    simp only [Lib.compareBytes]
    by_cases h1 : a < b
    · simp [h1, List.cons_lt_cons_iff]
    · by_cases h2 : b < a
      · have h3 : a ≠ b := fun e => by subst e; exact h1 h2
        simp [h1, h2, h3, h3.symm, List.cons_lt_cons_iff]
      · have h3 : a = b := UInt8.le_antisymm (UInt8.not_lt.1 h2) (UInt8.not_lt.1 h1)
        subst h3
        simp only [if_neg h1]
        rw [ih]
        simp
theorem sgB_eq (x y : ByteArray) : sgB x y = if bl x y then -1 else if bl y x then 1 else 0 := by
  unfold sgB
  rw [cmpB_sg, ← ByteArray.toList_eq, ← ByteArray.toList_eq]
  by_cases h1 : x.toList < y.toList
  · rw [if_pos h1, if_pos (bl_iff.2 h1)]
  · rw [if_neg h1, if_neg (fun h => h1 (bl_iff.1 h))]
    by_cases h2 : y.toList < x.toList
    · rw [if_pos h2, if_pos (bl_iff.2 h2)]
    · rw [if_neg h2, if_neg (fun h => h2 (bl_iff.1 h))]
theorem sgB_rng (x y : ByteArray) : sgB x y = -1 ∨ sgB x y = 0 ∨ sgB x y = 1 := by
  rw [sgB_eq]
  split
  · exact .inl rfl
  · split
    · exact .inr (.inr rfl)
    · exact .inr (.inl rfl)
theorem sgB_zero {x y : ByteArray} : sgB x y = 0 ↔ x = y := by
  rw [sgB_eq]
  rcases bl_or x y with h | h | h
  · rw [if_pos h]
    exact ⟨fun h => by simp at h, fun e => by subst e; rw [bl_irrefl] at h; cases h⟩
  · subst h; simp [bl_irrefl]
  · rw [if_neg (by rw [bl_asymm h]; simp), if_pos h]
    exact ⟨fun h => by simp at h, fun e => by subst e; rw [bl_irrefl] at h; cases h⟩
theorem sgB_neg {x y : ByteArray} : sgB x y < 0 ↔ bl x y = true := by
  rw [sgB_eq]
  cases h : bl x y
  · cases h2 : bl y x <;> simp
  · simp
/-- the first of three that is not 0 -/
def or3 (a b c : Int) : Int := if a != 0 then a else if b != 0 then b else c
def cmpE (x y : Es) : Int := or3 (sgI x.1 y.1) (sgB x.2.1 y.2.1) (sgB x.2.2.1 y.2.2.1)
theorem cmpE_lt (x y : Es) : cmpE x y < 0 ↔ esLt x y = true := by
  rw [esLt_iff, cmpE, or3]
  by_cases h1 : sgI x.1 y.1 = 0
  · have e1 := sgI_zero.1 h1
    rw [if_neg (by simp [h1])]
    by_cases h2 : sgB x.2.1 y.2.1 = 0
    · have e2 := sgB_zero.1 h2
      rw [if_neg (by simp [h2]), sgB_neg]
      exact ⟨fun h => .inr ⟨e1, .inr ⟨e2, h⟩⟩, fun h => by
        rcases h with h | ⟨_, h | ⟨_, h⟩⟩
        · omega
        · rw [e2, bl_irrefl] at h; cases h
        · exact h⟩
    · rw [if_pos (by simp [h2]), sgB_neg]
      exact ⟨fun h => .inr ⟨e1, .inl h⟩, fun h => by
        rcases h with h | ⟨_, h | ⟨h3, _⟩⟩
        · omega
        · exact h
        · exact absurd (sgB_zero.2 h3) h2⟩
  · rw [if_pos (by simp [h1]), sgI_neg]
    exact ⟨fun h => .inl h, fun h => by
      rcases h with h | ⟨h, _⟩
      · exact h
      · exact absurd (sgI_zero.2 h) h1⟩
theorem cmpE_zero (x y : Es) : cmpE x y = 0 ↔ esEq x y := by
  rw [cmpE, or3]
  by_cases h1 : sgI x.1 y.1 = 0
  · have e1 := sgI_zero.1 h1
    rw [if_neg (by simp [h1])]
    by_cases h2 : sgB x.2.1 y.2.1 = 0
    · have e2 := sgB_zero.1 h2
      rw [if_neg (by simp [h2]), sgB_zero]
      exact ⟨fun h => ⟨e1, e2, h⟩, fun h => h.2.2⟩
    · rw [if_pos (by simp [h2])]
      exact ⟨fun h => absurd h h2, fun h => absurd (sgB_zero.2 h.2.1) h2⟩
  · rw [if_pos (by simp [h1])]
    exact ⟨fun h => absurd h h1, fun h => absurd (sgI_zero.2 h.1) h1⟩
theorem cmpE_gt (x y : Es) : 0 < cmpE x y ↔ esLt y x = true := by
  have h1 := cmpE_lt x y
  have h2 := cmpE_zero x y
  constructor
  · intro h
    rcases esLt_or x y with k | k | k
    · have := h1.2 k; omega
    · have := h2.2 k; omega
    · exact k
  · intro h
    by_cases k : cmpE x y < 0
    · have := h1.1 k; rw [esLt_asymm h] at this; cases this
    · by_cases k2 : cmpE x y = 0
      · have := h2.1 k2; rw [esEq_not this.symm] at h; cases h
      · omega
theorem cmpE_rng (x y : Es) : cmpE x y = -1 ∨ cmpE x y = 0 ∨ cmpE x y = 1 := by
  unfold cmpE or3
  split
  · exact sgI_rng _ _
  · split
    · exact sgB_rng _ _
    · exact sgB_rng _ _
end Go.Proofs.YtfnjndbnogeddaaDoor
