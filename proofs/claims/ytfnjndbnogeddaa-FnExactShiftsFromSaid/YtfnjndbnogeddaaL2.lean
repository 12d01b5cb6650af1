/- The model's table of shifts: rows, counts, bounds. -/
import Derived.Test.YtfnjndbnogeddaaL1
import Derived.Deep.RegionHeld3
import Derived.Deep.RegionLaw
import Derived.Deep.AppendLies
namespace Go.Proofs.Ytfnjndbnogeddaa
open Go.ChangeShapes Go.WideShapes Go.ChangeAt Go.RowKit Go.Deep

/-! ### Rows as functions -/
def rowF (c : Nat) (f : Nat → Value) : List Value := (List.range c).map f
theorem rowF_len (c : Nat) (f : Nat → Value) : (rowF c f).length = c := by simp [rowF]
theorem rowF_at {c j : Nat} (f : Nat → Value) (h : j < c) : (rowF c f)[j]? = some (f j) := by simp [rowF, h]
theorem rowF_set {c j : Nat} (f : Nat → Value) (u : Value) : (rowF c f).set j u = rowF c (fun b => if b = j then u else f b) := by
  apply List.ext_getElem?
  intro i
  rw [List.getElem?_set]
  by_cases hi : i < c
  · rw [rowF_len, rowF_at _ hi, rowF_at _ hi]
    by_cases e : j = i
    · subst e; simp [hi]
    · rw [if_neg e, if_neg (fun h => e h.symm)]
  · have h1 : (rowF c f)[i]? = none := by simp [rowF]; omega
    have h2 : (rowF c fun b => if b = j then u else f b)[i]? = none := by simp [rowF]; omega
    rw [h1, h2, rowF_len]
    by_cases e : j = i
    · subst e; simp [hi]
    · simp [e]
theorem rowF_congr {c : Nat} {f g : Nat → Value} (h : ∀ j, j < c → f j = g j) : rowF c f = rowF c g := List.map_congr_left (fun j hj => h j (List.mem_range.1 hj))
theorem rowF_made (z : Value) (h : z.cells = #[z]) (n : Nat) : (madeCells z.cells (n * 1)).toList = rowF n (fun _ => z) := by
  rw [h, Nat.mul_one, toList_madeCells_one]
  apply List.ext_getElem?
  intro i
  by_cases hi : i < n
  · rw [rowF_at _ hi]; simp [hi]
  · have h1 : (rowF n fun _ => z)[i]? = none := by simp [rowF]; omega
    rw [h1]; simp; omega
def shV (kn : Kn) (b : Nat) : Value := .int .i64 ((kn b).getD 0)
def soV (kn : Kn) (b : Nat) : Value := .bool (kn b).isSome
/-- in the middle of a round: those below k are through -/
noncomputable def midK (xs : List Cm) (c : Nat) (kn : Kn) (k : Nat) : Kn := fun b => if b < k then rndK xs c kn b else kn b
noncomputable def frV (xs : List Cm) (c : Nat) (kn : Kn) (k : Nat) (b : Nat) : Value := .bool (decide (b < k) && ((kn b).isNone && (rndK xs c kn b).isSome))
/-- all shifts are of at most m times 2000 -/
def BndK (m : Nat) (kn : Kn) : Prop := ∀ b s, kn b = some s → -(2000 * (m : Int)) ≤ s ∧ s ≤ 2000 * (m : Int)
theorem offL_bd {cc : Int} {xs : List Cm} (hx : xs.all (cmB cc) = true) {m : Nat} {kn : Kn} (h : BndK m kn) (Q : List Nat) (b : Nat) : ∀ d ∈ offL xs kn Q b, -(2000 * ((m + 1 : Nat) : Int)) ≤ d ∧ d ≤ 2000 * ((m + 1 : Nat) : Int) := by
  intro d hd
  simp only [offL, List.mem_flatMap] at hd
  obtain ⟨a, _, hd⟩ := hd
  unfold offO at hd
  cases hk : kn a with
  | none => rw [hk] at hd; cases hd
  | some s =>
    rw [hk] at hd
    simp only [List.mem_map] at hd
    obtain ⟨e, he, rfl⟩ := hd
    have h1 := difL_bd hx e he
    have h2 := h a s hk
    omega
theorem medN_bd {L : List Int} {B : Int} (h0 : L ≠ []) (h : ∀ d ∈ L, -B ≤ d ∧ d ≤ B) : -B ≤ medN L ∧ medN L ≤ B := by
  obtain ⟨ys, h1, h2⟩ := rising_of L
  rw [← medN_of h1 h2]
  have hl : 0 < ys.length := by rw [h2.length_eq]; exact List.length_pos_iff.2 h0
  by_cases ho : ys.length % 2 = 1
  · rw [medP_odd rfl ho]
    exact perm_bd h2 h _ (by omega)
  · rw [medP_even rfl (by omega)]
    have p1 := perm_bd h2 h (ys.length / 2 - 1) (by omega)
    have p2 := perm_bd h2 h (ys.length / 2) (by omega)
    generalize ys[ys.length / 2 - 1]?.getD 0 = u at *
    generalize ys[ys.length / 2]?.getD 0 = v at *
    unfold rnd
    omega
theorem BndK.next {cc : Int} {xs : List Cm} (hx : xs.all (cmB cc) = true) {m c : Nat} {kn : Kn} (h : BndK m kn) : BndK (m + 1) (rndK xs c kn) := by
  intro b s hs
  unfold rndK at hs
  cases hk : kn b with
  | some s' =>
    rw [hk] at hs
    simp only [Option.some.injEq] at hs
    subst hs
    have := h b s' hk
    omega
  | none =>
    rw [hk] at hs
    simp only [] at hs
    split at hs
    · rename_i h1
      cases hs
      exact medN_bd h1.2 (offL_bd hx h _ _)
    · cases hs
theorem knC_le (c : Nat) (kn : Kn) : knC c kn ≤ c := by
  have := List.length_filter_le (fun b => (kn b).isSome) (List.range c)
  simpa [knC] using this
theorem cnt_lt {c : Nat} {p q : Nat → Bool} (h : ∀ b, p b = true → q b = true) {b : Nat} (hb : b < c) (h1 : p b = false) (h2 : q b = true) : ((List.range c).filter p).length < ((List.range c).filter q).length := by
  rw [← List.countP_eq_length_filter, ← List.countP_eq_length_filter]
  have hm : b ∈ List.range c := List.mem_range.2 hb
  obtain ⟨A, B, e⟩ := List.append_of_mem hm
  rw [e, List.countP_append, List.countP_append, List.countP_cons, List.countP_cons, if_neg (by simp [h1]), if_pos h2]
  have i1 : List.countP p A ≤ List.countP q A := List.countP_mono_left (fun x _ => h x)
  have i2 : List.countP p B ≤ List.countP q B := List.countP_mono_left (fun x _ => h x)
  omega
theorem knC_next {xs : List Cm} {c : Nat} {kn : Kn} (h : newQ xs c kn ≠ []) : knC c kn < knC c (rndK xs c kn) := by
  obtain ⟨b, hb⟩ := List.exists_mem_of_ne_nil _ h
  simp only [newQ, List.mem_filter, List.mem_range, Bool.and_eq_true, Option.isNone_iff_eq_none, Bool.not_eq_true', List.isEmpty_eq_false_iff] at hb
  refine cnt_lt (fun a ha => ?_) hb.1 (by rw [hb.2.1]; rfl) ?_
  · cases hk : kn a with
    | none => rw [hk] at ha; cases ha
    | some s => rw [rndK_some hk]; rfl
  · unfold rndK
    rw [hb.2.1]
    simp only []
    rw [if_pos ⟨hb.1, hb.2.2⟩]
    rfl
theorem offL_step (xs : List Cm) (kn : Kn) (j b : Nat) : offL xs kn (List.range (j + 1)) b = offL xs kn (List.range j) b ++ offO xs kn b j := by
  rw [offL, List.range_succ, List.flatMap_append]; simp [offL]
theorem offL_len {xs : List Cm} {n : Nat} (hx : xs.length = n) (kn : Kn) (b : Nat) : ∀ j, (offL xs kn (List.range j) b).length ≤ j * (2 * n)
  | 0 => by simp [offL]
  | j + 1 => by
    have ih := offL_len hx kn b j
    rw [offL_step, List.length_append, Nat.succ_mul]
    have : (offO xs kn b j).length ≤ 2 * n := by
      unfold offO
      cases kn j with
      | none => simp
      | some s => simp only [List.length_map]; rw [← hx]; exact difL_len _ _ _
    omega
end Go.Proofs.Ytfnjndbnogeddaa
