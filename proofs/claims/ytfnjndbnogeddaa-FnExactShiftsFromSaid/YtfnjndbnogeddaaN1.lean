/- nthLeast in plain lists: what lies at an index of the ordered list, by a pivot. -/
import Derived.Test.YtfnjndbnogeddaaM4
namespace Go.Proofs.Ytfnjndbnogeddaa
open Go.ChangeShapes Go.WideShapes Go.ChangeAt Go.RowKit

/-- v lies at the index i of the numbers in ascending order -/
def NthP (xs : List Int) (i : Nat) (v : Int) : Prop := ∃ ys, Rising ys ∧ ys.Perm xs ∧ ys[i]? = some v
def lessL (p : Int) (xs : List Int) : List Int := xs.filter fun x => decide (x < p)
def moreL (p : Int) (xs : List Int) : List Int := xs.filter fun x => decide (p < x)
def evenL (p : Int) (xs : List Int) : List Int := xs.filter fun x => decide (x = p)
theorem even_rep (p : Int) (xs : List Int) : evenL p xs = List.replicate (evenL p xs).length p := by
  rw [List.eq_replicate_iff]
  exact ⟨rfl, fun x hx => by simpa [evenL] using (List.mem_filter.1 hx).2⟩
theorem part_perm (p : Int) : ∀ xs : List Int, (lessL p xs ++ evenL p xs ++ moreL p xs).Perm xs
  | [] => List.Perm.refl _
  | x :: xs => by
    have ih := part_perm p xs
    by_cases h1 : x < p
    · have h2 : ¬ p < x := by omega
      have h3 : ¬ x = p := by omega
      have e1 : lessL p (x :: xs) = x :: lessL p xs := by simp [lessL, h1]
      have e2 : evenL p (x :: xs) = evenL p xs := by simp [evenL, h3]
      have e3 : moreL p (x :: xs) = moreL p xs := by simp [moreL, h2]
      rw [e1, e2, e3]
      exact List.Perm.cons _ ih
    · by_cases h2 : p < x
      · have h3 : ¬ x = p := by omega
        have e1 : lessL p (x :: xs) = lessL p xs := by simp [lessL, h1]
        have e2 : evenL p (x :: xs) = evenL p xs := by simp [evenL, h3]
        have e3 : moreL p (x :: xs) = x :: moreL p xs := by simp [moreL, h2]
        rw [e1, e2, e3]
        exact List.perm_middle.trans (List.Perm.cons _ ih)
      · have h3 : x = p := by omega
        have e1 : lessL p (x :: xs) = lessL p xs := by simp [lessL, h1]
        have e2 : evenL p (x :: xs) = x :: evenL p xs := by simp [evenL, h3]
        have e3 : moreL p (x :: xs) = moreL p xs := by simp [moreL, h2]
        rw [e1, e2, e3, List.append_assoc, List.cons_append]
        refine List.perm_middle.trans (List.Perm.cons _ ?_)
        rw [← List.append_assoc]
        exact ih
theorem part_len (p : Int) (xs : List Int) : (lessL p xs).length + (evenL p xs).length + (moreL p xs).length = xs.length := by
  have := (part_perm p xs).length_eq
  rw [List.length_append, List.length_append] at this
  exact this
theorem even_pos {p : Int} {xs : List Int} (h : p ∈ xs) : 0 < (evenL p xs).length := List.length_pos_of_mem (List.mem_filter.2 ⟨h, by simp⟩)
theorem rise3 {p : Int} {us vs : List Int} {k : Nat} (ha : Rising us) (hb : Rising vs) (h1 : ∀ x ∈ us, x < p) (h2 : ∀ x ∈ vs, p < x) : Rising (us ++ List.replicate k p ++ vs) := by
  unfold Rising at *
  rw [List.pairwise_append, List.pairwise_append]
  refine ⟨⟨ha, ?_, fun x hx y hy => ?_⟩, hb, fun x hx y hy => ?_⟩
  · rw [List.pairwise_replicate]; exact .inr (Int.le_refl _)
  · rw [List.eq_of_mem_replicate hy]; exact Int.le_of_lt (h1 x hx)
  · have := h2 y hy
    rcases List.mem_append.1 hx with hx | hx
    · have := h1 x hx; omega
    · rw [List.eq_of_mem_replicate hx]; omega
theorem rising_of (xs : List Int) : ∃ ys, Rising ys ∧ ys.Perm xs := ⟨xs.mergeSort (fun a b => decide (a ≤ b)), by
  have := List.pairwise_mergeSort (le := fun a b : Int => decide (a ≤ b)) (by intro a b c; simp; omega) (by intro a b; simp; omega) xs
  exact this.imp (by intro a b h; simpa using h), List.mergeSort_perm _ _⟩
theorem all_less {p : Int} {xs us : List Int} (h : us.Perm (lessL p xs)) : ∀ x ∈ us, x < p := fun x hx => by simpa [lessL] using (List.mem_filter.1 (h.mem_iff.1 hx)).2
theorem all_more {p : Int} {xs us : List Int} (h : us.Perm (moreL p xs)) : ∀ x ∈ us, p < x := fun x hx => by simpa [moreL] using (List.mem_filter.1 (h.mem_iff.1 hx)).2
theorem perm3 {p : Int} {xs us vs : List Int} (ha : us.Perm (lessL p xs)) (hb : vs.Perm (moreL p xs)) : (us ++ List.replicate (evenL p xs).length p ++ vs).Perm xs := by
  rw [← even_rep]
  exact ((ha.append_right _).append hb).trans (part_perm p xs)
theorem nth_less {p v : Int} {xs : List Int} {i : Nat} (h : NthP (lessL p xs) i v) : NthP xs i v := by
  obtain ⟨us, ha, hp, hv⟩ := h
  obtain ⟨vs, hb, hq⟩ := rising_of (moreL p xs)
  have hi : i < us.length := (List.getElem?_eq_some_iff.1 hv).1
  refine ⟨_, rise3 ha hb (all_less hp) (all_more hq), perm3 hp hq, ?_⟩
  rw [List.append_assoc, List.getElem?_append_left hi]
  exact hv
theorem nth_even {p : Int} {xs : List Int} {i : Nat} (h1 : (lessL p xs).length ≤ i) (h2 : i < (lessL p xs).length + (evenL p xs).length) : NthP xs i p := by
  obtain ⟨us, ha, hp⟩ := rising_of (lessL p xs)
  obtain ⟨vs, hb, hq⟩ := rising_of (moreL p xs)
  have hl := hp.length_eq
  refine ⟨_, rise3 ha hb (all_less hp) (all_more hq), perm3 hp hq, ?_⟩
  rw [List.append_assoc, List.getElem?_append_right (by omega), List.getElem?_append_left (by rw [List.length_replicate]; omega), List.getElem?_replicate, if_pos (by omega)]
theorem nth_more {p v : Int} {xs : List Int} {i : Nat} (h1 : (lessL p xs).length + (evenL p xs).length ≤ i) (h : NthP (moreL p xs) (i - ((lessL p xs).length + (evenL p xs).length)) v) : NthP xs i v := by
  obtain ⟨vs, hb, hq, hv⟩ := h
  obtain ⟨us, ha, hp⟩ := rising_of (lessL p xs)
  have hl := hp.length_eq
  refine ⟨_, rise3 ha hb (all_less hp) (all_more hq), perm3 hp hq, ?_⟩
  rw [List.getElem?_append_right (by rw [List.length_append, List.length_replicate]; omega), List.length_append, List.length_replicate, hl]
  exact hv
theorem rise_one : ∀ {l l' : List Int}, Rising l → Rising l' → l'.Perm l → l' = l
  | [], l', _, _, hp => List.perm_nil.1 hp
  | a :: l, [], _, _, hp => by have := hp.length_eq; simp at this
  | a :: l, b :: l', h, h', hp => by
    have hh := List.pairwise_cons.1 h
    have hh' := List.pairwise_cons.1 h'
    have hab : b = a := by
      have h1 : a ∈ b :: l' := hp.mem_iff.2 (by simp)
      have h2 : b ∈ a :: l := hp.mem_iff.1 (by simp)
      rcases List.mem_cons.1 h2 with e | e
      · exact e
      · rcases List.mem_cons.1 h1 with e2 | e2
        · exact e2.symm
        · have := hh.1 b e; have := hh'.1 a e2; omega
    subst hab
    rw [rise_one hh.2 hh'.2 (List.perm_cons b |>.1 hp)]
theorem NthP.one {xs : List Int} {i : Nat} {u v : Int} (h : NthP xs i u) (h' : NthP xs i v) : u = v := by
  obtain ⟨us, ha, hp, hu⟩ := h
  obtain ⟨vs, hb, hq, hv⟩ := h'
  rw [rise_one hb ha (hp.trans hq.symm)] at hu
  rw [hu] at hv
  exact Option.some.inj hv
theorem NthP.mem {xs : List Int} {i : Nat} {v : Int} (h : NthP xs i v) : v ∈ xs := by
  obtain ⟨us, _, hp, hu⟩ := h
  exact hp.mem_iff.1 (List.mem_of_getElem? hu)
/-- the median: of the ordered list what lies in the middle; the same by both ways -/
theorem med_is {xs ys : List Int} {lo hi : Int} (hr : Rising ys) (hp : ys.Perm xs) (h0 : 0 < xs.length) (h1 : NthP xs ((xs.length - 1) / 2) lo) (h2 : NthP xs (xs.length / 2) hi) : rnd (lo + hi) 2 = medP ys := by
  have hl := hp.length_eq
  have e1 : ys[(xs.length - 1) / 2]? = some lo := by
    obtain ⟨us, ha, hq, hu⟩ := h1
    rw [rise_one ha hr (hp.trans hq.symm)]; exact hu
  have e2 : ys[xs.length / 2]? = some hi := by
    obtain ⟨us, ha, hq, hu⟩ := h2
    rw [rise_one ha hr (hp.trans hq.symm)]; exact hu
  by_cases hodd : xs.length % 2 = 1
  · rw [medP_odd (n := xs.length) hl hodd, e2]
    have : (xs.length - 1) / 2 = xs.length / 2 := by omega
    rw [this, e2] at e1
    obtain rfl := Option.some.inj e1
    simp only [Option.getD_some, rnd]
    omega
  · rw [medP_even (n := xs.length) hl (by omega), e2]
    have : (xs.length - 1) / 2 = xs.length / 2 - 1 := by omega
    rw [this] at e1
    rw [e1]
    rfl
end Go.Proofs.Ytfnjndbnogeddaa
