/- MedianMag: the model's sorting in plain lists: a number put to its place among rising ones; one rising list for one list. -/
import Derived.Test.YtidiiladlmaigaaB1
namespace Go.Proofs.Ytidiiladlmaigaa

def Rising (l : List Int) : Prop := l.Pairwise (· ≤ ·)
def putAt (l : List Int) (k : Nat) (x : Int) : List Int := l.take k ++ x :: l.drop k
theorem putAt_len (l : List Int) (k : Nat) (x : Int) : (putAt l k x).length = l.length + 1 := by
  unfold putAt
  rw [List.length_append, List.length_cons, List.length_take, List.length_drop]
  omega
theorem putAt_perm (l : List Int) (k : Nat) (x : Int) : (putAt l k x).Perm (x :: l) := by
  unfold putAt
  refine List.perm_middle.trans ?_
  rw [List.take_append_drop]
theorem putAt_rising {l : List Int} {k : Nat} {x : Int} (h : Rising l) (hr : ∀ j, k ≤ j → j < l.length → x ≤ l[j]?.getD 0) (hl : k = 0 ∨ (k ≤ l.length ∧ l[k - 1]?.getD 0 ≤ x)) : Rising (putAt l k x) := by
  have hx : ∀ y ∈ l.drop k, x ≤ y := fun y hy => by
    obtain ⟨j, hj, rfl⟩ := List.mem_iff_getElem.1 hy
    rw [List.length_drop] at hj
    have := hr (k + j) (by omega) (by omega)
    rw [List.getElem_drop]
    rwa [List.getElem?_eq_getElem (by omega)] at this
  have ha : ∀ a ∈ l.take k, a ≤ x := fun a ha => by
    rcases hl with rfl | ⟨hkl, hl⟩
    · simp at ha
    · obtain ⟨j, hj, rfl⟩ := List.mem_iff_getElem.1 ha
      rw [List.length_take] at hj
      rw [List.getElem_take]
      have h1 : l[k - 1]'(by omega) ≤ x := by rwa [List.getElem?_eq_getElem (by omega)] at hl
      by_cases hjk : j = k - 1
      · subst hjk; exact h1
      · exact Int.le_trans ((List.pairwise_iff_getElem.1 h) j (k - 1) (by omega) (by omega) (by omega)) h1
  unfold Rising putAt
  rw [List.pairwise_append]
  refine ⟨h.sublist (List.take_sublist _ _), List.pairwise_cons.2 ⟨hx, h.sublist (List.drop_sublist _ _)⟩, fun a h1 y h2 => ?_⟩
  rcases List.mem_cons.1 h2 with rfl | h2
  · exact ha a h1
  · exact Int.le_trans (ha a h1) (hx y h2)
theorem rising_one : ∀ {l l' : List Int}, Rising l → Rising l' → l.Perm l' → l = l'
  | [], l', _, _, hp => by rw [List.nil_perm.1 hp]
  | a :: l, [], _, _, hp => by have := hp.length_eq; simp at this
  | a :: l, b :: l', h, h', hp => by
    have hab : a = b := by
      have h1 : a ∈ b :: l' := hp.mem_iff.1 (by simp)
      have h2 : b ∈ a :: l := hp.mem_iff.2 (by simp)
      rcases List.mem_cons.1 h1 with e | e
      · exact e
      · rcases List.mem_cons.1 h2 with e2 | e2
        · exact e2.symm
        · exact Int.le_antisymm ((List.pairwise_cons.1 h).1 b e2) ((List.pairwise_cons.1 h').1 a e)
    subst hab
    rw [rising_one (List.pairwise_cons.1 h).2 (List.pairwise_cons.1 h').2 (List.perm_cons a |>.1 hp)]
theorem take_perm {xs : List Int} {k : Nat} (hk : k < xs.length) {out : List Int} (h : out.Perm (xs.take k)) (i : Nat) : (putAt out i (xs[k]?.getD 0)).Perm (xs.take (k + 1)) := by
  refine (putAt_perm _ _ _).trans ?_
  rw [List.take_succ_eq_append_getElem hk, List.getElem?_eq_getElem hk, Option.getD_some]
  exact (List.Perm.cons _ h).trans (List.perm_append_singleton _ _).symm
end Go.Proofs.Ytidiiladlmaigaa
