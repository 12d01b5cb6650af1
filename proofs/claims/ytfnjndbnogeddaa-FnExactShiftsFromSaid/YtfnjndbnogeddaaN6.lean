/- MedianDiff, the program's. -/
import Derived.Test.YtfnjndbnogeddaaN4
import Derived.Test.YtfnjndbnogeddaaN5
namespace Go.Proofs.Ytfnjndbnogeddaa
open Go.ChangeShapes Go.WideShapes Go.ChangeAt Go.RowKit Go.Shelf
attribute [local go_sem] Oper.semAt_some

/-- what comes of a list of estimates for b against a -/
def selD (a b : Int) (ys : List Cm) : List Int := (ys.filter (isAB a b)).map fun x => x.2.2
theorem selD_yes {a b : Int} (ys : List Cm) {x0 x1 x2 : Int} (h : isAB a b (x0, x1, x2) = true) : selD a b (ys ++ [(x0, x1, x2)]) = selD a b ys ++ [x2] := by simp [selD, List.filter_append, h]
theorem selD_no {a b : Int} (ys : List Cm) {x0 x1 x2 : Int} (h : isAB a b (x0, x1, x2) = false) : selD a b (ys ++ [(x0, x1, x2)]) = selD a b ys := by simp [selD, List.filter_append, h]
theorem selD_len (a b : Int) (ys : List Cm) : (selD a b ys).length ≤ ys.length := by rw [selD, List.length_map]; exact List.length_filter_le _ _
theorem selD_both (a b : Int) (xs : List Cm) : selD a b (bothL xs) = difL a b xs := rfl
/-- a box of a common estimate -/
def CmBox (T : TypeId) (W : World) (B : Nat) (x : Cm) : Prop := W.heap[B]? = some (.cells #[.int .i64 x.1, .int .i64 x.2.1, .int .i64 x.2.2] T (0, 0))
theorem CmBox.cells {T : TypeId} {W : World} {B : Nat} {x0 x1 x2 : Int} (h : CmBox T W B (x0, x1, x2)) : W.cell? ⟨B, 0, none⟩ = some (.int .i64 x0) ∧ W.cell? ⟨B, 1, none⟩ = some (.int .i64 x1) ∧ W.cell? ⟨B, 2, none⟩ = some (.int .i64 x2) :=
  ⟨cell_of_row W B 0 _ _ _ h, cell_of_row W B 1 _ _ _ h, cell_of_row W B 2 _ _ _ h⟩
theorem cmBox_own (T : TypeId) (D B : Nat) (x : Cm) : OwnFrom D (fun (_ : Unit) W => CmBox T W B x) := fun _ X Y row hs hg hr => by
  refine (hg.block B (Array.getElem?_eq_some_iff.1 hs).1 (fun e => ?_)).trans hs
  obtain ⟨_, o, ho, hc⟩ := hr B e.symm
  rw [show X.heap[B]? = _ from hs] at ho; cases ho; cases hc
theorem KpC.appended {n₀ B base : Nat} {T t e : TypeId} {size k : Nat} {W w1 : World} {v v' : Value} {xs : List Value} {tmp : Obj} (hn : n₀ ≤ W.heap.size) (hb : n₀ ≤ base) (hB : n₀ ≤ B) (hv1 : Boxed w1 B t v) (ht : t ≠ T) (he : e ≠ T)
    (hrow : W.ownsRow base e size v k xs) (hgrow : (W.alloc tmp).grownBy w1 v.ownBlock) : KpC n₀ T W (w1.setCell ⟨B, 0, none⟩ v') := by
  have h1 : KpC n₀ T (W.alloc tmp) w1 := KpC.grown (by simp; omega) hgrow (fun g e' => by
    rcases (hrow.alloc tmp).2 with ⟨rfl, _⟩ | ⟨g', cap, cur, rfl, hb', hgb, _⟩
    · simp [Value.ownBlock] at e'
    · obtain rfl : g' = g := by simpa [Value.ownBlock] using e'
      exact ⟨by omega, fun cs fz e'' => by rw [hgb] at e''; cases e''; exact he rfl⟩)
  have hs := hgrow.size
  simp at hs
  exact ((KpC.alloc hn tmp).trans h1).trans (KpC.set (by omega) hB hv1 ht v')
theorem own_form1 {w : World} {B T n : Nat} {v : Value} {xs : List Value} (h : w.ownsRow B T 1 v n xs) : (n = 0 ∧ v = .slice none 0 0) ∨ ∃ g c, v = .slice (some ⟨g, 0, none⟩) n c := by
  rcases h.2 with ⟨hv, h0⟩ | ⟨g, cap, cur, hv, _⟩
  · exact .inl ⟨h0, hv⟩
  · exact .inr ⟨g, cap, hv⟩
end Go.Proofs.Ytfnjndbnogeddaa
