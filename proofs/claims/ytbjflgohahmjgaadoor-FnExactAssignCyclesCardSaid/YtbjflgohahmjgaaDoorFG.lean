/- Phases, said with the whole world behind the call (for a sort's closure). -/
import Derived.Test.YtbjflgohahmjgaaDoorF1
import Derived.Shelf.SlSorted.Search
import Derived.Sort.Grow
namespace Go.Proofs.YtbjflgohahmjgaaDoor
open Go.ChangeShapes Go.WideShapes Go.ChangeAt Go.RowKit Go.Deep

/-- some draws, and new blocks: nothing else -/
def GRW (w w' : World) : Prop := ∃ q os, w' = Go.Sort.grow (w.drewN q) os
theorem GRW.refl (w : World) : GRW w w := ⟨0, #[], by rw [Go.Sort.grow_empty]; rfl⟩
theorem GRW.trans {a b c : World} (h : GRW a b) (k : GRW b c) : GRW a c := by
  obtain ⟨q, os, rfl⟩ := h
  obtain ⟨q2, os2, rfl⟩ := k
  exact ⟨q + q2, os ++ os2, by simp [Go.Sort.grow, World.drewN, Array.append_assoc, Nat.add_assoc]⟩
theorem GRW.alloc {a b : World} (h : GRW a b) (o : Obj) : GRW a (b.alloc o) := h.trans ⟨0, #[o], by rw [Go.Sort.alloc_eq_grow]; rfl⟩
theorem GRW.drew {a b : World} (h : GRW a b) : GRW a b.drew := h.trans ⟨1, #[], by rw [Go.Sort.grow_empty]; rfl⟩
theorem GRW.drewN {a b : World} (h : GRW a b) (n : Nat) : GRW a (b.drewN n) := h.trans ⟨n, #[], by rw [Go.Sort.grow_empty]⟩
theorem GRW.below {a b : World} (h : GRW a b) : Below a.heap.size a b := by
  obtain ⟨q, os, rfl⟩ := h
  exact below_grown_sl _ _ _ _ (Nat.le_refl _)
theorem iExtG (e p c : Int) (w : World) (h1 : 0 ≤ e) (h2 : e ≤ 10000000) (h5 : -100000000 ≤ c * p) (h6 : c * p ≤ 100000000) :
    Calls Tryd.prog 77 #[.agg #[.int .i64 e, .int .i64 p], .int .i64 c] w fun x w' => x = .returned (.int .i64 (e + c * p)) ∧ GRW w w' := by
  go_enter Tryd.func77, Tryd.ntmps77
  go_wp2
  go_ret
  exact ⟨rfl, by (repeat (first | assumption | exact GRW.refl _ | refine GRW.drewN ?_ _ | refine GRW.drew ?_ | refine GRW.alloc ?_ _ | refine GRW.trans ?_ (by assumption)))⟩
end Go.Proofs.YtbjflgohahmjgaaDoor
