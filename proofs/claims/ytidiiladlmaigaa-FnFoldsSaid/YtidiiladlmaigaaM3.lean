/- The model's sorting (l02Sort). -/
import Derived.Test.YtidiiladlmaigaaM2
import Derived.Deep.RegionLaw
import Derived.Deep.RegionHeld3
import Derived.Deep.AppendLies
namespace Go.Proofs.Ytidiiladlmaigaa
open Go.ChangeShapes Go.WideShapes Go.ChangeAt Go.RowKit
theorem cellNew {W : World} {b : Nat} {v : Value} {t : TypeId} (h : b = W.heap.size) : (W.alloc (.cells #[v] t)).cell? ⟨b, 0 + 0, none⟩ = some v := by
  subst h
  rw [World.cell?_alloc_new]; rfl
theorem own_low {w : World} {B B' e size n : Nat} {v : Value} {xs : List Value} (h : w.ownsRow B e size v n xs) (hb : B' ≤ B) : w.ownsRow B' e size v n xs := by
  refine ⟨h.1, ?_⟩
  rcases h.2 with h0 | ⟨g, cap, cur, hv, hg, rest⟩
  · exact .inl h0
  · exact .inr ⟨g, cap, cur, hv, Nat.le_trans hb hg, rest⟩
theorem tail_cells {wr w3 : World} {g' k i : Nat} {ys : List Int} (hyl : ys.length = i) (hys : ∀ j, j < i → wr.cell? ⟨g', j, none⟩ = some (.int .i64 (ys[j]?.getD 0))) (hg : g' < wr.heap.size) (hb : Below wr.heap.size wr w3) :
    ∀ (j : Nat) (u : Value), ((ys.drop k).map (Value.int .i64))[j]? = some u → w3.cell? ((⟨g', k, none⟩ : Addr).add j) = some u := fun j u hj => by
  have hlt := (List.getElem?_eq_some_iff.1 hj).1
  rw [List.length_map, List.length_drop] at hlt
  rw [Go.WideShapes.add_plain, hb.cell (p := ⟨g', k + j, none⟩) hg, hys (k + j) (by omega), ← hj, List.getElem?_map, List.getElem?_drop, List.getElem?_eq_getElem (by omega)]
  rfl
theorem own_put {w4 : World} {B : Nat} {T : TypeId} {v' : Value} {k i : Nat} {x : Int} {ys : List Int} (_hyl : ys.length = i) (hki : k ≤ i) (h : w4.ownsRow B T 1 v' (k + 1 + (i - k)) (List.take k (List.map (Value.int .i64) ys) ++ Value.int .i64 x :: List.drop k (List.map (Value.int .i64) ys))) (hn : ¬ v' = .slice none 0 0) :
    ∃ g c, v' = .slice (some ⟨g, 0, none⟩) (k + 1 + (i - k)) c ∧ w4.ownsRow B T 1 (.slice (some ⟨g, 0, none⟩) (i + 1) c) (i + 1) ((putAt ys k x).map (Value.int .i64)) := by
  have e : (putAt ys k x).map (Value.int .i64) = List.take k (List.map (Value.int .i64) ys) ++ Value.int .i64 x :: List.drop k (List.map (Value.int .i64) ys) := by simp [putAt, List.map_take, List.map_drop]
  have hlen : k + 1 + (i - k) = i + 1 := by omega
  rcases h.2 with ⟨hv, _⟩ | ⟨g, c, cur, hv, _⟩
  · exact absurd hv hn
  · subst hv
    rw [hlen] at h
    exact ⟨g, c, rfl, by rw [e]; exact h⟩
end Go.Proofs.Ytidiiladlmaigaa
