/- linkedShifts, the program's: what a round of its first loop keeps; the merging walk from a goal wpAny. -/
import Derived.Test.YtfnjndbnogeddaaL8
import Derived.Test.YtfnjndbnogeddaaN6
import Derived.Test.YtfnjndbnogeddaaRR
import Derived.Deep.RegionLaw
import Derived.Deep.RegionHeld3
import Derived.Deep.AppendLies
import Derived.Maps.OwnIn
namespace Go.Proofs.Ytfnjndbnogeddaa
open Go.ChangeShapes Go.WideShapes Go.ChangeAt Go.RowKit Go.Shelf Go.Deep Go.Maps
attribute [local go_sem] Oper.semAt_some

open Lean Elab Tactic in
/-- go_region_held3's own walk, from a goal 'wpAnyH ..' on (S at the world at hand stands among the hypotheses) -/
elab "walk_held " "(" keep:tactic ")" ppSpace "(" t:tactic ")" : tactic => Go.regionWalkH3 keep t false
theorem C_info : (Try.prog.info? 67).map (fun i => (i.zero, i.size, i.bytes)) = some (some (.agg #[.int .i64 0, .int .i64 0, .int .i64 0]), 3, 24) := by kernel_rfl
theorem AgM.kept2 {w w' : World} {b base : Nat} {ys : List Cm} {row : Option Nat} (h : AgM w b base ys) (hg : w.grownBy w' row) (hr : ∀ g, row = some g → g ≠ b ∧ ∃ o : Obj, w.heap[g]? = some o ∧ o.isCells = false) : AgM w' b base ys := by
  obtain ⟨n, D, V, h1, h2, h3, h4, h5, h6⟩ := h
  refine ⟨n, D, V, h1, h2, h3.kept hg (fun e => (hr b e.symm).1 rfl), h4, fun a => (h5 a).kept hg ?_, h6⟩
  rcases (h5 a).2 with ⟨hv', _⟩ | ⟨g, cap, cur, hv', _, hgc, _⟩
  · left; rw [hv']; rfl
  · right
    rw [hv']
    intro e
    obtain ⟨_, o, ho, hc⟩ := hr g (by simpa [Value.ownBlock] using e.symm)
    rw [hgc] at ho; cases ho; cases hc
theorem KpM.alloc {n₀ : Nat} {T : TypeId} {b : Nat} {W : World} (hn : n₀ ≤ W.heap.size) (hb : b < W.heap.size) (o : Obj) : KpM n₀ T b W (W.alloc o) :=
  ⟨(Below.refl _ W).alloc hn o, fun h => h.alloc hb o, fun _ _ hi => hi.same (((Below.refl _ W).alloc (Nat.le_refl _) o).block b hb), fun i _ _ e _ => ((Below.refl _ W).alloc (Nat.le_refl _) o).block i (Array.getElem?_eq_some_iff.1 e).1⟩
theorem rowOf_turn {W W' : World} {b D i : Nat} {row : Option Nat} (hl : b < W.heap.size) (hb : b < D) (hg : W.grownBy W' row) (hr : ∀ g, row = some g → D ≤ g) (hi : RowOf W' b i) : RowOf W b i :=
  hi.same (hg.block b hl (fun e => by have := hr b e.symm; omega))
theorem AgM.lt {w : World} {b base : Nat} {ys : List Cm} (h : AgM w b base ys) : b < w.heap.size := by
  obtain ⟨n, D, V, h1, h2, h3, _⟩ := h
  exact h3.lt
theorem gtr {a b c : World} {row : Option Nat} (h : a.grownBy b row) (k : b.grownBy c row) : a.grownBy c row :=
  ⟨k.os.trans h.os, k.tape.trans h.tape, k.output.trans h.output, Nat.le_trans h.size k.size, fun i hi hr => (k.block i (Nat.lt_of_lt_of_le hi h.size) hr).trans (h.block i hi hr)⟩
theorem own_cells {w : World} {B T s n : Nat} {v : Value} {xs : List Value} (h : w.ownsRow B T s v n xs) : ∀ g o, v.ownBlock = some g → w.heap[g]? = some o → o.isCells = true := by
  intro g o hg ho
  rcases h.2 with ⟨rfl, _⟩ | ⟨g', cap, cur, rfl, _, hgc, _⟩
  · cases hg
  · obtain rfl : g' = g := by simpa [Value.ownBlock] using hg
    rw [hgc] at ho; cases ho; rfl
theorem AgM.map {w : World} {b base : Nat} {ys : List Cm} (h : AgM w b base ys) : ∃ es clock, w.heap[b]? = some (.map es clock) := by
  obtain ⟨n, D, V, h1, h2, ⟨es, clock, hb, _⟩, _⟩ := h
  exact ⟨es, clock, hb⟩
/-- one more into the map 'against': what a round keeps -/
theorem ag_round {n₀ b base D g7 : Nat} {T : TypeId} {W X wb w2 : World} {v : Value} (hn : n₀ ≤ b) (hbb : b < base) (hbD : b < D) (hm : ∃ es clock, W.heap[b]? = some (.map es clock))
    (hX : Below W.heap.size W X) (hgb : X.grownBy wb v.ownBlock) (hg2 : wb.grownBy w2 (some b)) (hro : ∀ g, v.ownBlock = some g → RowOf W b g ∧ base ≤ g) (hoc : ∀ g o, v.ownBlock = some g → X.heap[g]? = some o → o.isCells = true)
    (hg7 : g7 < wb.heap.size) (hlies : v.ownBlock = some g7 ∨ g7 = X.heap.size) (hRW : ∀ i, RowOf w2 b i → RowOf W b i ∨ g7 = i) (hRI : RowsIn' W b) :
    KeepsFrom D W w2 ∧ KpM n₀ T b W w2 ∧ RowsIn' w2 b ∧ ∀ i, i < W.heap.size → i < base → i ≠ b → w2.heap[i]? = W.heap[i]? := by
  obtain ⟨es, clock, hm⟩ := hm
  have hbW : b < W.heap.size := (Array.getElem?_eq_some_iff.1 hm).1
  have s1 := hX.size
  have s2 := hgb.size
  have s3 := hg2.size
  have hnW : n₀ ≤ W.heap.size := by omega
  have hold : ∀ i, i < W.heap.size → i ≠ b → (∀ g, v.ownBlock = some g → g ≠ i) → w2.heap[i]? = W.heap[i]? := fun i hi h1 h2 =>
    (hg2.block i (by omega) (fun e => h1 (Option.some.inj e))).trans ((hgb.block i (by omega) (fun e => h2 i e.symm rfl)).trans (hX.block i hi))
  have hR2 : RowsIn' w2 b := fun i hi => by
    rcases hRW i hi with h | rfl
    · have := hRI i h; omega
    · omega
  refine ⟨?_, ⟨?_, fun _ => hR2, fun i hi h => ?_, fun i cs fz hi hN => ?_⟩, hR2, fun i hi h1 h2 => hold i hi h2 (fun g hg => by have := (hro g hg).2; omega)⟩
  · exact KeepsFrom.trans (Y := X) ⟨s1, fun k o _ hk _ => (hX.block k (Array.getElem?_eq_some_iff.1 hk).1).trans hk⟩ (KeepsFrom.trans ((KeepsOthers.of_grownBy hgb (fun j o e h => hoc j o e h)).from D) (KeepsFrom.of_grownBy hg2 (fun j e => by cases e; exact hbD)))
  · exact ((hX.mono hnW).grown hgb (by omega) (fun g hg => by have := (hro g hg).2; omega)).grown hg2 (by omega) (fun g hg => by cases hg; exact hn)
  · rcases hRW i h with h | rfl
    · exact h
    · rcases hlies with e | e
      · exact (hro _ e).1
      · omega
  · refine hold i (Array.getElem?_eq_some_iff.1 hi).1 (fun e => ?_) (fun g hg e => hN (by rw [← e]; exact (hro g hg).1))
    subst e
    rw [hm] at hi; cases hi
end Go.Proofs.Ytfnjndbnogeddaa
