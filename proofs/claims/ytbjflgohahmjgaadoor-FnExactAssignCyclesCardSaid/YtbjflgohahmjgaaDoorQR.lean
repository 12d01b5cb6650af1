/- A region that draws its order whose first two operations are bound to come first, the rest of which only reads. -/
import Derived.Test.YtbjflgohahmjgaaDoorB1
import Derived.Deep.RegionWith
import Derived.StillTailTactics
namespace Go.Proofs.YtbjflgohahmjgaaDoor
open Go.ChangeShapes Go.WideShapes Go.ChangeAt Go.RowKit

theorem wpAny_rest2 {P : Program} {md : Region.Mode} {o0 o1 : Oper} {l : List Oper} {Q' : Exit → Act → World → Prop} {fuel : Nat} {listed : Array Bool} {a : Act} {w : World}
    (hf : fuel = l.length) (hs : Region.noSelect (o0 :: o1 :: l).toArray = true) (hB : Region.lexFrom md (o0 :: o1 :: l).toArray l.length 2 listed = true)
    (h : wpQuiet P (o0 :: o1 :: l).toArray (fun w' => ∃ n, w' = w.drewN n) (fun a' => ∀ w', (∃ n, w' = w.drewN n) → Q' .normal a' w') l a) :
    wpAny P md (o0 :: o1 :: l).toArray Q' fuel listed a w := by
  subst hf
  refine wpAny_of_quiet (C := fun w' => ∃ n, w' = w.drewN n) (Q := fun a' => ∀ w', (∃ n, w' = w.drewN n) → Q' .normal a' w') (fun _ w' hw' h => h w' hw') _ _ _ _ ⟨0, rfl⟩ ?_
  refine wpAnyQ_lex hs l 2 listed a (fun j => ?_) hB h
  simp [Nat.add_comm 2 j]
theorem still_of_quiet {P : Program} {ops : Array Oper} {w : World} {Q : Act → Prop} : ∀ (l : List Oper) (a : Act), wpQuiet P ops (fun w' => w' = w) Q l a → wpStill P ops w Q l a
  | [], _, h => h
  | o :: l, a, h => by
    show if Region.wanted o (yielded ops a.tmps) then o.still P a w (wpStill P ops w Q l) else wpStill P ops w Q l (a.put o.dst undef)
    have h' : if Region.wanted o (yielded ops a.tmps) then o.quiet P a (fun w' => w' = w) (wpQuiet P ops (fun w' => w' = w) Q l) else wpQuiet P ops (fun w' => w' = w) Q l (a.put o.dst undef) := h
    by_cases hw : Region.wanted o (yielded ops a.tmps) = true
    · rw [if_pos hw] at h' ⊢
      obtain ⟨v, hv, hn⟩ := h'
      have hq : Oper.quietUpon P (fun w' => w' = w) w v ((execOp a.eval o).run P w) := hv w rfl
      show Oper.stillUpon P o a w (wpStill P ops w Q l) ((execOp a.eval o).run P w)
      generalize (execOp a.eval o).run P w = r at hq
      match r, hq with
      | .ok (.value u) w', hq => exact ⟨hq.1, by rw [hq.2]; exact still_of_quiet l _ hn⟩
      | .ok .skip w', hq => exact ⟨hq.1, by have := still_of_quiet l _ hn; rw [hq.2] at this; exact this⟩
      | .ok (.enter f args) w', hq => exact ⟨hq.1, v, hq.2, still_of_quiet l _ hn⟩
    · rw [if_neg hw] at h' ⊢
      exact still_of_quiet l _ h'
theorem region_tail {P : Program} {id : Nat} {Q : Exit → Act → World → Prop} {a : Act} {w : World} {l : List Oper} (n : Nat) (hm : P.follows .mixedOrders = true) (hB : Region.lexTailB .any l.toArray n = true)
    (h : wpQuiet P l.toArray (fun w' => w' = w.drew) (fun a' => wpList P l.toArray Q (l.drop n) a' w.drew) (l.take n) a) : (Code.region id l.toArray true).wp P Q a w :=
  wp_region_still_tail n hm hB (still_of_quiet _ _ h)
end Go.Proofs.YtbjflgohahmjgaaDoor
