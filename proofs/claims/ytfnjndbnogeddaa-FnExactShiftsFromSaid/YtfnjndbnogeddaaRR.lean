/- A region that draws its order, in a round of a loop over an iterator: by the plain law (at the wide fence). -/
import Derived.OrdersIn
import Derived.StillTailTactics
import Derived.RangeFuncCalls
import Derived.OwnWalkIn
namespace Go.Proofs.Ytfnjndbnogeddaa

variable {P : Program} {ops : Array Oper} {Q : Exit → Act → World → Prop} {md : Region.Mode} {l n : Nat}

theorem upon_in {o : Oper} {a : Act} {K K' : Act → World → Prop} (hQ : ¬ LetsOut Q) (hK : ∀ a w, K a w → K' a w) (r : Result Next) (h : o.upon P a K Q r) : o.uponIn (Fence.wide.inRound l) n P a K' Q r := by
  have hd : (Fence.wide.inRound l).depth.isSome = true → 1 ≤ n := fun h => by cases h
  cases r with
  | ok x w' =>
    cases x with
    | value v => exact hK _ _ h
    | skip => exact hK _ _ h
    | «defer» d => exact hK _ _ h
    | enter f args =>
      refine ⟨hd, CallsIn.inRound l (callsIn_wide.2 (Calls.mono h fun e w'' he => ?_))⟩
      cases e with
      | returned v => exact hK _ _ he
      | panicked c => exact he
      | outgrown => exact absurd he hQ
    | row row args => exact ⟨hd, fun c cs _ => let ⟨v, w'', r, s⟩ := h c cs; ⟨v, w'', hK _ _ r, stepsIn_wide.2 s⟩⟩
    | _ => exact h.elim
  | halt x w' => cases x <;> first | exact h | exact h.elim
theorem op_in {i : Nat} {a : Act} {w : World} {K K' : Act → World → Prop} (hQ : ¬ LetsOut Q) (hd : ∀ (i : Nat) (o : Oper) c, ops[i]? = some o → o.op ≠ .defer c) (hK : ∀ a w, K a w → K' a w) (h : wpOp P ops Q i K a w) : wpOpIn (Fence.wide.inRound l) n P ops Q i K' a w := by
  unfold wpOp at h
  unfold wpOpIn
  cases ho : ops[i]? with
  | none => simp only [ho] at h; exact hK _ _ h
  | some o =>
    simp only [ho] at h
    show (if _ then _ else _)
    by_cases hw : Region.wanted o (yielded ops a.tmps) = true
    · rw [if_pos hw] at h ⊢
      rcases h with h | ⟨_, h⟩
      · refine ⟨fun _ _ => trivial, ?_⟩
        rw [Oper.semAt_eq _ _ _ (fun c => hd i o c ho)]
        exact upon_in hQ hK _ h
      · exact absurd h hQ
    · rw [if_neg hw] at h ⊢
      exact ⟨fun _ _ => trivial, hK _ _ h⟩
theorem any_in (hQ : ¬ LetsOut Q) (hd : ∀ (i : Nat) (o : Oper) c, ops[i]? = some o → o.op ≠ .defer c) : ∀ (fuel : Nat) (listed : Array Bool) (a : Act) (w : World), wpAny P md ops Q fuel listed a w → wpAnyIn (Fence.wide.inRound l) n P md ops Q fuel listed a w
  | 0, _, _, _, h => h
  | fuel + 1, _, _, _, h => ⟨h.1, fun i hi => op_in hQ hd (any_in hQ hd fuel _) (h.2 i hi)⟩
def onlyOn (Q : Exit → Act → World → Prop) : Exit → Act → World → Prop := fun e a w => e = .normal ∧ Q .normal a w
theorem noDefer {l : List Oper} (h : l.all (fun o => match o.op with | .defer _ => false | _ => true) = true) : ∀ (i : Nat) (o : Oper) c, l.toArray[i]? = some o → o.op ≠ .defer c := fun i o c hi e => by
  have hm : o ∈ l := List.mem_of_getElem? (by simpa using hi)
  have := List.all_eq_true.1 h o hm
  rw [e] at this
  cases this
theorem region_in_round {ls : List Oper} {id : Nat} {a : Act} {w : World} (hm : P.follows .mixedOrders = true) (hd : ls.all (fun o => match o.op with | .defer _ => false | _ => true) = true)
    (h : wpAny P .any ls.toArray (onlyOn Q) ls.toArray.size (Array.replicate ls.toArray.size false) a { w with drawn := w.drawn + 1 }) : (Code.region id ls.toArray true).wpIn (Fence.wide.inRound l) n P Q a w := by
  refine Code.wpIn_mono (Q := onlyOn Q) (fun e a w h => by obtain ⟨rfl, h⟩ := h; exact h) (wpIn_region_any hm (any_in (by rintro ⟨_, _, h, _⟩; cases h) (noDefer hd) _ _ _ _ h))
/-- the head in any order (it only reads), then the tail: in a round -/
theorem tail_in_round {ls : List Oper} {id : Nat} {a : Act} {w : World} (N : Nat) (hm : P.follows .mixedOrders = true) (hd : ls.all (fun o => match o.op with | .defer _ => false | _ => true) = true) (hB : Region.lexTailB .any ls.toArray N = true)
    (h : wpStill P ls.toArray { w with drawn := w.drawn + 1 } (fun a' => wpList P ls.toArray (onlyOn Q) (ls.drop N) a' { w with drawn := w.drawn + 1 }) (ls.take N) a) : (Code.region id ls.toArray true).wpIn (Fence.wide.inRound l) n P Q a w := by
  refine region_in_round hm hd ?_
  simp only [Region.lexTailB, Bool.and_eq_true, decide_eq_true_eq] at hB
  obtain ⟨⟨⟨⟨h1, h2⟩, h3⟩, h4⟩, h5⟩ := hB
  have hlt : N < ls.length := by simpa using h2
  have ht : (ls.take N).length = N := by simp; omega
  have hdr : (ls.drop N).length = ls.toArray.size - N := by simp
  have hi : HeadInv .any ls.toArray N (Array.replicate ls.toArray.size false) := by
    constructor
    · simp
    · intro j oj _ e; rw [getD_replicate_false] at e; cases e
    · intro t _ e; exact getD_in (by simpa using e) (getD_replicate_false _ _)
  have H := wpAnyL_lex (md := .any) (g := ls.toArray.size - N) h1 h3 h4 h2 (ls.take N) 0 _ a (fun j hj => by rw [ht] at hj; simp [hj]) (by rw [Nat.zero_add, ht]) hi (by rw [ht]; exact h5) h
  have H2 := wpAny_of_head (Q' := onlyOn Q) (g := ls.toArray.size - N) (fun listed a' hL => by
    have := wpAny_of_seq (md := .any) (Q' := onlyOn Q) (ls.drop N) N listed a' _ (fun j => by simp [List.getElem?_drop]) (by rw [hdr]; exact hL.1) hL.2
    rw [hdr] at this
    exact this) _ _ _ H
  rw [ht, show N + (ls.toArray.size - N) = ls.toArray.size from by omega] at H2
  exact H2
end Go.Proofs.Ytfnjndbnogeddaa
