/- ValidObservers, the program's: areOrdered at observers by their names. -/
import Derived.Test.YtfnjndbnogeddaaO2
import Derived.Test.YtfnjndbnogeddaaCB
namespace Go.Proofs.Ytfnjndbnogeddaa
open Go.ChangeShapes Go.WideShapes Go.ChangeAt Go.RowKit Go.Deep

theorem wpAny_rest3 {P : Program} {md : Region.Mode} {o0 o1 o2 : Oper} {l : List Oper} {Q' : Exit → Act → World → Prop} {fuel : Nat} {listed : Array Bool} {a : Act} {w : World}
    (hf : fuel = l.length) (hs : Region.noSelect (o0 :: o1 :: o2 :: l).toArray = true) (hB : Region.lexFrom md (o0 :: o1 :: o2 :: l).toArray l.length 3 listed = true)
    (h : wpQuiet P (o0 :: o1 :: o2 :: l).toArray (fun w' => ∃ n, w' = w.drewN n) (fun a' => ∀ w', (∃ n, w' = w.drewN n) → Q' .normal a' w') l a) :
    wpAny P md (o0 :: o1 :: o2 :: l).toArray Q' fuel listed a w := by
  subst hf
  refine wpAny_of_quiet (C := fun w' => ∃ n, w' = w.drewN n) (Q := fun a' => ∀ w', (∃ n, w' = w.drewN n) → Q' .normal a' w') (fun _ w' hw' h => h w' hw') _ _ _ _ ⟨0, rfl⟩ ?_
  refine wpAnyQ_lex hs l 3 listed a (fun j => ?_) hB h
  simp [Nat.add_comm 3 j]
end Go.Proofs.Ytfnjndbnogeddaa
