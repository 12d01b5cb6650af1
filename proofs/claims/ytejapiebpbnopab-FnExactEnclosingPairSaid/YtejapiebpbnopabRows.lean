/-
  No cell of these rows narrows 'for every input' (looked for: loops, veiled, ifaces, maps, wideKeys, modest, calm, conditions, laid).
  DERIVED. THE GIVEN ROWS OF THIS SEAT. 5 by the template 'for every input the law returns true; each argument reads behind the call as it read before'; 0 by the template 'total and deterministic' (their statements: YtejapiebpbnopabTotals.lean).
  GIVEN WITH THE SEED: the statements are not yours to turn. If you find one false, say at which input.
  Laid BY PROGRAM, IN A SANDBOX (cutbox-rows.mjs): the forced cells as the released guide's own fill.sh prints them over the translation 67e3aabe4fb6172d… (all of the seat's roots in one cut). By AI agents, Wed Nov 11 2026. No macro, syntax, notation, axiom, sorry.
-/
import Derived.Test.YtejapiebpbnopabChecked
import GoSem.Claim
import GoSem.ClaimJoined
import GoSem.ClaimMapViews
import Derived.JoinedTies
import Derived.KernelRfl
namespace Go.Proofs.Ytejapiebpbnopab
/- THE CELL 'sum', in the pinned program and in every row, IS THE sha256 OF THE DUMP (.gsa) THAT YtejapiebpbnopabProg.lean LOADS. Nothing in Lean hashes anything: it is a label: what it is worth is what the hold of that sum in a sandbox is worth. -/
noncomputable def Try.pinned : Pinned := { name := "ytejapiebpbnopab", sum := "67e3aabe4fb6172dcd77293dbe974eeb5eb0b025547d54ddc8645471e4c0e0e8", checked := Try.checked }
namespace Rows
def none {H : Type} : Left H := { results := [], args := [] }

/-- 'laws.FnExactBySteps': WHATEVER THE INPUT: true; the input reads as it did. -/
def fnExactByStepsSpec : ChangeSpec := { name := "fnExactBySteps", fn := fun _ => fun
  | [d1, d2, d3] => { results := [.lit (.bool true)], args := [d1, d2, d3] }
  | _ => none }
def fnExactByStepsRow : OpenClaim := { program := "ytejapiebpbnopab", sum := "67e3aabe4fb6172dcd77293dbe974eeb5eb0b025547d54ddc8645471e4c0e0e8", func := "loop.example/g01026/laws.FnExactBySteps", spec := "fnExactBySteps", apart := false }
def FnExactByStepsSaid : Prop := fnExactByStepsRow.holds Try.pinned (OpenSpec.ofChange fnExactByStepsSpec)

/-- ITS FALSE NEIGHBOUR: 'it returns false'. Refute it at one input. -/
def fnExactByStepsWrong : ChangeSpec := { name := "fnExactBySteps", fn := fun _ => fun
  | [d1, d2, d3] => { results := [.lit (.bool false)], args := [d1, d2, d3] }
  | _ => none }
def FnExactByStepsWrongFalsely : Prop := fnExactByStepsRow.holds Try.pinned (OpenSpec.ofChange fnExactByStepsWrong)

/-- 'laws.FnExactMeanMag': WHATEVER THE INPUT: true; the input reads as it did. -/
def fnExactMeanMagSpec : ChangeSpec := { name := "fnExactMeanMag", fn := fun _ => fun
  | [d] => { results := [.lit (.bool true)], args := [d] }
  | _ => none }
def fnExactMeanMagRow : OpenClaim := { program := "ytejapiebpbnopab", sum := "67e3aabe4fb6172dcd77293dbe974eeb5eb0b025547d54ddc8645471e4c0e0e8", func := "loop.example/g01026/laws.FnExactMeanMag", spec := "fnExactMeanMag", apart := false }
def FnExactMeanMagSaid : Prop := fnExactMeanMagRow.holds Try.pinned (OpenSpec.ofChange fnExactMeanMagSpec)

/-- ITS FALSE NEIGHBOUR: 'it returns false'. Refute it at one input. -/
def fnExactMeanMagWrong : ChangeSpec := { name := "fnExactMeanMag", fn := fun _ => fun
  | [d] => { results := [.lit (.bool false)], args := [d] }
  | _ => none }
def FnExactMeanMagWrongFalsely : Prop := fnExactMeanMagRow.holds Try.pinned (OpenSpec.ofChange fnExactMeanMagWrong)

/-- 'laws.FnExactMedianMag': WHATEVER THE INPUT: true; the input reads as it did. -/
def fnExactMedianMagSpec : ChangeSpec := { name := "fnExactMedianMag", fn := fun _ => fun
  | [d] => { results := [.lit (.bool true)], args := [d] }
  | _ => none }
def fnExactMedianMagRow : OpenClaim := { program := "ytejapiebpbnopab", sum := "67e3aabe4fb6172dcd77293dbe974eeb5eb0b025547d54ddc8645471e4c0e0e8", func := "loop.example/g01026/laws.FnExactMedianMag", spec := "fnExactMedianMag", inPlace := ["internal/reflectlite.ValueOf", "internal/reflectlite.Swapper", "(internal/reflectlite.Value).Len"], unfollowed := true, recurses := true, apart := false }
def FnExactMedianMagSaid : Prop := fnExactMedianMagRow.holds Try.pinned (OpenSpec.ofChange fnExactMedianMagSpec)

/-- ITS FALSE NEIGHBOUR: 'it returns false'. Refute it at one input. -/
def fnExactMedianMagWrong : ChangeSpec := { name := "fnExactMedianMag", fn := fun _ => fun
  | [d] => { results := [.lit (.bool false)], args := [d] }
  | _ => none }
def FnExactMedianMagWrongFalsely : Prop := fnExactMedianMagRow.holds Try.pinned (OpenSpec.ofChange fnExactMedianMagWrong)

/-- 'laws.FnExactRangeOfMags': WHATEVER THE INPUT: true; the input reads as it did. -/
def fnExactRangeOfMagsSpec : ChangeSpec := { name := "fnExactRangeOfMags", fn := fun _ => fun
  | [d] => { results := [.lit (.bool true)], args := [d] }
  | _ => none }
def fnExactRangeOfMagsRow : OpenClaim := { program := "ytejapiebpbnopab", sum := "67e3aabe4fb6172dcd77293dbe974eeb5eb0b025547d54ddc8645471e4c0e0e8", func := "loop.example/g01026/laws.FnExactRangeOfMags", spec := "fnExactRangeOfMags", apart := false }
def FnExactRangeOfMagsSaid : Prop := fnExactRangeOfMagsRow.holds Try.pinned (OpenSpec.ofChange fnExactRangeOfMagsSpec)

/-- ITS FALSE NEIGHBOUR: 'it returns false'. Refute it at one input. -/
def fnExactRangeOfMagsWrong : ChangeSpec := { name := "fnExactRangeOfMags", fn := fun _ => fun
  | [d] => { results := [.lit (.bool false)], args := [d] }
  | _ => none }
def FnExactRangeOfMagsWrongFalsely : Prop := fnExactRangeOfMagsRow.holds Try.pinned (OpenSpec.ofChange fnExactRangeOfMagsWrong)

/-- 'laws.FnExactEnclosingPair': WHATEVER THE INPUT: true; the input reads as it did. -/
def fnExactEnclosingPairSpec : ChangeSpec := { name := "fnExactEnclosingPair", fn := fun _ => fun
  | [d1, d2] => { results := [.lit (.bool true)], args := [d1, d2] }
  | _ => none }
def fnExactEnclosingPairRow : OpenClaim := { program := "ytejapiebpbnopab", sum := "67e3aabe4fb6172dcd77293dbe974eeb5eb0b025547d54ddc8645471e4c0e0e8", func := "loop.example/g01026/laws.FnExactEnclosingPair", spec := "fnExactEnclosingPair", apart := false }
def FnExactEnclosingPairSaid : Prop := fnExactEnclosingPairRow.holds Try.pinned (OpenSpec.ofChange fnExactEnclosingPairSpec)

/-- ITS FALSE NEIGHBOUR: 'it returns false'. Refute it at one input. -/
def fnExactEnclosingPairWrong : ChangeSpec := { name := "fnExactEnclosingPair", fn := fun _ => fun
  | [d1, d2] => { results := [.lit (.bool false)], args := [d1, d2] }
  | _ => none }
def FnExactEnclosingPairWrongFalsely : Prop := fnExactEnclosingPairRow.holds Try.pinned (OpenSpec.ofChange fnExactEnclosingPairWrong)

/- THE SECOND FORM. 'bulk': how many values and letters a reading holds, each counted each time it is reached (what is shared counts as often as it is met; a slice's spare places count too). A statement '..UptoSaid' is the law's where the arguments, and the package variables that the reading takes, are together of bulk at most 1048576: NARROWER than '..Said'. Prove '..Said' where nothing that the law and all that it calls make is longer than what came in: it says more and counts as full. Else prove '..UptoSaid'. A law counts once. -/
mutual
def uptoBulk {H : Type} : DataW H → Nat
  | .lit (.string bytes) => bytes.length + 1
  | .lit _ => 1
  | .nil => 1
  | .ptr d => uptoBulk d + 1
  | .slice elems spare => uptoBulkAll elems + uptoBulkAll spare + 1
  | .agg parts => uptoBulkAll parts + 1
  | .iface _ d => uptoBulk d + 1
  | .map entries => uptoBulkEntries entries + 1
  | .held _ => 1
def uptoBulkAll {H : Type} : List (DataW H) → Nat
  | [] => 0
  | d :: r => uptoBulk d + uptoBulkAll r
def uptoBulkEntries {H : Type} : List (Lit × DataW H) → Nat
  | [] => 0
  | x :: r => uptoBulkEntry x + uptoBulkEntries r
def uptoBulkEntry {H : Type} : Lit × DataW H → Nat
  | (.string bytes, d) => bytes.length + uptoBulk d + 1
  | (_, d) => uptoBulk d + 1
 end
def uptoSmall : (H : Type) → List (DataW H) → Bool := fun _ ds => decide (uptoBulkAll ds ≤ 1048576)
def OpenSpec.upto (s : _root_.Go.ChangeSpec) : _root_.Go.OpenSpec := { _root_.Go.OpenSpec.ofChange s with cond := some uptoSmall }

/-- 'laws.FnExactBySteps', WHERE WHAT IT READS IS OF BULK AT MOST 1048576: true; the input reads as it did. -/
def fnExactByStepsUptoRow : OpenClaim := { program := "ytejapiebpbnopab", sum := "67e3aabe4fb6172dcd77293dbe974eeb5eb0b025547d54ddc8645471e4c0e0e8", func := "loop.example/g01026/laws.FnExactBySteps", spec := "fnExactBySteps", apart := false, narrowed := true }
def FnExactByStepsUptoSaid : Prop := fnExactByStepsUptoRow.holds Try.pinned (OpenSpec.upto fnExactByStepsSpec)

/-- 'laws.FnExactMeanMag', WHERE WHAT IT READS IS OF BULK AT MOST 1048576: true; the input reads as it did. -/
def fnExactMeanMagUptoRow : OpenClaim := { program := "ytejapiebpbnopab", sum := "67e3aabe4fb6172dcd77293dbe974eeb5eb0b025547d54ddc8645471e4c0e0e8", func := "loop.example/g01026/laws.FnExactMeanMag", spec := "fnExactMeanMag", apart := false, narrowed := true }
def FnExactMeanMagUptoSaid : Prop := fnExactMeanMagUptoRow.holds Try.pinned (OpenSpec.upto fnExactMeanMagSpec)

/-- 'laws.FnExactMedianMag', WHERE WHAT IT READS IS OF BULK AT MOST 1048576: true; the input reads as it did. -/
def fnExactMedianMagUptoRow : OpenClaim := { program := "ytejapiebpbnopab", sum := "67e3aabe4fb6172dcd77293dbe974eeb5eb0b025547d54ddc8645471e4c0e0e8", func := "loop.example/g01026/laws.FnExactMedianMag", spec := "fnExactMedianMag", inPlace := ["internal/reflectlite.ValueOf", "internal/reflectlite.Swapper", "(internal/reflectlite.Value).Len"], unfollowed := true, recurses := true, apart := false, narrowed := true }
def FnExactMedianMagUptoSaid : Prop := fnExactMedianMagUptoRow.holds Try.pinned (OpenSpec.upto fnExactMedianMagSpec)

/-- 'laws.FnExactRangeOfMags', WHERE WHAT IT READS IS OF BULK AT MOST 1048576: true; the input reads as it did. -/
def fnExactRangeOfMagsUptoRow : OpenClaim := { program := "ytejapiebpbnopab", sum := "67e3aabe4fb6172dcd77293dbe974eeb5eb0b025547d54ddc8645471e4c0e0e8", func := "loop.example/g01026/laws.FnExactRangeOfMags", spec := "fnExactRangeOfMags", apart := false, narrowed := true }
def FnExactRangeOfMagsUptoSaid : Prop := fnExactRangeOfMagsUptoRow.holds Try.pinned (OpenSpec.upto fnExactRangeOfMagsSpec)

/-- 'laws.FnExactEnclosingPair', WHERE WHAT IT READS IS OF BULK AT MOST 1048576: true; the input reads as it did. -/
def fnExactEnclosingPairUptoRow : OpenClaim := { program := "ytejapiebpbnopab", sum := "67e3aabe4fb6172dcd77293dbe974eeb5eb0b025547d54ddc8645471e4c0e0e8", func := "loop.example/g01026/laws.FnExactEnclosingPair", spec := "fnExactEnclosingPair", apart := false, narrowed := true }
def FnExactEnclosingPairUptoSaid : Prop := fnExactEnclosingPairUptoRow.holds Try.pinned (OpenSpec.upto fnExactEnclosingPairSpec)

end Rows
end Go.Proofs.Ytejapiebpbnopab
