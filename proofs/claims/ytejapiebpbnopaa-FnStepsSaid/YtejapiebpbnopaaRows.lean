/-
  No cell of these rows narrows 'for every input' (looked for: loops, veiled, ifaces, maps, wideKeys, modest, calm, conditions, laid).
  DERIVED. THE GIVEN ROWS OF THIS SEAT. 8 by the template 'for every input the law returns true; each argument reads behind the call as it read before'; 0 by the template 'total and deterministic' (their statements: YtejapiebpbnopaaTotals.lean).
  GIVEN WITH THE SEED: the statements are not yours to turn. If you find one false, say at which input.
  Laid BY PROGRAM, IN A SANDBOX (cutbox-rows.mjs): the forced cells as the released guide's own fill.sh prints them over the translation c7f4eda858ae738b… (all of the seat's roots in one cut). By AI agents, Wed Nov 11 2026. No macro, syntax, notation, axiom, sorry.
-/
import Derived.Test.YtejapiebpbnopaaChecked
import GoSem.Claim
import GoSem.ClaimJoined
import GoSem.ClaimMapViews
import Derived.JoinedTies
import Derived.KernelRfl
namespace Go.Proofs.Ytejapiebpbnopaa
/- THE CELL 'sum', in the pinned program and in every row, IS THE sha256 OF THE DUMP (.gsa) THAT YtejapiebpbnopaaProg.lean LOADS. Nothing in Lean hashes anything: it is a label: what it is worth is what the hold of that sum in a sandbox is worth. -/
noncomputable def Try.pinned : Pinned := { name := "ytejapiebpbnopaa", sum := "c7f4eda858ae738b210c13809733dff878eec30abc22d01f75a395b1825f3fa4", checked := Try.checked }
namespace Rows
def none {H : Type} : Left H := { results := [], args := [] }

/-- 'laws.FnSteps': WHATEVER THE INPUT: true; the input reads as it did. -/
def fnStepsSpec : ChangeSpec := { name := "fnSteps", fn := fun _ => fun
  | [d1, d2] => { results := [.lit (.bool true)], args := [d1, d2] }
  | _ => none }
def fnStepsRow : OpenClaim := { program := "ytejapiebpbnopaa", sum := "c7f4eda858ae738b210c13809733dff878eec30abc22d01f75a395b1825f3fa4", func := "loop.example/g01026/laws.FnSteps", spec := "fnSteps", apart := false }
def FnStepsSaid : Prop := fnStepsRow.holds Try.pinned (OpenSpec.ofChange fnStepsSpec)

/-- ITS FALSE NEIGHBOUR: 'it returns false'. Refute it at one input. -/
def fnStepsWrong : ChangeSpec := { name := "fnSteps", fn := fun _ => fun
  | [d1, d2] => { results := [.lit (.bool false)], args := [d1, d2] }
  | _ => none }
def FnStepsWrongFalsely : Prop := fnStepsRow.holds Try.pinned (OpenSpec.ofChange fnStepsWrong)

/-- 'laws.FnPairs': WHATEVER THE INPUT: true; the input reads as it did. -/
def fnPairsSpec : ChangeSpec := { name := "fnPairs", fn := fun _ => fun
  | [d1, d2] => { results := [.lit (.bool true)], args := [d1, d2] }
  | _ => none }
def fnPairsRow : OpenClaim := { program := "ytejapiebpbnopaa", sum := "c7f4eda858ae738b210c13809733dff878eec30abc22d01f75a395b1825f3fa4", func := "loop.example/g01026/laws.FnPairs", spec := "fnPairs", apart := false }
def FnPairsSaid : Prop := fnPairsRow.holds Try.pinned (OpenSpec.ofChange fnPairsSpec)

/-- ITS FALSE NEIGHBOUR: 'it returns false'. Refute it at one input. -/
def fnPairsWrong : ChangeSpec := { name := "fnPairs", fn := fun _ => fun
  | [d1, d2] => { results := [.lit (.bool false)], args := [d1, d2] }
  | _ => none }
def FnPairsWrongFalsely : Prop := fnPairsRow.holds Try.pinned (OpenSpec.ofChange fnPairsWrong)

/-- 'laws.FnExactIsName': WHATEVER THE INPUT: true; the input reads as it did. -/
def fnExactIsNameSpec : ChangeSpec := { name := "fnExactIsName", fn := fun _ => fun
  | [d] => { results := [.lit (.bool true)], args := [d] }
  | _ => none }
def fnExactIsNameRow : OpenClaim := { program := "ytejapiebpbnopaa", sum := "c7f4eda858ae738b210c13809733dff878eec30abc22d01f75a395b1825f3fa4", func := "loop.example/g01026/laws.FnExactIsName", spec := "fnExactIsName", apart := false }
def FnExactIsNameSaid : Prop := fnExactIsNameRow.holds Try.pinned (OpenSpec.ofChange fnExactIsNameSpec)

/-- ITS FALSE NEIGHBOUR: 'it returns false'. Refute it at one input. -/
def fnExactIsNameWrong : ChangeSpec := { name := "fnExactIsName", fn := fun _ => fun
  | [d] => { results := [.lit (.bool false)], args := [d] }
  | _ => none }
def FnExactIsNameWrongFalsely : Prop := fnExactIsNameRow.holds Try.pinned (OpenSpec.ofChange fnExactIsNameWrong)

/-- 'laws.FnExactSplitWords': WHATEVER THE INPUT: true; the input reads as it did. -/
def fnExactSplitWordsSpec : ChangeSpec := { name := "fnExactSplitWords", fn := fun _ => fun
  | [d] => { results := [.lit (.bool true)], args := [d] }
  | _ => none }
def fnExactSplitWordsRow : OpenClaim := { program := "ytejapiebpbnopaa", sum := "c7f4eda858ae738b210c13809733dff878eec30abc22d01f75a395b1825f3fa4", func := "loop.example/g01026/laws.FnExactSplitWords", spec := "fnExactSplitWords", unfollowed := true, recurses := true, apart := false }
def FnExactSplitWordsSaid : Prop := fnExactSplitWordsRow.holds Try.pinned (OpenSpec.ofChange fnExactSplitWordsSpec)

/-- ITS FALSE NEIGHBOUR: 'it returns false'. Refute it at one input. -/
def fnExactSplitWordsWrong : ChangeSpec := { name := "fnExactSplitWords", fn := fun _ => fun
  | [d] => { results := [.lit (.bool false)], args := [d] }
  | _ => none }
def FnExactSplitWordsWrongFalsely : Prop := fnExactSplitWordsRow.holds Try.pinned (OpenSpec.ofChange fnExactSplitWordsWrong)

/-- 'laws.FnExactValidMag': WHATEVER THE INPUT: true; the input reads as it did. -/
def fnExactValidMagSpec : ChangeSpec := { name := "fnExactValidMag", fn := fun _ => fun
  | [d] => { results := [.lit (.bool true)], args := [d] }
  | _ => none }
def fnExactValidMagRow : OpenClaim := { program := "ytejapiebpbnopaa", sum := "c7f4eda858ae738b210c13809733dff878eec30abc22d01f75a395b1825f3fa4", func := "loop.example/g01026/laws.FnExactValidMag", spec := "fnExactValidMag", apart := false }
def FnExactValidMagSaid : Prop := fnExactValidMagRow.holds Try.pinned (OpenSpec.ofChange fnExactValidMagSpec)

/-- ITS FALSE NEIGHBOUR: 'it returns false'. Refute it at one input. -/
def fnExactValidMagWrong : ChangeSpec := { name := "fnExactValidMag", fn := fun _ => fun
  | [d] => { results := [.lit (.bool false)], args := [d] }
  | _ => none }
def FnExactValidMagWrongFalsely : Prop := fnExactValidMagRow.holds Try.pinned (OpenSpec.ofChange fnExactValidMagWrong)

/-- 'laws.FnExactRoundFraction': WHATEVER THE INPUT: true; the input reads as it did. -/
def fnExactRoundFractionSpec : ChangeSpec := { name := "fnExactRoundFraction", fn := fun _ => fun
  | [d] => { results := [.lit (.bool true)], args := [d] }
  | _ => none }
def fnExactRoundFractionRow : OpenClaim := { program := "ytejapiebpbnopaa", sum := "c7f4eda858ae738b210c13809733dff878eec30abc22d01f75a395b1825f3fa4", func := "loop.example/g01026/laws.FnExactRoundFraction", spec := "fnExactRoundFraction", apart := false }
def FnExactRoundFractionSaid : Prop := fnExactRoundFractionRow.holds Try.pinned (OpenSpec.ofChange fnExactRoundFractionSpec)

/-- ITS FALSE NEIGHBOUR: 'it returns false'. Refute it at one input. -/
def fnExactRoundFractionWrong : ChangeSpec := { name := "fnExactRoundFraction", fn := fun _ => fun
  | [d] => { results := [.lit (.bool false)], args := [d] }
  | _ => none }
def FnExactRoundFractionWrongFalsely : Prop := fnExactRoundFractionRow.holds Try.pinned (OpenSpec.ofChange fnExactRoundFractionWrong)

/-- 'laws.FnExactBetweenStars': WHATEVER THE INPUT: true; the input reads as it did. -/
def fnExactBetweenStarsSpec : ChangeSpec := { name := "fnExactBetweenStars", fn := fun _ => fun
  | [d1, d2, d3, d4] => { results := [.lit (.bool true)], args := [d1, d2, d3, d4] }
  | _ => none }
def fnExactBetweenStarsRow : OpenClaim := { program := "ytejapiebpbnopaa", sum := "c7f4eda858ae738b210c13809733dff878eec30abc22d01f75a395b1825f3fa4", func := "loop.example/g01026/laws.FnExactBetweenStars", spec := "fnExactBetweenStars", apart := false }
def FnExactBetweenStarsSaid : Prop := fnExactBetweenStarsRow.holds Try.pinned (OpenSpec.ofChange fnExactBetweenStarsSpec)

/-- ITS FALSE NEIGHBOUR: 'it returns false'. Refute it at one input. -/
def fnExactBetweenStarsWrong : ChangeSpec := { name := "fnExactBetweenStars", fn := fun _ => fun
  | [d1, d2, d3, d4] => { results := [.lit (.bool false)], args := [d1, d2, d3, d4] }
  | _ => none }
def FnExactBetweenStarsWrongFalsely : Prop := fnExactBetweenStarsRow.holds Try.pinned (OpenSpec.ofChange fnExactBetweenStarsWrong)

/-- 'laws.FnExactStepSize': WHATEVER THE INPUT: true; the input reads as it did. -/
def fnExactStepSizeSpec : ChangeSpec := { name := "fnExactStepSize", fn := fun _ => fun
  | [d1, d2, d3] => { results := [.lit (.bool true)], args := [d1, d2, d3] }
  | _ => none }
def fnExactStepSizeRow : OpenClaim := { program := "ytejapiebpbnopaa", sum := "c7f4eda858ae738b210c13809733dff878eec30abc22d01f75a395b1825f3fa4", func := "loop.example/g01026/laws.FnExactStepSize", spec := "fnExactStepSize", apart := false }
def FnExactStepSizeSaid : Prop := fnExactStepSizeRow.holds Try.pinned (OpenSpec.ofChange fnExactStepSizeSpec)

/-- ITS FALSE NEIGHBOUR: 'it returns false'. Refute it at one input. -/
def fnExactStepSizeWrong : ChangeSpec := { name := "fnExactStepSize", fn := fun _ => fun
  | [d1, d2, d3] => { results := [.lit (.bool false)], args := [d1, d2, d3] }
  | _ => none }
def FnExactStepSizeWrongFalsely : Prop := fnExactStepSizeRow.holds Try.pinned (OpenSpec.ofChange fnExactStepSizeWrong)

/- THE SECOND FORM. 'bulk': how many values and letters a reading holds, each counted each time it is reached (what is shared counts as often as it is met; a slice's spare places count too). A statement '..UptoSaid' is the law's where the arguments, and the package variables that the reading takes, are together of bulk at most 1048576: NARROWER than '..Said'. Prove '..Said' where nothing that the law and all that it calls make is longer than what came in: it says more and counts as full. Else prove '..UptoSaid'. A law counts once. -/
mutual
def uptoBulk {H : Type} : DataW H → Nat
  | .lit (.string bytes) => bytes.length + 1
  | .lit _ => 1
  | .nil => 1
  | .ptr d => uptoBulk d + 1
  | .slice elems spare => uptoBulkAll elems + uptoBulkAll spare + 1
  | .agg parts => uptoBulkAll parts + 1
  | .iface _ d => uptoBulk d + 1
  | .map entries => uptoBulkEntries entries + 1
  | .held _ => 1
def uptoBulkAll {H : Type} : List (DataW H) → Nat
  | [] => 0
  | d :: r => uptoBulk d + uptoBulkAll r
def uptoBulkEntries {H : Type} : List (Lit × DataW H) → Nat
  | [] => 0
  | x :: r => uptoBulkEntry x + uptoBulkEntries r
def uptoBulkEntry {H : Type} : Lit × DataW H → Nat
  | (.string bytes, d) => bytes.length + uptoBulk d + 1
  | (_, d) => uptoBulk d + 1
 end
def uptoSmall : (H : Type) → List (DataW H) → Bool := fun _ ds => decide (uptoBulkAll ds ≤ 1048576)
def OpenSpec.upto (s : _root_.Go.ChangeSpec) : _root_.Go.OpenSpec := { _root_.Go.OpenSpec.ofChange s with cond := some uptoSmall }

/-- 'laws.FnSteps', WHERE WHAT IT READS IS OF BULK AT MOST 1048576: true; the input reads as it did. -/
def fnStepsUptoRow : OpenClaim := { program := "ytejapiebpbnopaa", sum := "c7f4eda858ae738b210c13809733dff878eec30abc22d01f75a395b1825f3fa4", func := "loop.example/g01026/laws.FnSteps", spec := "fnSteps", apart := false, narrowed := true }
def FnStepsUptoSaid : Prop := fnStepsUptoRow.holds Try.pinned (OpenSpec.upto fnStepsSpec)

/-- 'laws.FnPairs', WHERE WHAT IT READS IS OF BULK AT MOST 1048576: true; the input reads as it did. -/
def fnPairsUptoRow : OpenClaim := { program := "ytejapiebpbnopaa", sum := "c7f4eda858ae738b210c13809733dff878eec30abc22d01f75a395b1825f3fa4", func := "loop.example/g01026/laws.FnPairs", spec := "fnPairs", apart := false, narrowed := true }
def FnPairsUptoSaid : Prop := fnPairsUptoRow.holds Try.pinned (OpenSpec.upto fnPairsSpec)

/-- 'laws.FnExactIsName', WHERE WHAT IT READS IS OF BULK AT MOST 1048576: true; the input reads as it did. -/
def fnExactIsNameUptoRow : OpenClaim := { program := "ytejapiebpbnopaa", sum := "c7f4eda858ae738b210c13809733dff878eec30abc22d01f75a395b1825f3fa4", func := "loop.example/g01026/laws.FnExactIsName", spec := "fnExactIsName", apart := false, narrowed := true }
def FnExactIsNameUptoSaid : Prop := fnExactIsNameUptoRow.holds Try.pinned (OpenSpec.upto fnExactIsNameSpec)

/-- 'laws.FnExactSplitWords', WHERE WHAT IT READS IS OF BULK AT MOST 1048576: true; the input reads as it did. -/
def fnExactSplitWordsUptoRow : OpenClaim := { program := "ytejapiebpbnopaa", sum := "c7f4eda858ae738b210c13809733dff878eec30abc22d01f75a395b1825f3fa4", func := "loop.example/g01026/laws.FnExactSplitWords", spec := "fnExactSplitWords", unfollowed := true, recurses := true, apart := false, narrowed := true }
def FnExactSplitWordsUptoSaid : Prop := fnExactSplitWordsUptoRow.holds Try.pinned (OpenSpec.upto fnExactSplitWordsSpec)

/-- 'laws.FnExactValidMag', WHERE WHAT IT READS IS OF BULK AT MOST 1048576: true; the input reads as it did. -/
def fnExactValidMagUptoRow : OpenClaim := { program := "ytejapiebpbnopaa", sum := "c7f4eda858ae738b210c13809733dff878eec30abc22d01f75a395b1825f3fa4", func := "loop.example/g01026/laws.FnExactValidMag", spec := "fnExactValidMag", apart := false, narrowed := true }
def FnExactValidMagUptoSaid : Prop := fnExactValidMagUptoRow.holds Try.pinned (OpenSpec.upto fnExactValidMagSpec)

/-- 'laws.FnExactRoundFraction', WHERE WHAT IT READS IS OF BULK AT MOST 1048576: true; the input reads as it did. -/
def fnExactRoundFractionUptoRow : OpenClaim := { program := "ytejapiebpbnopaa", sum := "c7f4eda858ae738b210c13809733dff878eec30abc22d01f75a395b1825f3fa4", func := "loop.example/g01026/laws.FnExactRoundFraction", spec := "fnExactRoundFraction", apart := false, narrowed := true }
def FnExactRoundFractionUptoSaid : Prop := fnExactRoundFractionUptoRow.holds Try.pinned (OpenSpec.upto fnExactRoundFractionSpec)

/-- 'laws.FnExactBetweenStars', WHERE WHAT IT READS IS OF BULK AT MOST 1048576: true; the input reads as it did. -/
def fnExactBetweenStarsUptoRow : OpenClaim := { program := "ytejapiebpbnopaa", sum := "c7f4eda858ae738b210c13809733dff878eec30abc22d01f75a395b1825f3fa4", func := "loop.example/g01026/laws.FnExactBetweenStars", spec := "fnExactBetweenStars", apart := false, narrowed := true }
def FnExactBetweenStarsUptoSaid : Prop := fnExactBetweenStarsUptoRow.holds Try.pinned (OpenSpec.upto fnExactBetweenStarsSpec)

/-- 'laws.FnExactStepSize', WHERE WHAT IT READS IS OF BULK AT MOST 1048576: true; the input reads as it did. -/
def fnExactStepSizeUptoRow : OpenClaim := { program := "ytejapiebpbnopaa", sum := "c7f4eda858ae738b210c13809733dff878eec30abc22d01f75a395b1825f3fa4", func := "loop.example/g01026/laws.FnExactStepSize", spec := "fnExactStepSize", apart := false, narrowed := true }
def FnExactStepSizeUptoSaid : Prop := fnExactStepSizeUptoRow.holds Try.pinned (OpenSpec.upto fnExactStepSizeSpec)

end Rows
end Go.Proofs.Ytejapiebpbnopaa
