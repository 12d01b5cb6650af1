/-
  No cell of these rows narrows 'for every input' (looked for: loops, veiled, ifaces, maps, wideKeys, modest, calm, conditions, laid).
  DERIVED. THE GIVEN ROWS OF THIS SEAT. 8 by the template 'for every input the law returns true; each argument reads behind the call as it read before'; 0 by the template 'total and deterministic' (their statements: YtichcfahmdlndaaTotals.lean).
  GIVEN WITH THE SEED: the statements are not yours to turn. If you find one false, say at which input.
  Laid BY PROGRAM, IN A SANDBOX (cutbox-rows.mjs): the forced cells as the released guide's own fill.sh prints them over the translation 07a4115771bc59de… (all of the seat's roots in one cut). By AI agents, Wed Nov 11 2026. No macro, syntax, notation, axiom, sorry.
-/
import Derived.Test.YtichcfahmdlndaaChecked
import GoSem.Claim
import GoSem.ClaimJoined
import GoSem.ClaimMapViews
import Derived.JoinedTies
import Derived.KernelRfl
namespace Go.Proofs.Ytichcfahmdlndaa
/- THE CELL 'sum', in the pinned program and in every row, IS THE sha256 OF THE DUMP (.gsa) THAT YtichcfahmdlndaaProg.lean LOADS. Nothing in Lean hashes anything: it is a label: what it is worth is what the hold of that sum in a sandbox is worth. -/
noncomputable def Try.pinned : Pinned := { name := "ytichcfahmdlndaa", sum := "07a4115771bc59de79f512f931618475a9c9867ecb0de1e19edbf431ca25710c", checked := Try.checked }
namespace Rows
def none {H : Type} : Left H := { results := [], args := [] }

/-- 'laws.FnExactValidEstimates': WHATEVER THE INPUT: true; the input reads as it did. -/
def fnExactValidEstimatesSpec : ChangeSpec := { name := "fnExactValidEstimates", fn := fun _ => fun
  | [d] => { results := [.lit (.bool true)], args := [d] }
  | _ => none }
def fnExactValidEstimatesRow : OpenClaim := { program := "ytichcfahmdlndaa", sum := "07a4115771bc59de79f512f931618475a9c9867ecb0de1e19edbf431ca25710c", func := "loop.example/g01026/laws.FnExactValidEstimates", spec := "fnExactValidEstimates", inPlace := ["internal/bytealg.abigen_runtime_cmpstring"], unfollowed := true, recurses := true, apart := false }
def FnExactValidEstimatesSaid : Prop := fnExactValidEstimatesRow.holds Try.pinned (OpenSpec.ofChange fnExactValidEstimatesSpec)

/-- ITS FALSE NEIGHBOUR: 'it returns false'. Refute it at one input. -/
def fnExactValidEstimatesWrong : ChangeSpec := { name := "fnExactValidEstimates", fn := fun _ => fun
  | [d] => { results := [.lit (.bool false)], args := [d] }
  | _ => none }
def FnExactValidEstimatesWrongFalsely : Prop := fnExactValidEstimatesRow.holds Try.pinned (OpenSpec.ofChange fnExactValidEstimatesWrong)

/-- 'laws.FnExactSameEstimates': WHATEVER THE INPUT: true; the input reads as it did. -/
def fnExactSameEstimatesSpec : ChangeSpec := { name := "fnExactSameEstimates", fn := fun _ => fun
  | [d1, d2] => { results := [.lit (.bool true)], args := [d1, d2] }
  | _ => none }
def fnExactSameEstimatesRow : OpenClaim := { program := "ytichcfahmdlndaa", sum := "07a4115771bc59de79f512f931618475a9c9867ecb0de1e19edbf431ca25710c", func := "loop.example/g01026/laws.FnExactSameEstimates", spec := "fnExactSameEstimates", apart := false }
def FnExactSameEstimatesSaid : Prop := fnExactSameEstimatesRow.holds Try.pinned (OpenSpec.ofChange fnExactSameEstimatesSpec)

/-- ITS FALSE NEIGHBOUR: 'it returns false'. Refute it at one input. -/
def fnExactSameEstimatesWrong : ChangeSpec := { name := "fnExactSameEstimates", fn := fun _ => fun
  | [d1, d2] => { results := [.lit (.bool false)], args := [d1, d2] }
  | _ => none }
def FnExactSameEstimatesWrongFalsely : Prop := fnExactSameEstimatesRow.holds Try.pinned (OpenSpec.ofChange fnExactSameEstimatesWrong)

/-- 'laws.FnExactAddEstimate': WHATEVER THE INPUT: true; the input reads as it did. -/
def fnExactAddEstimateSpec : ChangeSpec := { name := "fnExactAddEstimate", fn := fun _ => fun
  | [d1, d2] => { results := [.lit (.bool true)], args := [d1, d2] }
  | _ => none }
def fnExactAddEstimateRow : OpenClaim := { program := "ytichcfahmdlndaa", sum := "07a4115771bc59de79f512f931618475a9c9867ecb0de1e19edbf431ca25710c", func := "loop.example/g01026/laws.FnExactAddEstimate", spec := "fnExactAddEstimate", inPlace := ["internal/bytealg.abigen_runtime_cmpstring", "slices.overlaps[loop.example/g01026/impl.Estimate]"], unfollowed := true, recurses := true, apart := false }
def FnExactAddEstimateSaid : Prop := fnExactAddEstimateRow.holds Try.pinned (OpenSpec.ofChange fnExactAddEstimateSpec)

/-- ITS FALSE NEIGHBOUR: 'it returns false'. Refute it at one input. -/
def fnExactAddEstimateWrong : ChangeSpec := { name := "fnExactAddEstimate", fn := fun _ => fun
  | [d1, d2] => { results := [.lit (.bool false)], args := [d1, d2] }
  | _ => none }
def FnExactAddEstimateWrongFalsely : Prop := fnExactAddEstimateRow.holds Try.pinned (OpenSpec.ofChange fnExactAddEstimateWrong)

/-- 'laws.FnExactOfStar': WHATEVER THE INPUT: true; the input reads as it did. -/
def fnExactOfStarSpec : ChangeSpec := { name := "fnExactOfStar", fn := fun _ => fun
  | [d1, d2, d3, d4] => { results := [.lit (.bool true)], args := [d1, d2, d3, d4] }
  | _ => none }
def fnExactOfStarRow : OpenClaim := { program := "ytichcfahmdlndaa", sum := "07a4115771bc59de79f512f931618475a9c9867ecb0de1e19edbf431ca25710c", func := "loop.example/g01026/laws.FnExactOfStar", spec := "fnExactOfStar", inPlace := ["internal/bytealg.abigen_runtime_cmpstring"], unfollowed := true, recurses := true, apart := false }
def FnExactOfStarSaid : Prop := fnExactOfStarRow.holds Try.pinned (OpenSpec.ofChange fnExactOfStarSpec)

/-- ITS FALSE NEIGHBOUR: 'it returns false'. Refute it at one input. -/
def fnExactOfStarWrong : ChangeSpec := { name := "fnExactOfStar", fn := fun _ => fun
  | [d1, d2, d3, d4] => { results := [.lit (.bool false)], args := [d1, d2, d3, d4] }
  | _ => none }
def FnExactOfStarWrongFalsely : Prop := fnExactOfStarRow.holds Try.pinned (OpenSpec.ofChange fnExactOfStarWrong)

/-- 'laws.FnExactOfObserver': WHATEVER THE INPUT: true; the input reads as it did. -/
def fnExactOfObserverSpec : ChangeSpec := { name := "fnExactOfObserver", fn := fun _ => fun
  | [d1, d2] => { results := [.lit (.bool true)], args := [d1, d2] }
  | _ => none }
def fnExactOfObserverRow : OpenClaim := { program := "ytichcfahmdlndaa", sum := "07a4115771bc59de79f512f931618475a9c9867ecb0de1e19edbf431ca25710c", func := "loop.example/g01026/laws.FnExactOfObserver", spec := "fnExactOfObserver", inPlace := ["internal/bytealg.abigen_runtime_cmpstring"], unfollowed := true, recurses := true, apart := false }
def FnExactOfObserverSaid : Prop := fnExactOfObserverRow.holds Try.pinned (OpenSpec.ofChange fnExactOfObserverSpec)

/-- ITS FALSE NEIGHBOUR: 'it returns false'. Refute it at one input. -/
def fnExactOfObserverWrong : ChangeSpec := { name := "fnExactOfObserver", fn := fun _ => fun
  | [d1, d2] => { results := [.lit (.bool false)], args := [d1, d2] }
  | _ => none }
def FnExactOfObserverWrongFalsely : Prop := fnExactOfObserverRow.holds Try.pinned (OpenSpec.ofChange fnExactOfObserverWrong)

/-- 'laws.FnExactStarsIn': WHATEVER THE INPUT: true; the input reads as it did. -/
def fnExactStarsInSpec : ChangeSpec := { name := "fnExactStarsIn", fn := fun _ => fun
  | [d] => { results := [.lit (.bool true)], args := [d] }
  | _ => none }
def fnExactStarsInRow : OpenClaim := { program := "ytichcfahmdlndaa", sum := "07a4115771bc59de79f512f931618475a9c9867ecb0de1e19edbf431ca25710c", func := "loop.example/g01026/laws.FnExactStarsIn", spec := "fnExactStarsIn", inPlace := ["internal/bytealg.abigen_runtime_cmpstring"], unfollowed := true, recurses := true, apart := false }
def FnExactStarsInSaid : Prop := fnExactStarsInRow.holds Try.pinned (OpenSpec.ofChange fnExactStarsInSpec)

/-- ITS FALSE NEIGHBOUR: 'it returns false'. Refute it at one input. -/
def fnExactStarsInWrong : ChangeSpec := { name := "fnExactStarsIn", fn := fun _ => fun
  | [d] => { results := [.lit (.bool false)], args := [d] }
  | _ => none }
def FnExactStarsInWrongFalsely : Prop := fnExactStarsInRow.holds Try.pinned (OpenSpec.ofChange fnExactStarsInWrong)

/-- 'laws.FnExactLastOf': WHATEVER THE INPUT: true; the input reads as it did. -/
def fnExactLastOfSpec : ChangeSpec := { name := "fnExactLastOf", fn := fun _ => fun
  | [d1, d2] => { results := [.lit (.bool true)], args := [d1, d2] }
  | _ => none }
def fnExactLastOfRow : OpenClaim := { program := "ytichcfahmdlndaa", sum := "07a4115771bc59de79f512f931618475a9c9867ecb0de1e19edbf431ca25710c", func := "loop.example/g01026/laws.FnExactLastOf", spec := "fnExactLastOf", inPlace := ["internal/bytealg.abigen_runtime_cmpstring"], unfollowed := true, recurses := true, apart := false }
def FnExactLastOfSaid : Prop := fnExactLastOfRow.holds Try.pinned (OpenSpec.ofChange fnExactLastOfSpec)

/-- ITS FALSE NEIGHBOUR: 'it returns false'. Refute it at one input. -/
def fnExactLastOfWrong : ChangeSpec := { name := "fnExactLastOf", fn := fun _ => fun
  | [d1, d2] => { results := [.lit (.bool false)], args := [d1, d2] }
  | _ => none }
def FnExactLastOfWrongFalsely : Prop := fnExactLastOfRow.holds Try.pinned (OpenSpec.ofChange fnExactLastOfWrong)

/-- 'laws.FnExactContradictions': WHATEVER THE INPUT: true; the input reads as it did. -/
def fnExactContradictionsSpec : ChangeSpec := { name := "fnExactContradictions", fn := fun _ => fun
  | [d1, d2, d3] => { results := [.lit (.bool true)], args := [d1, d2, d3] }
  | _ => none }
def fnExactContradictionsRow : OpenClaim := { program := "ytichcfahmdlndaa", sum := "07a4115771bc59de79f512f931618475a9c9867ecb0de1e19edbf431ca25710c", func := "loop.example/g01026/laws.FnExactContradictions", spec := "fnExactContradictions", inPlace := ["internal/bytealg.abigen_runtime_cmpstring"], unfollowed := true, recurses := true, apart := false }
def FnExactContradictionsSaid : Prop := fnExactContradictionsRow.holds Try.pinned (OpenSpec.ofChange fnExactContradictionsSpec)

/-- ITS FALSE NEIGHBOUR: 'it returns false'. Refute it at one input. -/
def fnExactContradictionsWrong : ChangeSpec := { name := "fnExactContradictions", fn := fun _ => fun
  | [d1, d2, d3] => { results := [.lit (.bool false)], args := [d1, d2, d3] }
  | _ => none }
def FnExactContradictionsWrongFalsely : Prop := fnExactContradictionsRow.holds Try.pinned (OpenSpec.ofChange fnExactContradictionsWrong)

/- THE SECOND FORM. 'bulk': how many values and letters a reading holds, each counted each time it is reached (what is shared counts as often as it is met; a slice's spare places count too). A statement '..UptoSaid' is the law's where the arguments, and the package variables that the reading takes, are together of bulk at most 1048576: NARROWER than '..Said'. Prove '..Said' where nothing that the law and all that it calls make is longer than what came in: it says more and counts as full. Else prove '..UptoSaid'. A law counts once. -/
mutual
def uptoBulk {H : Type} : DataW H → Nat
  | .lit (.string bytes) => bytes.length + 1
  | .lit _ => 1
  | .nil => 1
  | .ptr d => uptoBulk d + 1
  | .slice elems spare => uptoBulkAll elems + uptoBulkAll spare + 1
  | .agg parts => uptoBulkAll parts + 1
  | .iface _ d => uptoBulk d + 1
  | .map entries => uptoBulkEntries entries + 1
  | .held _ => 1
def uptoBulkAll {H : Type} : List (DataW H) → Nat
  | [] => 0
  | d :: r => uptoBulk d + uptoBulkAll r
def uptoBulkEntries {H : Type} : List (Lit × DataW H) → Nat
  | [] => 0
  | x :: r => uptoBulkEntry x + uptoBulkEntries r
def uptoBulkEntry {H : Type} : Lit × DataW H → Nat
  | (.string bytes, d) => bytes.length + uptoBulk d + 1
  | (_, d) => uptoBulk d + 1
 end
def uptoSmall : (H : Type) → List (DataW H) → Bool := fun _ ds => decide (uptoBulkAll ds ≤ 1048576)
def OpenSpec.upto (s : _root_.Go.ChangeSpec) : _root_.Go.OpenSpec := { _root_.Go.OpenSpec.ofChange s with cond := some uptoSmall }

/-- 'laws.FnExactValidEstimates', WHERE WHAT IT READS IS OF BULK AT MOST 1048576: true; the input reads as it did. -/
def fnExactValidEstimatesUptoRow : OpenClaim := { program := "ytichcfahmdlndaa", sum := "07a4115771bc59de79f512f931618475a9c9867ecb0de1e19edbf431ca25710c", func := "loop.example/g01026/laws.FnExactValidEstimates", spec := "fnExactValidEstimates", inPlace := ["internal/bytealg.abigen_runtime_cmpstring"], unfollowed := true, recurses := true, apart := false, narrowed := true }
def FnExactValidEstimatesUptoSaid : Prop := fnExactValidEstimatesUptoRow.holds Try.pinned (OpenSpec.upto fnExactValidEstimatesSpec)

/-- 'laws.FnExactSameEstimates', WHERE WHAT IT READS IS OF BULK AT MOST 1048576: true; the input reads as it did. -/
def fnExactSameEstimatesUptoRow : OpenClaim := { program := "ytichcfahmdlndaa", sum := "07a4115771bc59de79f512f931618475a9c9867ecb0de1e19edbf431ca25710c", func := "loop.example/g01026/laws.FnExactSameEstimates", spec := "fnExactSameEstimates", apart := false, narrowed := true }
def FnExactSameEstimatesUptoSaid : Prop := fnExactSameEstimatesUptoRow.holds Try.pinned (OpenSpec.upto fnExactSameEstimatesSpec)

/-- 'laws.FnExactAddEstimate', WHERE WHAT IT READS IS OF BULK AT MOST 1048576: true; the input reads as it did. -/
def fnExactAddEstimateUptoRow : OpenClaim := { program := "ytichcfahmdlndaa", sum := "07a4115771bc59de79f512f931618475a9c9867ecb0de1e19edbf431ca25710c", func := "loop.example/g01026/laws.FnExactAddEstimate", spec := "fnExactAddEstimate", inPlace := ["internal/bytealg.abigen_runtime_cmpstring", "slices.overlaps[loop.example/g01026/impl.Estimate]"], unfollowed := true, recurses := true, apart := false, narrowed := true }
def FnExactAddEstimateUptoSaid : Prop := fnExactAddEstimateUptoRow.holds Try.pinned (OpenSpec.upto fnExactAddEstimateSpec)

/-- 'laws.FnExactOfStar', WHERE WHAT IT READS IS OF BULK AT MOST 1048576: true; the input reads as it did. -/
def fnExactOfStarUptoRow : OpenClaim := { program := "ytichcfahmdlndaa", sum := "07a4115771bc59de79f512f931618475a9c9867ecb0de1e19edbf431ca25710c", func := "loop.example/g01026/laws.FnExactOfStar", spec := "fnExactOfStar", inPlace := ["internal/bytealg.abigen_runtime_cmpstring"], unfollowed := true, recurses := true, apart := false, narrowed := true }
def FnExactOfStarUptoSaid : Prop := fnExactOfStarUptoRow.holds Try.pinned (OpenSpec.upto fnExactOfStarSpec)

/-- 'laws.FnExactOfObserver', WHERE WHAT IT READS IS OF BULK AT MOST 1048576: true; the input reads as it did. -/
def fnExactOfObserverUptoRow : OpenClaim := { program := "ytichcfahmdlndaa", sum := "07a4115771bc59de79f512f931618475a9c9867ecb0de1e19edbf431ca25710c", func := "loop.example/g01026/laws.FnExactOfObserver", spec := "fnExactOfObserver", inPlace := ["internal/bytealg.abigen_runtime_cmpstring"], unfollowed := true, recurses := true, apart := false, narrowed := true }
def FnExactOfObserverUptoSaid : Prop := fnExactOfObserverUptoRow.holds Try.pinned (OpenSpec.upto fnExactOfObserverSpec)

/-- 'laws.FnExactStarsIn', WHERE WHAT IT READS IS OF BULK AT MOST 1048576: true; the input reads as it did. -/
def fnExactStarsInUptoRow : OpenClaim := { program := "ytichcfahmdlndaa", sum := "07a4115771bc59de79f512f931618475a9c9867ecb0de1e19edbf431ca25710c", func := "loop.example/g01026/laws.FnExactStarsIn", spec := "fnExactStarsIn", inPlace := ["internal/bytealg.abigen_runtime_cmpstring"], unfollowed := true, recurses := true, apart := false, narrowed := true }
def FnExactStarsInUptoSaid : Prop := fnExactStarsInUptoRow.holds Try.pinned (OpenSpec.upto fnExactStarsInSpec)

/-- 'laws.FnExactLastOf', WHERE WHAT IT READS IS OF BULK AT MOST 1048576: true; the input reads as it did. -/
def fnExactLastOfUptoRow : OpenClaim := { program := "ytichcfahmdlndaa", sum := "07a4115771bc59de79f512f931618475a9c9867ecb0de1e19edbf431ca25710c", func := "loop.example/g01026/laws.FnExactLastOf", spec := "fnExactLastOf", inPlace := ["internal/bytealg.abigen_runtime_cmpstring"], unfollowed := true, recurses := true, apart := false, narrowed := true }
def FnExactLastOfUptoSaid : Prop := fnExactLastOfUptoRow.holds Try.pinned (OpenSpec.upto fnExactLastOfSpec)

/-- 'laws.FnExactContradictions', WHERE WHAT IT READS IS OF BULK AT MOST 1048576: true; the input reads as it did. -/
def fnExactContradictionsUptoRow : OpenClaim := { program := "ytichcfahmdlndaa", sum := "07a4115771bc59de79f512f931618475a9c9867ecb0de1e19edbf431ca25710c", func := "loop.example/g01026/laws.FnExactContradictions", spec := "fnExactContradictions", inPlace := ["internal/bytealg.abigen_runtime_cmpstring"], unfollowed := true, recurses := true, apart := false, narrowed := true }
def FnExactContradictionsUptoSaid : Prop := fnExactContradictionsUptoRow.holds Try.pinned (OpenSpec.upto fnExactContradictionsSpec)

end Rows
end Go.Proofs.Ytichcfahmdlndaa
