/-
  No cell of these rows narrows 'for every input' (looked for: loops, veiled, ifaces, maps, wideKeys, modest, calm, conditions, laid).
  DERIVED. THE GIVEN ROWS OF THIS SEAT. 11 by the template 'for every input the law returns true; each argument reads behind the call as it read before'; 0 by the template 'total and deterministic' (their statements: YtcjipmpccmppiaaTotals.lean).
  GIVEN WITH THE SEED: the statements are not yours to turn. If you find one false, say at which input.
  Laid BY PROGRAM, IN A SANDBOX (cutbox-rows.mjs): the forced cells as the released guide's own fill.sh prints them over the translation 37f07bab76f5e38b… (all of the seat's roots in one cut). By AI agents, Wed Nov 11 2026. No macro, syntax, notation, axiom, sorry.
-/
import Derived.Test.YtcjipmpccmppiaaChecked
import GoSem.Claim
import GoSem.ClaimJoined
import GoSem.ClaimMapViews
import Derived.JoinedTies
import Derived.KernelRfl
namespace Go.Proofs.Ytcjipmpccmppiaa
/- THE CELL 'sum', in the pinned program and in every row, IS THE sha256 OF THE DUMP (.gsa) THAT YtcjipmpccmppiaaProg.lean LOADS. Nothing in Lean hashes anything: it is a label: what it is worth is what the hold of that sum in a sandbox is worth. -/
noncomputable def Try.pinned : Pinned := { name := "ytcjipmpccmppiaa", sum := "37f07bab76f5e38b99422921fd47a2c1f2181ee466739ca7ca095a432a592719", checked := Try.checked }
namespace Rows
def none {H : Type} : Left H := { results := [], args := [] }

/-- 'laws.FnVariances': WHATEVER THE INPUT: true; the input reads as it did. -/
def fnVariancesSpec : ChangeSpec := { name := "fnVariances", fn := fun _ => fun
  | [d] => { results := [.lit (.bool true)], args := [d] }
  | _ => none }
def fnVariancesRow : OpenClaim := { program := "ytcjipmpccmppiaa", sum := "37f07bab76f5e38b99422921fd47a2c1f2181ee466739ca7ca095a432a592719", func := "loop.example/g01026/laws.FnVariances", spec := "fnVariances", unfollowed := true, recurses := true, apart := false }
def FnVariancesSaid : Prop := fnVariancesRow.holds Try.pinned (OpenSpec.ofChange fnVariancesSpec)

/-- ITS FALSE NEIGHBOUR: 'it returns false'. Refute it at one input. -/
def fnVariancesWrong : ChangeSpec := { name := "fnVariances", fn := fun _ => fun
  | [d] => { results := [.lit (.bool false)], args := [d] }
  | _ => none }
def FnVariancesWrongFalsely : Prop := fnVariancesRow.holds Try.pinned (OpenSpec.ofChange fnVariancesWrong)

/-- 'laws.FnVertices': WHATEVER THE INPUT: true; the input reads as it did. -/
def fnVerticesSpec : ChangeSpec := { name := "fnVertices", fn := fun _ => fun
  | [d] => { results := [.lit (.bool true)], args := [d] }
  | _ => none }
def fnVerticesRow : OpenClaim := { program := "ytcjipmpccmppiaa", sum := "37f07bab76f5e38b99422921fd47a2c1f2181ee466739ca7ca095a432a592719", func := "loop.example/g01026/laws.FnVertices", spec := "fnVertices", unfollowed := true, recurses := true, named := ["math/bits.divideError", "math/bits.overflowError"], apart := false }
def FnVerticesSaid : Prop := fnVerticesRow.holds Try.pinned (OpenSpec.ofChange fnVerticesSpec)

/-- ITS FALSE NEIGHBOUR: 'it returns false'. Refute it at one input. -/
def fnVerticesWrong : ChangeSpec := { name := "fnVertices", fn := fun _ => fun
  | [d] => { results := [.lit (.bool false)], args := [d] }
  | _ => none }
def FnVerticesWrongFalsely : Prop := fnVerticesRow.holds Try.pinned (OpenSpec.ofChange fnVerticesWrong)

/-- 'laws.FnChords': WHATEVER THE INPUT: true; the input reads as it did. -/
def fnChordsSpec : ChangeSpec := { name := "fnChords", fn := fun _ => fun
  | [d] => { results := [.lit (.bool true)], args := [d] }
  | _ => none }
def fnChordsRow : OpenClaim := { program := "ytcjipmpccmppiaa", sum := "37f07bab76f5e38b99422921fd47a2c1f2181ee466739ca7ca095a432a592719", func := "loop.example/g01026/laws.FnChords", spec := "fnChords", unfollowed := true, recurses := true, apart := false }
def FnChordsSaid : Prop := fnChordsRow.holds Try.pinned (OpenSpec.ofChange fnChordsSpec)

/-- ITS FALSE NEIGHBOUR: 'it returns false'. Refute it at one input. -/
def fnChordsWrong : ChangeSpec := { name := "fnChords", fn := fun _ => fun
  | [d] => { results := [.lit (.bool false)], args := [d] }
  | _ => none }
def FnChordsWrongFalsely : Prop := fnChordsRow.holds Try.pinned (OpenSpec.ofChange fnChordsWrong)

/-- 'laws.FnExactPairSquares': WHATEVER THE INPUT: true; the input reads as it did. -/
def fnExactPairSquaresSpec : ChangeSpec := { name := "fnExactPairSquares", fn := fun _ => fun
  | [d] => { results := [.lit (.bool true)], args := [d] }
  | _ => none }
def fnExactPairSquaresRow : OpenClaim := { program := "ytcjipmpccmppiaa", sum := "37f07bab76f5e38b99422921fd47a2c1f2181ee466739ca7ca095a432a592719", func := "loop.example/g01026/laws.FnExactPairSquares", spec := "fnExactPairSquares", apart := false }
def FnExactPairSquaresSaid : Prop := fnExactPairSquaresRow.holds Try.pinned (OpenSpec.ofChange fnExactPairSquaresSpec)

/-- ITS FALSE NEIGHBOUR: 'it returns false'. Refute it at one input. -/
def fnExactPairSquaresWrong : ChangeSpec := { name := "fnExactPairSquares", fn := fun _ => fun
  | [d] => { results := [.lit (.bool false)], args := [d] }
  | _ => none }
def FnExactPairSquaresWrongFalsely : Prop := fnExactPairSquaresRow.holds Try.pinned (OpenSpec.ofChange fnExactPairSquaresWrong)

/-- 'laws.FnExactVarianceOf': WHATEVER THE INPUT: true; the input reads as it did. -/
def fnExactVarianceOfSpec : ChangeSpec := { name := "fnExactVarianceOf", fn := fun _ => fun
  | [d] => { results := [.lit (.bool true)], args := [d] }
  | _ => none }
def fnExactVarianceOfRow : OpenClaim := { program := "ytcjipmpccmppiaa", sum := "37f07bab76f5e38b99422921fd47a2c1f2181ee466739ca7ca095a432a592719", func := "loop.example/g01026/laws.FnExactVarianceOf", spec := "fnExactVarianceOf", apart := false }
def FnExactVarianceOfSaid : Prop := fnExactVarianceOfRow.holds Try.pinned (OpenSpec.ofChange fnExactVarianceOfSpec)

/-- ITS FALSE NEIGHBOUR: 'it returns false'. Refute it at one input. -/
def fnExactVarianceOfWrong : ChangeSpec := { name := "fnExactVarianceOf", fn := fun _ => fun
  | [d] => { results := [.lit (.bool false)], args := [d] }
  | _ => none }
def FnExactVarianceOfWrongFalsely : Prop := fnExactVarianceOfRow.holds Try.pinned (OpenSpec.ofChange fnExactVarianceOfWrong)

/-- 'laws.FnExactBinOfPoints': WHATEVER THE INPUT: true; the input reads as it did. -/
def fnExactBinOfPointsSpec : ChangeSpec := { name := "fnExactBinOfPoints", fn := fun _ => fun
  | [d1, d2, d3] => { results := [.lit (.bool true)], args := [d1, d2, d3] }
  | _ => none }
def fnExactBinOfPointsRow : OpenClaim := { program := "ytcjipmpccmppiaa", sum := "37f07bab76f5e38b99422921fd47a2c1f2181ee466739ca7ca095a432a592719", func := "loop.example/g01026/laws.FnExactBinOfPoints", spec := "fnExactBinOfPoints", unfollowed := true, recurses := true, apart := false }
def FnExactBinOfPointsSaid : Prop := fnExactBinOfPointsRow.holds Try.pinned (OpenSpec.ofChange fnExactBinOfPointsSpec)

/-- ITS FALSE NEIGHBOUR: 'it returns false'. Refute it at one input. -/
def fnExactBinOfPointsWrong : ChangeSpec := { name := "fnExactBinOfPoints", fn := fun _ => fun
  | [d1, d2, d3] => { results := [.lit (.bool false)], args := [d1, d2, d3] }
  | _ => none }
def FnExactBinOfPointsWrongFalsely : Prop := fnExactBinOfPointsRow.holds Try.pinned (OpenSpec.ofChange fnExactBinOfPointsWrong)

/-- 'laws.FnExactFilledBins': WHATEVER THE INPUT: true; the input reads as it did. -/
def fnExactFilledBinsSpec : ChangeSpec := { name := "fnExactFilledBins", fn := fun _ => fun
  | [d1, d2, d3] => { results := [.lit (.bool true)], args := [d1, d2, d3] }
  | _ => none }
def fnExactFilledBinsRow : OpenClaim := { program := "ytcjipmpccmppiaa", sum := "37f07bab76f5e38b99422921fd47a2c1f2181ee466739ca7ca095a432a592719", func := "loop.example/g01026/laws.FnExactFilledBins", spec := "fnExactFilledBins", unfollowed := true, recurses := true, apart := false }
def FnExactFilledBinsSaid : Prop := fnExactFilledBinsRow.holds Try.pinned (OpenSpec.ofChange fnExactFilledBinsSpec)

/-- ITS FALSE NEIGHBOUR: 'it returns false'. Refute it at one input. -/
def fnExactFilledBinsWrong : ChangeSpec := { name := "fnExactFilledBins", fn := fun _ => fun
  | [d1, d2, d3] => { results := [.lit (.bool false)], args := [d1, d2, d3] }
  | _ => none }
def FnExactFilledBinsWrongFalsely : Prop := fnExactFilledBinsRow.holds Try.pinned (OpenSpec.ofChange fnExactFilledBinsWrong)

/-- 'laws.FnExactDispersionOf': WHATEVER THE INPUT: true; the input reads as it did. -/
def fnExactDispersionOfSpec : ChangeSpec := { name := "fnExactDispersionOf", fn := fun _ => fun
  | [d1, d2, d3] => { results := [.lit (.bool true)], args := [d1, d2, d3] }
  | _ => none }
def fnExactDispersionOfRow : OpenClaim := { program := "ytcjipmpccmppiaa", sum := "37f07bab76f5e38b99422921fd47a2c1f2181ee466739ca7ca095a432a592719", func := "loop.example/g01026/laws.FnExactDispersionOf", spec := "fnExactDispersionOf", unfollowed := true, recurses := true, apart := false }
def FnExactDispersionOfSaid : Prop := fnExactDispersionOfRow.holds Try.pinned (OpenSpec.ofChange fnExactDispersionOfSpec)

/-- ITS FALSE NEIGHBOUR: 'it returns false'. Refute it at one input. -/
def fnExactDispersionOfWrong : ChangeSpec := { name := "fnExactDispersionOf", fn := fun _ => fun
  | [d1, d2, d3] => { results := [.lit (.bool false)], args := [d1, d2, d3] }
  | _ => none }
def FnExactDispersionOfWrongFalsely : Prop := fnExactDispersionOfRow.holds Try.pinned (OpenSpec.ofChange fnExactDispersionOfWrong)

/-- 'laws.FnExactWholeDispersion': WHATEVER THE INPUT: true; the input reads as it did. -/
def fnExactWholeDispersionSpec : ChangeSpec := { name := "fnExactWholeDispersion", fn := fun _ => fun
  | [d] => { results := [.lit (.bool true)], args := [d] }
  | _ => none }
def fnExactWholeDispersionRow : OpenClaim := { program := "ytcjipmpccmppiaa", sum := "37f07bab76f5e38b99422921fd47a2c1f2181ee466739ca7ca095a432a592719", func := "loop.example/g01026/laws.FnExactWholeDispersion", spec := "fnExactWholeDispersion", unfollowed := true, recurses := true, apart := false }
def FnExactWholeDispersionSaid : Prop := fnExactWholeDispersionRow.holds Try.pinned (OpenSpec.ofChange fnExactWholeDispersionSpec)

/-- ITS FALSE NEIGHBOUR: 'it returns false'. Refute it at one input. -/
def fnExactWholeDispersionWrong : ChangeSpec := { name := "fnExactWholeDispersion", fn := fun _ => fun
  | [d] => { results := [.lit (.bool false)], args := [d] }
  | _ => none }
def FnExactWholeDispersionWrongFalsely : Prop := fnExactWholeDispersionRow.holds Try.pinned (OpenSpec.ofChange fnExactWholeDispersionWrong)

/-- 'laws.FnExactThetaOf': WHATEVER THE INPUT: true; the input reads as it did. -/
def fnExactThetaOfSpec : ChangeSpec := { name := "fnExactThetaOf", fn := fun _ => fun
  | [d1, d2, d3] => { results := [.lit (.bool true)], args := [d1, d2, d3] }
  | _ => none }
def fnExactThetaOfRow : OpenClaim := { program := "ytcjipmpccmppiaa", sum := "37f07bab76f5e38b99422921fd47a2c1f2181ee466739ca7ca095a432a592719", func := "loop.example/g01026/laws.FnExactThetaOf", spec := "fnExactThetaOf", unfollowed := true, recurses := true, apart := false }
def FnExactThetaOfSaid : Prop := fnExactThetaOfRow.holds Try.pinned (OpenSpec.ofChange fnExactThetaOfSpec)

/-- ITS FALSE NEIGHBOUR: 'it returns false'. Refute it at one input. -/
def fnExactThetaOfWrong : ChangeSpec := { name := "fnExactThetaOf", fn := fun _ => fun
  | [d1, d2, d3] => { results := [.lit (.bool false)], args := [d1, d2, d3] }
  | _ => none }
def FnExactThetaOfWrongFalsely : Prop := fnExactThetaOfRow.holds Try.pinned (OpenSpec.ofChange fnExactThetaOfWrong)

/-- 'laws.FnExactDispersionsOf': WHATEVER THE INPUT: true; the input reads as it did. -/
def fnExactDispersionsOfSpec : ChangeSpec := { name := "fnExactDispersionsOf", fn := fun _ => fun
  | [d1, d2, d3] => { results := [.lit (.bool true)], args := [d1, d2, d3] }
  | _ => none }
def fnExactDispersionsOfRow : OpenClaim := { program := "ytcjipmpccmppiaa", sum := "37f07bab76f5e38b99422921fd47a2c1f2181ee466739ca7ca095a432a592719", func := "loop.example/g01026/laws.FnExactDispersionsOf", spec := "fnExactDispersionsOf", unfollowed := true, recurses := true, apart := false }
def FnExactDispersionsOfSaid : Prop := fnExactDispersionsOfRow.holds Try.pinned (OpenSpec.ofChange fnExactDispersionsOfSpec)

/-- ITS FALSE NEIGHBOUR: 'it returns false'. Refute it at one input. -/
def fnExactDispersionsOfWrong : ChangeSpec := { name := "fnExactDispersionsOf", fn := fun _ => fun
  | [d1, d2, d3] => { results := [.lit (.bool false)], args := [d1, d2, d3] }
  | _ => none }
def FnExactDispersionsOfWrongFalsely : Prop := fnExactDispersionsOfRow.holds Try.pinned (OpenSpec.ofChange fnExactDispersionsOfWrong)

/- THE SECOND FORM. 'bulk': how many values and letters a reading holds, each counted each time it is reached (what is shared counts as often as it is met; a slice's spare places count too). A statement '..UptoSaid' is the law's where the arguments, and the package variables that the reading takes, are together of bulk at most 1048576: NARROWER than '..Said'. Prove '..Said' where nothing that the law and all that it calls make is longer than what came in: it says more and counts as full. Else prove '..UptoSaid'. A law counts once. -/
mutual
def uptoBulk {H : Type} : DataW H → Nat
  | .lit (.string bytes) => bytes.length + 1
  | .lit _ => 1
  | .nil => 1
  | .ptr d => uptoBulk d + 1
  | .slice elems spare => uptoBulkAll elems + uptoBulkAll spare + 1
  | .agg parts => uptoBulkAll parts + 1
  | .iface _ d => uptoBulk d + 1
  | .map entries => uptoBulkEntries entries + 1
  | .held _ => 1
def uptoBulkAll {H : Type} : List (DataW H) → Nat
  | [] => 0
  | d :: r => uptoBulk d + uptoBulkAll r
def uptoBulkEntries {H : Type} : List (Lit × DataW H) → Nat
  | [] => 0
  | x :: r => uptoBulkEntry x + uptoBulkEntries r
def uptoBulkEntry {H : Type} : Lit × DataW H → Nat
  | (.string bytes, d) => bytes.length + uptoBulk d + 1
  | (_, d) => uptoBulk d + 1
 end
def uptoSmall : (H : Type) → List (DataW H) → Bool := fun _ ds => decide (uptoBulkAll ds ≤ 1048576)
def OpenSpec.upto (s : _root_.Go.ChangeSpec) : _root_.Go.OpenSpec := { _root_.Go.OpenSpec.ofChange s with cond := some uptoSmall }

/-- 'laws.FnVariances', WHERE WHAT IT READS IS OF BULK AT MOST 1048576: true; the input reads as it did. -/
def fnVariancesUptoRow : OpenClaim := { program := "ytcjipmpccmppiaa", sum := "37f07bab76f5e38b99422921fd47a2c1f2181ee466739ca7ca095a432a592719", func := "loop.example/g01026/laws.FnVariances", spec := "fnVariances", unfollowed := true, recurses := true, apart := false, narrowed := true }
def FnVariancesUptoSaid : Prop := fnVariancesUptoRow.holds Try.pinned (OpenSpec.upto fnVariancesSpec)

/-- 'laws.FnVertices', WHERE WHAT IT READS IS OF BULK AT MOST 1048576: true; the input reads as it did. -/
def fnVerticesUptoRow : OpenClaim := { program := "ytcjipmpccmppiaa", sum := "37f07bab76f5e38b99422921fd47a2c1f2181ee466739ca7ca095a432a592719", func := "loop.example/g01026/laws.FnVertices", spec := "fnVertices", unfollowed := true, recurses := true, named := ["math/bits.divideError", "math/bits.overflowError"], apart := false, narrowed := true }
def FnVerticesUptoSaid : Prop := fnVerticesUptoRow.holds Try.pinned (OpenSpec.upto fnVerticesSpec)

/-- 'laws.FnChords', WHERE WHAT IT READS IS OF BULK AT MOST 1048576: true; the input reads as it did. -/
def fnChordsUptoRow : OpenClaim := { program := "ytcjipmpccmppiaa", sum := "37f07bab76f5e38b99422921fd47a2c1f2181ee466739ca7ca095a432a592719", func := "loop.example/g01026/laws.FnChords", spec := "fnChords", unfollowed := true, recurses := true, apart := false, narrowed := true }
def FnChordsUptoSaid : Prop := fnChordsUptoRow.holds Try.pinned (OpenSpec.upto fnChordsSpec)

/-- 'laws.FnExactPairSquares', WHERE WHAT IT READS IS OF BULK AT MOST 1048576: true; the input reads as it did. -/
def fnExactPairSquaresUptoRow : OpenClaim := { program := "ytcjipmpccmppiaa", sum := "37f07bab76f5e38b99422921fd47a2c1f2181ee466739ca7ca095a432a592719", func := "loop.example/g01026/laws.FnExactPairSquares", spec := "fnExactPairSquares", apart := false, narrowed := true }
def FnExactPairSquaresUptoSaid : Prop := fnExactPairSquaresUptoRow.holds Try.pinned (OpenSpec.upto fnExactPairSquaresSpec)

/-- 'laws.FnExactVarianceOf', WHERE WHAT IT READS IS OF BULK AT MOST 1048576: true; the input reads as it did. -/
def fnExactVarianceOfUptoRow : OpenClaim := { program := "ytcjipmpccmppiaa", sum := "37f07bab76f5e38b99422921fd47a2c1f2181ee466739ca7ca095a432a592719", func := "loop.example/g01026/laws.FnExactVarianceOf", spec := "fnExactVarianceOf", apart := false, narrowed := true }
def FnExactVarianceOfUptoSaid : Prop := fnExactVarianceOfUptoRow.holds Try.pinned (OpenSpec.upto fnExactVarianceOfSpec)

/-- 'laws.FnExactBinOfPoints', WHERE WHAT IT READS IS OF BULK AT MOST 1048576: true; the input reads as it did. -/
def fnExactBinOfPointsUptoRow : OpenClaim := { program := "ytcjipmpccmppiaa", sum := "37f07bab76f5e38b99422921fd47a2c1f2181ee466739ca7ca095a432a592719", func := "loop.example/g01026/laws.FnExactBinOfPoints", spec := "fnExactBinOfPoints", unfollowed := true, recurses := true, apart := false, narrowed := true }
def FnExactBinOfPointsUptoSaid : Prop := fnExactBinOfPointsUptoRow.holds Try.pinned (OpenSpec.upto fnExactBinOfPointsSpec)

/-- 'laws.FnExactFilledBins', WHERE WHAT IT READS IS OF BULK AT MOST 1048576: true; the input reads as it did. -/
def fnExactFilledBinsUptoRow : OpenClaim := { program := "ytcjipmpccmppiaa", sum := "37f07bab76f5e38b99422921fd47a2c1f2181ee466739ca7ca095a432a592719", func := "loop.example/g01026/laws.FnExactFilledBins", spec := "fnExactFilledBins", unfollowed := true, recurses := true, apart := false, narrowed := true }
def FnExactFilledBinsUptoSaid : Prop := fnExactFilledBinsUptoRow.holds Try.pinned (OpenSpec.upto fnExactFilledBinsSpec)

/-- 'laws.FnExactDispersionOf', WHERE WHAT IT READS IS OF BULK AT MOST 1048576: true; the input reads as it did. -/
def fnExactDispersionOfUptoRow : OpenClaim := { program := "ytcjipmpccmppiaa", sum := "37f07bab76f5e38b99422921fd47a2c1f2181ee466739ca7ca095a432a592719", func := "loop.example/g01026/laws.FnExactDispersionOf", spec := "fnExactDispersionOf", unfollowed := true, recurses := true, apart := false, narrowed := true }
def FnExactDispersionOfUptoSaid : Prop := fnExactDispersionOfUptoRow.holds Try.pinned (OpenSpec.upto fnExactDispersionOfSpec)

/-- 'laws.FnExactWholeDispersion', WHERE WHAT IT READS IS OF BULK AT MOST 1048576: true; the input reads as it did. -/
def fnExactWholeDispersionUptoRow : OpenClaim := { program := "ytcjipmpccmppiaa", sum := "37f07bab76f5e38b99422921fd47a2c1f2181ee466739ca7ca095a432a592719", func := "loop.example/g01026/laws.FnExactWholeDispersion", spec := "fnExactWholeDispersion", unfollowed := true, recurses := true, apart := false, narrowed := true }
def FnExactWholeDispersionUptoSaid : Prop := fnExactWholeDispersionUptoRow.holds Try.pinned (OpenSpec.upto fnExactWholeDispersionSpec)

/-- 'laws.FnExactThetaOf', WHERE WHAT IT READS IS OF BULK AT MOST 1048576: true; the input reads as it did. -/
def fnExactThetaOfUptoRow : OpenClaim := { program := "ytcjipmpccmppiaa", sum := "37f07bab76f5e38b99422921fd47a2c1f2181ee466739ca7ca095a432a592719", func := "loop.example/g01026/laws.FnExactThetaOf", spec := "fnExactThetaOf", unfollowed := true, recurses := true, apart := false, narrowed := true }
def FnExactThetaOfUptoSaid : Prop := fnExactThetaOfUptoRow.holds Try.pinned (OpenSpec.upto fnExactThetaOfSpec)

/-- 'laws.FnExactDispersionsOf', WHERE WHAT IT READS IS OF BULK AT MOST 1048576: true; the input reads as it did. -/
def fnExactDispersionsOfUptoRow : OpenClaim := { program := "ytcjipmpccmppiaa", sum := "37f07bab76f5e38b99422921fd47a2c1f2181ee466739ca7ca095a432a592719", func := "loop.example/g01026/laws.FnExactDispersionsOf", spec := "fnExactDispersionsOf", unfollowed := true, recurses := true, apart := false, narrowed := true }
def FnExactDispersionsOfUptoSaid : Prop := fnExactDispersionsOfUptoRow.holds Try.pinned (OpenSpec.upto fnExactDispersionsOfSpec)

end Rows
end Go.Proofs.Ytcjipmpccmppiaa
