/-
  No cell of these rows narrows 'for every input' (looked for: loops, veiled, ifaces, maps, wideKeys, modest, calm, conditions, laid).
  DERIVED. THE GIVEN ROWS OF THIS SEAT. 8 by the template 'for every input the law returns true; each argument reads behind the call as it read before'; 0 by the template 'total and deterministic' (their statements: YtbjflgohahmjgaaTotals.lean).
  GIVEN WITH THE SEED: the statements are not yours to turn. If you find one false, say at which input.
  Laid BY PROGRAM, IN A SANDBOX (cutbox-rows.mjs): the forced cells as the released guide's own fill.sh prints them over the translation 08b15fd174c3fcea… (all of the seat's roots in one cut). By AI agents, Wed Nov 11 2026. No macro, syntax, notation, axiom, sorry.
-/
import Derived.Test.YtbjflgohahmjgaaChecked
import GoSem.Claim
import GoSem.ClaimJoined
import GoSem.ClaimMapViews
import Derived.JoinedTies
import Derived.KernelRfl
namespace Go.Proofs.Ytbjflgohahmjgaa
/- THE CELL 'sum', in the pinned program and in every row, IS THE sha256 OF THE DUMP (.gsa) THAT YtbjflgohahmjgaaProg.lean LOADS. Nothing in Lean hashes anything: it is a label: what it is worth is what the hold of that sum in a sandbox is worth. -/
noncomputable def Try.pinned : Pinned := { name := "ytbjflgohahmjgaa", sum := "08b15fd174c3fcea114b5619e45d7b7f8b901e0156e2904193f0bd02c8a3d698", checked := Try.checked }
namespace Rows
def none {H : Type} : Left H := { results := [], args := [] }

/-- 'laws.FnCounts': WHATEVER THE INPUT: true; the input reads as it did. -/
def fnCountsSpec : ChangeSpec := { name := "fnCounts", fn := fun _ => fun
  | [d1, d2] => { results := [.lit (.bool true)], args := [d1, d2] }
  | _ => none }
def fnCountsRow : OpenClaim := { program := "ytbjflgohahmjgaa", sum := "08b15fd174c3fcea114b5619e45d7b7f8b901e0156e2904193f0bd02c8a3d698", func := "loop.example/g01026/laws.FnCounts", spec := "fnCounts", apart := false }
def FnCountsSaid : Prop := fnCountsRow.holds Try.pinned (OpenSpec.ofChange fnCountsSpec)

/-- ITS FALSE NEIGHBOUR: 'it returns false'. Refute it at one input. -/
def fnCountsWrong : ChangeSpec := { name := "fnCounts", fn := fun _ => fun
  | [d1, d2] => { results := [.lit (.bool false)], args := [d1, d2] }
  | _ => none }
def FnCountsWrongFalsely : Prop := fnCountsRow.holds Try.pinned (OpenSpec.ofChange fnCountsWrong)

/-- 'laws.FnExactValidMinima': WHATEVER THE INPUT: true; the input reads as it did. -/
def fnExactValidMinimaSpec : ChangeSpec := { name := "fnExactValidMinima", fn := fun _ => fun
  | [d] => { results := [.lit (.bool true)], args := [d] }
  | _ => none }
def fnExactValidMinimaRow : OpenClaim := { program := "ytbjflgohahmjgaa", sum := "08b15fd174c3fcea114b5619e45d7b7f8b901e0156e2904193f0bd02c8a3d698", func := "loop.example/g01026/laws.FnExactValidMinima", spec := "fnExactValidMinima", unfollowed := true, recurses := true, apart := false }
def FnExactValidMinimaSaid : Prop := fnExactValidMinimaRow.holds Try.pinned (OpenSpec.ofChange fnExactValidMinimaSpec)

/-- ITS FALSE NEIGHBOUR: 'it returns false'. Refute it at one input. -/
def fnExactValidMinimaWrong : ChangeSpec := { name := "fnExactValidMinima", fn := fun _ => fun
  | [d] => { results := [.lit (.bool false)], args := [d] }
  | _ => none }
def FnExactValidMinimaWrongFalsely : Prop := fnExactValidMinimaRow.holds Try.pinned (OpenSpec.ofChange fnExactValidMinimaWrong)

/-- 'laws.FnExactResidualsOf': WHATEVER THE INPUT: true; the input reads as it did. -/
def fnExactResidualsOfSpec : ChangeSpec := { name := "fnExactResidualsOf", fn := fun _ => fun
  | [d1, d2] => { results := [.lit (.bool true)], args := [d1, d2] }
  | _ => none }
def fnExactResidualsOfRow : OpenClaim := { program := "ytbjflgohahmjgaa", sum := "08b15fd174c3fcea114b5619e45d7b7f8b901e0156e2904193f0bd02c8a3d698", func := "loop.example/g01026/laws.FnExactResidualsOf", spec := "fnExactResidualsOf", unfollowed := true, recurses := true, apart := false }
def FnExactResidualsOfSaid : Prop := fnExactResidualsOfRow.holds Try.pinned (OpenSpec.ofChange fnExactResidualsOfSpec)

/-- ITS FALSE NEIGHBOUR: 'it returns false'. Refute it at one input. -/
def fnExactResidualsOfWrong : ChangeSpec := { name := "fnExactResidualsOf", fn := fun _ => fun
  | [d1, d2] => { results := [.lit (.bool false)], args := [d1, d2] }
  | _ => none }
def FnExactResidualsOfWrongFalsely : Prop := fnExactResidualsOfRow.holds Try.pinned (OpenSpec.ofChange fnExactResidualsOfWrong)

/-- 'laws.FnExactSquaresOf': WHATEVER THE INPUT: true; the input reads as it did. -/
def fnExactSquaresOfSpec : ChangeSpec := { name := "fnExactSquaresOf", fn := fun _ => fun
  | [d1, d2] => { results := [.lit (.bool true)], args := [d1, d2] }
  | _ => none }
def fnExactSquaresOfRow : OpenClaim := { program := "ytbjflgohahmjgaa", sum := "08b15fd174c3fcea114b5619e45d7b7f8b901e0156e2904193f0bd02c8a3d698", func := "loop.example/g01026/laws.FnExactSquaresOf", spec := "fnExactSquaresOf", unfollowed := true, recurses := true, apart := false }
def FnExactSquaresOfSaid : Prop := fnExactSquaresOfRow.holds Try.pinned (OpenSpec.ofChange fnExactSquaresOfSpec)

/-- ITS FALSE NEIGHBOUR: 'it returns false'. Refute it at one input. -/
def fnExactSquaresOfWrong : ChangeSpec := { name := "fnExactSquaresOf", fn := fun _ => fun
  | [d1, d2] => { results := [.lit (.bool false)], args := [d1, d2] }
  | _ => none }
def FnExactSquaresOfWrongFalsely : Prop := fnExactSquaresOfRow.holds Try.pinned (OpenSpec.ofChange fnExactSquaresOfWrong)

/-- 'laws.FnExactWorstMinimum': WHATEVER THE INPUT: true; the input reads as it did. -/
def fnExactWorstMinimumSpec : ChangeSpec := { name := "fnExactWorstMinimum", fn := fun _ => fun
  | [d1, d2] => { results := [.lit (.bool true)], args := [d1, d2] }
  | _ => none }
def fnExactWorstMinimumRow : OpenClaim := { program := "ytbjflgohahmjgaa", sum := "08b15fd174c3fcea114b5619e45d7b7f8b901e0156e2904193f0bd02c8a3d698", func := "loop.example/g01026/laws.FnExactWorstMinimum", spec := "fnExactWorstMinimum", unfollowed := true, recurses := true, apart := false }
def FnExactWorstMinimumSaid : Prop := fnExactWorstMinimumRow.holds Try.pinned (OpenSpec.ofChange fnExactWorstMinimumSpec)

/-- ITS FALSE NEIGHBOUR: 'it returns false'. Refute it at one input. -/
def fnExactWorstMinimumWrong : ChangeSpec := { name := "fnExactWorstMinimum", fn := fun _ => fun
  | [d1, d2] => { results := [.lit (.bool false)], args := [d1, d2] }
  | _ => none }
def FnExactWorstMinimumWrongFalsely : Prop := fnExactWorstMinimumRow.holds Try.pinned (OpenSpec.ofChange fnExactWorstMinimumWrong)

/-- 'laws.FnExactPeriodBetween': WHATEVER THE INPUT: true; the input reads as it did. -/
def fnExactPeriodBetweenSpec : ChangeSpec := { name := "fnExactPeriodBetween", fn := fun _ => fun
  | [d1, d2] => { results := [.lit (.bool true)], args := [d1, d2] }
  | _ => none }
def fnExactPeriodBetweenRow : OpenClaim := { program := "ytbjflgohahmjgaa", sum := "08b15fd174c3fcea114b5619e45d7b7f8b901e0156e2904193f0bd02c8a3d698", func := "loop.example/g01026/laws.FnExactPeriodBetween", spec := "fnExactPeriodBetween", apart := false }
def FnExactPeriodBetweenSaid : Prop := fnExactPeriodBetweenRow.holds Try.pinned (OpenSpec.ofChange fnExactPeriodBetweenSpec)

/-- ITS FALSE NEIGHBOUR: 'it returns false'. Refute it at one input. -/
def fnExactPeriodBetweenWrong : ChangeSpec := { name := "fnExactPeriodBetween", fn := fun _ => fun
  | [d1, d2] => { results := [.lit (.bool false)], args := [d1, d2] }
  | _ => none }
def FnExactPeriodBetweenWrongFalsely : Prop := fnExactPeriodBetweenRow.holds Try.pinned (OpenSpec.ofChange fnExactPeriodBetweenWrong)

/-- 'laws.FnExactCountsBetween': WHATEVER THE INPUT: true; the input reads as it did. -/
def fnExactCountsBetweenSpec : ChangeSpec := { name := "fnExactCountsBetween", fn := fun _ => fun
  | [d1, d2, d3, d4] => { results := [.lit (.bool true)], args := [d1, d2, d3, d4] }
  | _ => none }
def fnExactCountsBetweenRow : OpenClaim := { program := "ytbjflgohahmjgaa", sum := "08b15fd174c3fcea114b5619e45d7b7f8b901e0156e2904193f0bd02c8a3d698", func := "loop.example/g01026/laws.FnExactCountsBetween", spec := "fnExactCountsBetween", apart := false }
def FnExactCountsBetweenSaid : Prop := fnExactCountsBetweenRow.holds Try.pinned (OpenSpec.ofChange fnExactCountsBetweenSpec)

/-- ITS FALSE NEIGHBOUR: 'it returns false'. Refute it at one input. -/
def fnExactCountsBetweenWrong : ChangeSpec := { name := "fnExactCountsBetween", fn := fun _ => fun
  | [d1, d2, d3, d4] => { results := [.lit (.bool false)], args := [d1, d2, d3, d4] }
  | _ => none }
def FnExactCountsBetweenWrongFalsely : Prop := fnExactCountsBetweenRow.holds Try.pinned (OpenSpec.ofChange fnExactCountsBetweenWrong)

/-- 'laws.FnExactShiftCycles': WHATEVER THE INPUT: true; the input reads as it did. -/
def fnExactShiftCyclesSpec : ChangeSpec := { name := "fnExactShiftCycles", fn := fun _ => fun
  | [d1, d2] => { results := [.lit (.bool true)], args := [d1, d2] }
  | _ => none }
def fnExactShiftCyclesRow : OpenClaim := { program := "ytbjflgohahmjgaa", sum := "08b15fd174c3fcea114b5619e45d7b7f8b901e0156e2904193f0bd02c8a3d698", func := "loop.example/g01026/laws.FnExactShiftCycles", spec := "fnExactShiftCycles", unfollowed := true, recurses := true, apart := false }
def FnExactShiftCyclesSaid : Prop := fnExactShiftCyclesRow.holds Try.pinned (OpenSpec.ofChange fnExactShiftCyclesSpec)

/-- ITS FALSE NEIGHBOUR: 'it returns false'. Refute it at one input. -/
def fnExactShiftCyclesWrong : ChangeSpec := { name := "fnExactShiftCycles", fn := fun _ => fun
  | [d1, d2] => { results := [.lit (.bool false)], args := [d1, d2] }
  | _ => none }
def FnExactShiftCyclesWrongFalsely : Prop := fnExactShiftCyclesRow.holds Try.pinned (OpenSpec.ofChange fnExactShiftCyclesWrong)

/- THE SECOND FORM. 'bulk': how many values and letters a reading holds, each counted each time it is reached (what is shared counts as often as it is met; a slice's spare places count too). A statement '..UptoSaid' is the law's where the arguments, and the package variables that the reading takes, are together of bulk at most 1048576: NARROWER than '..Said'. Prove '..Said' where nothing that the law and all that it calls make is longer than what came in: it says more and counts as full. Else prove '..UptoSaid'. A law counts once. -/
mutual
def uptoBulk {H : Type} : DataW H → Nat
  | .lit (.string bytes) => bytes.length + 1
  | .lit _ => 1
  | .nil => 1
  | .ptr d => uptoBulk d + 1
  | .slice elems spare => uptoBulkAll elems + uptoBulkAll spare + 1
  | .agg parts => uptoBulkAll parts + 1
  | .iface _ d => uptoBulk d + 1
  | .map entries => uptoBulkEntries entries + 1
  | .held _ => 1
def uptoBulkAll {H : Type} : List (DataW H) → Nat
  | [] => 0
  | d :: r => uptoBulk d + uptoBulkAll r
def uptoBulkEntries {H : Type} : List (Lit × DataW H) → Nat
  | [] => 0
  | x :: r => uptoBulkEntry x + uptoBulkEntries r
def uptoBulkEntry {H : Type} : Lit × DataW H → Nat
  | (.string bytes, d) => bytes.length + uptoBulk d + 1
  | (_, d) => uptoBulk d + 1
 end
def uptoSmall : (H : Type) → List (DataW H) → Bool := fun _ ds => decide (uptoBulkAll ds ≤ 1048576)
def OpenSpec.upto (s : _root_.Go.ChangeSpec) : _root_.Go.OpenSpec := { _root_.Go.OpenSpec.ofChange s with cond := some uptoSmall }

/-- 'laws.FnCounts', WHERE WHAT IT READS IS OF BULK AT MOST 1048576: true; the input reads as it did. -/
def fnCountsUptoRow : OpenClaim := { program := "ytbjflgohahmjgaa", sum := "08b15fd174c3fcea114b5619e45d7b7f8b901e0156e2904193f0bd02c8a3d698", func := "loop.example/g01026/laws.FnCounts", spec := "fnCounts", apart := false, narrowed := true }
def FnCountsUptoSaid : Prop := fnCountsUptoRow.holds Try.pinned (OpenSpec.upto fnCountsSpec)

/-- 'laws.FnExactValidMinima', WHERE WHAT IT READS IS OF BULK AT MOST 1048576: true; the input reads as it did. -/
def fnExactValidMinimaUptoRow : OpenClaim := { program := "ytbjflgohahmjgaa", sum := "08b15fd174c3fcea114b5619e45d7b7f8b901e0156e2904193f0bd02c8a3d698", func := "loop.example/g01026/laws.FnExactValidMinima", spec := "fnExactValidMinima", unfollowed := true, recurses := true, apart := false, narrowed := true }
def FnExactValidMinimaUptoSaid : Prop := fnExactValidMinimaUptoRow.holds Try.pinned (OpenSpec.upto fnExactValidMinimaSpec)

/-- 'laws.FnExactResidualsOf', WHERE WHAT IT READS IS OF BULK AT MOST 1048576: true; the input reads as it did. -/
def fnExactResidualsOfUptoRow : OpenClaim := { program := "ytbjflgohahmjgaa", sum := "08b15fd174c3fcea114b5619e45d7b7f8b901e0156e2904193f0bd02c8a3d698", func := "loop.example/g01026/laws.FnExactResidualsOf", spec := "fnExactResidualsOf", unfollowed := true, recurses := true, apart := false, narrowed := true }
def FnExactResidualsOfUptoSaid : Prop := fnExactResidualsOfUptoRow.holds Try.pinned (OpenSpec.upto fnExactResidualsOfSpec)

/-- 'laws.FnExactSquaresOf', WHERE WHAT IT READS IS OF BULK AT MOST 1048576: true; the input reads as it did. -/
def fnExactSquaresOfUptoRow : OpenClaim := { program := "ytbjflgohahmjgaa", sum := "08b15fd174c3fcea114b5619e45d7b7f8b901e0156e2904193f0bd02c8a3d698", func := "loop.example/g01026/laws.FnExactSquaresOf", spec := "fnExactSquaresOf", unfollowed := true, recurses := true, apart := false, narrowed := true }
def FnExactSquaresOfUptoSaid : Prop := fnExactSquaresOfUptoRow.holds Try.pinned (OpenSpec.upto fnExactSquaresOfSpec)

/-- 'laws.FnExactWorstMinimum', WHERE WHAT IT READS IS OF BULK AT MOST 1048576: true; the input reads as it did. -/
def fnExactWorstMinimumUptoRow : OpenClaim := { program := "ytbjflgohahmjgaa", sum := "08b15fd174c3fcea114b5619e45d7b7f8b901e0156e2904193f0bd02c8a3d698", func := "loop.example/g01026/laws.FnExactWorstMinimum", spec := "fnExactWorstMinimum", unfollowed := true, recurses := true, apart := false, narrowed := true }
def FnExactWorstMinimumUptoSaid : Prop := fnExactWorstMinimumUptoRow.holds Try.pinned (OpenSpec.upto fnExactWorstMinimumSpec)

/-- 'laws.FnExactPeriodBetween', WHERE WHAT IT READS IS OF BULK AT MOST 1048576: true; the input reads as it did. -/
def fnExactPeriodBetweenUptoRow : OpenClaim := { program := "ytbjflgohahmjgaa", sum := "08b15fd174c3fcea114b5619e45d7b7f8b901e0156e2904193f0bd02c8a3d698", func := "loop.example/g01026/laws.FnExactPeriodBetween", spec := "fnExactPeriodBetween", apart := false, narrowed := true }
def FnExactPeriodBetweenUptoSaid : Prop := fnExactPeriodBetweenUptoRow.holds Try.pinned (OpenSpec.upto fnExactPeriodBetweenSpec)

/-- 'laws.FnExactCountsBetween', WHERE WHAT IT READS IS OF BULK AT MOST 1048576: true; the input reads as it did. -/
def fnExactCountsBetweenUptoRow : OpenClaim := { program := "ytbjflgohahmjgaa", sum := "08b15fd174c3fcea114b5619e45d7b7f8b901e0156e2904193f0bd02c8a3d698", func := "loop.example/g01026/laws.FnExactCountsBetween", spec := "fnExactCountsBetween", apart := false, narrowed := true }
def FnExactCountsBetweenUptoSaid : Prop := fnExactCountsBetweenUptoRow.holds Try.pinned (OpenSpec.upto fnExactCountsBetweenSpec)

/-- 'laws.FnExactShiftCycles', WHERE WHAT IT READS IS OF BULK AT MOST 1048576: true; the input reads as it did. -/
def fnExactShiftCyclesUptoRow : OpenClaim := { program := "ytbjflgohahmjgaa", sum := "08b15fd174c3fcea114b5619e45d7b7f8b901e0156e2904193f0bd02c8a3d698", func := "loop.example/g01026/laws.FnExactShiftCycles", spec := "fnExactShiftCycles", unfollowed := true, recurses := true, apart := false, narrowed := true }
def FnExactShiftCyclesUptoSaid : Prop := fnExactShiftCyclesUptoRow.holds Try.pinned (OpenSpec.upto fnExactShiftCyclesSpec)

end Rows
end Go.Proofs.Ytbjflgohahmjgaa
