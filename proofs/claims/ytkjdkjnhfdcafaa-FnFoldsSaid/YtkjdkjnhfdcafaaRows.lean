/-
  No cell of these rows narrows 'for every input' (looked for: loops, veiled, ifaces, maps, wideKeys, modest, calm, conditions, laid).
  DERIVED. THE GIVEN ROWS OF THIS SEAT. 12 by the template 'for every input the law returns true; each argument reads behind the call as it read before'; 0 by the template 'total and deterministic' (their statements: YtkjdkjnhfdcafaaTotals.lean).
  GIVEN WITH THE SEED: the statements are not yours to turn. If you find one false, say at which input.
  Laid BY PROGRAM, IN A SANDBOX (cutbox-rows.mjs): the forced cells as the released guide's own fill.sh prints them over the translation 2ca3fe614d9fa96f… (all of the seat's roots in one cut). By AI agents, Wed Nov 11 2026. No macro, syntax, notation, axiom, sorry.
-/
import Derived.Test.YtkjdkjnhfdcafaaChecked
import GoSem.Claim
import GoSem.ClaimJoined
import GoSem.ClaimMapViews
import Derived.JoinedTies
import Derived.KernelRfl
namespace Go.Proofs.Ytkjdkjnhfdcafaa
/- THE CELL 'sum', in the pinned program and in every row, IS THE sha256 OF THE DUMP (.gsa) THAT YtkjdkjnhfdcafaaProg.lean LOADS. Nothing in Lean hashes anything: it is a label: what it is worth is what the hold of that sum in a sandbox is worth. -/
noncomputable def Try.pinned : Pinned := { name := "ytkjdkjnhfdcafaa", sum := "2ca3fe614d9fa96fa709709429359cbffbdf4e041e8b9cc8f01d737f13a38ab0", checked := Try.checked }
namespace Rows
def none {H : Type} : Left H := { results := [], args := [] }

/-- 'laws.FnExactValidSearch': WHATEVER THE INPUT: true; the input reads as it did. -/
def fnExactValidSearchSpec : ChangeSpec := { name := "fnExactValidSearch", fn := fun _ => fun
  | [d] => { results := [.lit (.bool true)], args := [d] }
  | _ => none }
def fnExactValidSearchRow : OpenClaim := { program := "ytkjdkjnhfdcafaa", sum := "2ca3fe614d9fa96fa709709429359cbffbdf4e041e8b9cc8f01d737f13a38ab0", func := "loop.example/g01026/laws.FnExactValidSearch", spec := "fnExactValidSearch", apart := false }
def FnExactValidSearchSaid : Prop := fnExactValidSearchRow.holds Try.pinned (OpenSpec.ofChange fnExactValidSearchSpec)

/-- ITS FALSE NEIGHBOUR: 'it returns false'. Refute it at one input. -/
def fnExactValidSearchWrong : ChangeSpec := { name := "fnExactValidSearch", fn := fun _ => fun
  | [d] => { results := [.lit (.bool false)], args := [d] }
  | _ => none }
def FnExactValidSearchWrongFalsely : Prop := fnExactValidSearchRow.holds Try.pinned (OpenSpec.ofChange fnExactValidSearchWrong)

/-- 'laws.FnExactPeriodsOf': WHATEVER THE INPUT: true; the input reads as it did. -/
def fnExactPeriodsOfSpec : ChangeSpec := { name := "fnExactPeriodsOf", fn := fun _ => fun
  | [d] => { results := [.lit (.bool true)], args := [d] }
  | _ => none }
def fnExactPeriodsOfRow : OpenClaim := { program := "ytkjdkjnhfdcafaa", sum := "2ca3fe614d9fa96fa709709429359cbffbdf4e041e8b9cc8f01d737f13a38ab0", func := "loop.example/g01026/laws.FnExactPeriodsOf", spec := "fnExactPeriodsOf", apart := false }
def FnExactPeriodsOfSaid : Prop := fnExactPeriodsOfRow.holds Try.pinned (OpenSpec.ofChange fnExactPeriodsOfSpec)

/-- ITS FALSE NEIGHBOUR: 'it returns false'. Refute it at one input. -/
def fnExactPeriodsOfWrong : ChangeSpec := { name := "fnExactPeriodsOf", fn := fun _ => fun
  | [d] => { results := [.lit (.bool false)], args := [d] }
  | _ => none }
def FnExactPeriodsOfWrongFalsely : Prop := fnExactPeriodsOfRow.holds Try.pinned (OpenSpec.ofChange fnExactPeriodsOfWrong)

/-- 'laws.FnExactStringLength': WHATEVER THE INPUT: true; the input reads as it did. -/
def fnExactStringLengthSpec : ChangeSpec := { name := "fnExactStringLength", fn := fun _ => fun
  | [d1, d2] => { results := [.lit (.bool true)], args := [d1, d2] }
  | _ => none }
def fnExactStringLengthRow : OpenClaim := { program := "ytkjdkjnhfdcafaa", sum := "2ca3fe614d9fa96fa709709429359cbffbdf4e041e8b9cc8f01d737f13a38ab0", func := "loop.example/g01026/laws.FnExactStringLength", spec := "fnExactStringLength", unfollowed := true, recurses := true, leaving := true, apart := false }
def FnExactStringLengthSaid : Prop := fnExactStringLengthRow.holds Try.pinned (OpenSpec.ofChange fnExactStringLengthSpec)

/-- ITS FALSE NEIGHBOUR: 'it returns false'. Refute it at one input. -/
def fnExactStringLengthWrong : ChangeSpec := { name := "fnExactStringLength", fn := fun _ => fun
  | [d1, d2] => { results := [.lit (.bool false)], args := [d1, d2] }
  | _ => none }
def FnExactStringLengthWrongFalsely : Prop := fnExactStringLengthRow.holds Try.pinned (OpenSpec.ofChange fnExactStringLengthWrong)

/-- 'laws.FnExactStringLengths': WHATEVER THE INPUT: true; the input reads as it did. -/
def fnExactStringLengthsSpec : ChangeSpec := { name := "fnExactStringLengths", fn := fun _ => fun
  | [d1, d2] => { results := [.lit (.bool true)], args := [d1, d2] }
  | _ => none }
def fnExactStringLengthsRow : OpenClaim := { program := "ytkjdkjnhfdcafaa", sum := "2ca3fe614d9fa96fa709709429359cbffbdf4e041e8b9cc8f01d737f13a38ab0", func := "loop.example/g01026/laws.FnExactStringLengths", spec := "fnExactStringLengths", unfollowed := true, recurses := true, leaving := true, apart := false }
def FnExactStringLengthsSaid : Prop := fnExactStringLengthsRow.holds Try.pinned (OpenSpec.ofChange fnExactStringLengthsSpec)

/-- ITS FALSE NEIGHBOUR: 'it returns false'. Refute it at one input. -/
def fnExactStringLengthsWrong : ChangeSpec := { name := "fnExactStringLengths", fn := fun _ => fun
  | [d1, d2] => { results := [.lit (.bool false)], args := [d1, d2] }
  | _ => none }
def FnExactStringLengthsWrongFalsely : Prop := fnExactStringLengthsRow.holds Try.pinned (OpenSpec.ofChange fnExactStringLengthsWrong)

/-- 'laws.FnExactBestPeriod': WHATEVER THE INPUT: true; the input reads as it did. -/
def fnExactBestPeriodSpec : ChangeSpec := { name := "fnExactBestPeriod", fn := fun _ => fun
  | [d1, d2] => { results := [.lit (.bool true)], args := [d1, d2] }
  | _ => none }
def fnExactBestPeriodRow : OpenClaim := { program := "ytkjdkjnhfdcafaa", sum := "2ca3fe614d9fa96fa709709429359cbffbdf4e041e8b9cc8f01d737f13a38ab0", func := "loop.example/g01026/laws.FnExactBestPeriod", spec := "fnExactBestPeriod", unfollowed := true, recurses := true, leaving := true, apart := false }
def FnExactBestPeriodSaid : Prop := fnExactBestPeriodRow.holds Try.pinned (OpenSpec.ofChange fnExactBestPeriodSpec)

/-- ITS FALSE NEIGHBOUR: 'it returns false'. Refute it at one input. -/
def fnExactBestPeriodWrong : ChangeSpec := { name := "fnExactBestPeriod", fn := fun _ => fun
  | [d1, d2] => { results := [.lit (.bool false)], args := [d1, d2] }
  | _ => none }
def FnExactBestPeriodWrongFalsely : Prop := fnExactBestPeriodRow.holds Try.pinned (OpenSpec.ofChange fnExactBestPeriodWrong)

/-- 'laws.FnExactSecondPeriod': WHATEVER THE INPUT: true; the input reads as it did. -/
def fnExactSecondPeriodSpec : ChangeSpec := { name := "fnExactSecondPeriod", fn := fun _ => fun
  | [d1, d2] => { results := [.lit (.bool true)], args := [d1, d2] }
  | _ => none }
def fnExactSecondPeriodRow : OpenClaim := { program := "ytkjdkjnhfdcafaa", sum := "2ca3fe614d9fa96fa709709429359cbffbdf4e041e8b9cc8f01d737f13a38ab0", func := "loop.example/g01026/laws.FnExactSecondPeriod", spec := "fnExactSecondPeriod", unfollowed := true, recurses := true, leaving := true, apart := false }
def FnExactSecondPeriodSaid : Prop := fnExactSecondPeriodRow.holds Try.pinned (OpenSpec.ofChange fnExactSecondPeriodSpec)

/-- ITS FALSE NEIGHBOUR: 'it returns false'. Refute it at one input. -/
def fnExactSecondPeriodWrong : ChangeSpec := { name := "fnExactSecondPeriod", fn := fun _ => fun
  | [d1, d2] => { results := [.lit (.bool false)], args := [d1, d2] }
  | _ => none }
def FnExactSecondPeriodWrongFalsely : Prop := fnExactSecondPeriodRow.holds Try.pinned (OpenSpec.ofChange fnExactSecondPeriodWrong)

/-- 'laws.FnExactRefineSearch': WHATEVER THE INPUT: true; the input reads as it did. -/
def fnExactRefineSearchSpec : ChangeSpec := { name := "fnExactRefineSearch", fn := fun _ => fun
  | [d1, d2, d3] => { results := [.lit (.bool true)], args := [d1, d2, d3] }
  | _ => none }
def fnExactRefineSearchRow : OpenClaim := { program := "ytkjdkjnhfdcafaa", sum := "2ca3fe614d9fa96fa709709429359cbffbdf4e041e8b9cc8f01d737f13a38ab0", func := "loop.example/g01026/laws.FnExactRefineSearch", spec := "fnExactRefineSearch", unfollowed := true, recurses := true, leaving := true, apart := false }
def FnExactRefineSearchSaid : Prop := fnExactRefineSearchRow.holds Try.pinned (OpenSpec.ofChange fnExactRefineSearchSpec)

/-- ITS FALSE NEIGHBOUR: 'it returns false'. Refute it at one input. -/
def fnExactRefineSearchWrong : ChangeSpec := { name := "fnExactRefineSearch", fn := fun _ => fun
  | [d1, d2, d3] => { results := [.lit (.bool false)], args := [d1, d2, d3] }
  | _ => none }
def FnExactRefineSearchWrongFalsely : Prop := fnExactRefineSearchRow.holds Try.pinned (OpenSpec.ofChange fnExactRefineSearchWrong)

/-- 'laws.FnExactShortestString': WHATEVER THE INPUT: true; the input reads as it did. -/
def fnExactShortestStringSpec : ChangeSpec := { name := "fnExactShortestString", fn := fun _ => fun
  | [d] => { results := [.lit (.bool true)], args := [d] }
  | _ => none }
def fnExactShortestStringRow : OpenClaim := { program := "ytkjdkjnhfdcafaa", sum := "2ca3fe614d9fa96fa709709429359cbffbdf4e041e8b9cc8f01d737f13a38ab0", func := "loop.example/g01026/laws.FnExactShortestString", spec := "fnExactShortestString", unfollowed := true, recurses := true, leaving := true, apart := false }
def FnExactShortestStringSaid : Prop := fnExactShortestStringRow.holds Try.pinned (OpenSpec.ofChange fnExactShortestStringSpec)

/-- ITS FALSE NEIGHBOUR: 'it returns false'. Refute it at one input. -/
def fnExactShortestStringWrong : ChangeSpec := { name := "fnExactShortestString", fn := fun _ => fun
  | [d] => { results := [.lit (.bool false)], args := [d] }
  | _ => none }
def FnExactShortestStringWrongFalsely : Prop := fnExactShortestStringRow.holds Try.pinned (OpenSpec.ofChange fnExactShortestStringWrong)

/-- 'laws.FnStringLens': WHATEVER THE INPUT: true; the input reads as it did. -/
def fnStringLensSpec : ChangeSpec := { name := "fnStringLens", fn := fun _ => fun
  | [d] => { results := [.lit (.bool true)], args := [d] }
  | _ => none }
def fnStringLensRow : OpenClaim := { program := "ytkjdkjnhfdcafaa", sum := "2ca3fe614d9fa96fa709709429359cbffbdf4e041e8b9cc8f01d737f13a38ab0", func := "loop.example/g01026/laws.FnStringLens", spec := "fnStringLens", unfollowed := true, recurses := true, leaving := true, apart := false }
def FnStringLensSaid : Prop := fnStringLensRow.holds Try.pinned (OpenSpec.ofChange fnStringLensSpec)

/-- ITS FALSE NEIGHBOUR: 'it returns false'. Refute it at one input. -/
def fnStringLensWrong : ChangeSpec := { name := "fnStringLens", fn := fun _ => fun
  | [d] => { results := [.lit (.bool false)], args := [d] }
  | _ => none }
def FnStringLensWrongFalsely : Prop := fnStringLensRow.holds Try.pinned (OpenSpec.ofChange fnStringLensWrong)

/-- 'laws.FnRefined': WHATEVER THE INPUT: true; the input reads as it did. -/
def fnRefinedSpec : ChangeSpec := { name := "fnRefined", fn := fun _ => fun
  | [d1, d2] => { results := [.lit (.bool true)], args := [d1, d2] }
  | _ => none }
def fnRefinedRow : OpenClaim := { program := "ytkjdkjnhfdcafaa", sum := "2ca3fe614d9fa96fa709709429359cbffbdf4e041e8b9cc8f01d737f13a38ab0", func := "loop.example/g01026/laws.FnRefined", spec := "fnRefined", unfollowed := true, recurses := true, leaving := true, apart := false }
def FnRefinedSaid : Prop := fnRefinedRow.holds Try.pinned (OpenSpec.ofChange fnRefinedSpec)

/-- ITS FALSE NEIGHBOUR: 'it returns false'. Refute it at one input. -/
def fnRefinedWrong : ChangeSpec := { name := "fnRefined", fn := fun _ => fun
  | [d1, d2] => { results := [.lit (.bool false)], args := [d1, d2] }
  | _ => none }
def FnRefinedWrongFalsely : Prop := fnRefinedRow.holds Try.pinned (OpenSpec.ofChange fnRefinedWrong)

/-- 'laws.FnExactFoldOrder': WHATEVER THE INPUT: true; the input reads as it did. -/
def fnExactFoldOrderSpec : ChangeSpec := { name := "fnExactFoldOrder", fn := fun _ => fun
  | [d1, d2] => { results := [.lit (.bool true)], args := [d1, d2] }
  | _ => none }
def fnExactFoldOrderRow : OpenClaim := { program := "ytkjdkjnhfdcafaa", sum := "2ca3fe614d9fa96fa709709429359cbffbdf4e041e8b9cc8f01d737f13a38ab0", func := "loop.example/g01026/laws.FnExactFoldOrder", spec := "fnExactFoldOrder", unfollowed := true, recurses := true, leaving := true, apart := false }
def FnExactFoldOrderSaid : Prop := fnExactFoldOrderRow.holds Try.pinned (OpenSpec.ofChange fnExactFoldOrderSpec)

/-- ITS FALSE NEIGHBOUR: 'it returns false'. Refute it at one input. -/
def fnExactFoldOrderWrong : ChangeSpec := { name := "fnExactFoldOrder", fn := fun _ => fun
  | [d1, d2] => { results := [.lit (.bool false)], args := [d1, d2] }
  | _ => none }
def FnExactFoldOrderWrongFalsely : Prop := fnExactFoldOrderRow.holds Try.pinned (OpenSpec.ofChange fnExactFoldOrderWrong)

/-- 'laws.FnFolds': WHATEVER THE INPUT: true; the input reads as it did. -/
def fnFoldsSpec : ChangeSpec := { name := "fnFolds", fn := fun _ => fun
  | [d1, d2] => { results := [.lit (.bool true)], args := [d1, d2] }
  | _ => none }
def fnFoldsRow : OpenClaim := { program := "ytkjdkjnhfdcafaa", sum := "2ca3fe614d9fa96fa709709429359cbffbdf4e041e8b9cc8f01d737f13a38ab0", func := "loop.example/g01026/laws.FnFolds", spec := "fnFolds", unfollowed := true, recurses := true, leaving := true, apart := false }
def FnFoldsSaid : Prop := fnFoldsRow.holds Try.pinned (OpenSpec.ofChange fnFoldsSpec)

/-- ITS FALSE NEIGHBOUR: 'it returns false'. Refute it at one input. -/
def fnFoldsWrong : ChangeSpec := { name := "fnFolds", fn := fun _ => fun
  | [d1, d2] => { results := [.lit (.bool false)], args := [d1, d2] }
  | _ => none }
def FnFoldsWrongFalsely : Prop := fnFoldsRow.holds Try.pinned (OpenSpec.ofChange fnFoldsWrong)

/- THE SECOND FORM. 'bulk': how many values and letters a reading holds, each counted each time it is reached (what is shared counts as often as it is met; a slice's spare places count too). A statement '..UptoSaid' is the law's where the arguments, and the package variables that the reading takes, are together of bulk at most 1048576: NARROWER than '..Said'. Prove '..Said' where nothing that the law and all that it calls make is longer than what came in: it says more and counts as full. Else prove '..UptoSaid'. A law counts once. -/
mutual
def uptoBulk {H : Type} : DataW H → Nat
  | .lit (.string bytes) => bytes.length + 1
  | .lit _ => 1
  | .nil => 1
  | .ptr d => uptoBulk d + 1
  | .slice elems spare => uptoBulkAll elems + uptoBulkAll spare + 1
  | .agg parts => uptoBulkAll parts + 1
  | .iface _ d => uptoBulk d + 1
  | .map entries => uptoBulkEntries entries + 1
  | .held _ => 1
def uptoBulkAll {H : Type} : List (DataW H) → Nat
  | [] => 0
  | d :: r => uptoBulk d + uptoBulkAll r
def uptoBulkEntries {H : Type} : List (Lit × DataW H) → Nat
  | [] => 0
  | x :: r => uptoBulkEntry x + uptoBulkEntries r
def uptoBulkEntry {H : Type} : Lit × DataW H → Nat
  | (.string bytes, d) => bytes.length + uptoBulk d + 1
  | (_, d) => uptoBulk d + 1
 end
def uptoSmall : (H : Type) → List (DataW H) → Bool := fun _ ds => decide (uptoBulkAll ds ≤ 1048576)
def OpenSpec.upto (s : _root_.Go.ChangeSpec) : _root_.Go.OpenSpec := { _root_.Go.OpenSpec.ofChange s with cond := some uptoSmall }

/-- 'laws.FnExactValidSearch', WHERE WHAT IT READS IS OF BULK AT MOST 1048576: true; the input reads as it did. -/
def fnExactValidSearchUptoRow : OpenClaim := { program := "ytkjdkjnhfdcafaa", sum := "2ca3fe614d9fa96fa709709429359cbffbdf4e041e8b9cc8f01d737f13a38ab0", func := "loop.example/g01026/laws.FnExactValidSearch", spec := "fnExactValidSearch", apart := false, narrowed := true }
def FnExactValidSearchUptoSaid : Prop := fnExactValidSearchUptoRow.holds Try.pinned (OpenSpec.upto fnExactValidSearchSpec)

/-- 'laws.FnExactPeriodsOf', WHERE WHAT IT READS IS OF BULK AT MOST 1048576: true; the input reads as it did. -/
def fnExactPeriodsOfUptoRow : OpenClaim := { program := "ytkjdkjnhfdcafaa", sum := "2ca3fe614d9fa96fa709709429359cbffbdf4e041e8b9cc8f01d737f13a38ab0", func := "loop.example/g01026/laws.FnExactPeriodsOf", spec := "fnExactPeriodsOf", apart := false, narrowed := true }
def FnExactPeriodsOfUptoSaid : Prop := fnExactPeriodsOfUptoRow.holds Try.pinned (OpenSpec.upto fnExactPeriodsOfSpec)

/-- 'laws.FnExactStringLength', WHERE WHAT IT READS IS OF BULK AT MOST 1048576: true; the input reads as it did. -/
def fnExactStringLengthUptoRow : OpenClaim := { program := "ytkjdkjnhfdcafaa", sum := "2ca3fe614d9fa96fa709709429359cbffbdf4e041e8b9cc8f01d737f13a38ab0", func := "loop.example/g01026/laws.FnExactStringLength", spec := "fnExactStringLength", unfollowed := true, recurses := true, leaving := true, apart := false, narrowed := true }
def FnExactStringLengthUptoSaid : Prop := fnExactStringLengthUptoRow.holds Try.pinned (OpenSpec.upto fnExactStringLengthSpec)

/-- 'laws.FnExactStringLengths', WHERE WHAT IT READS IS OF BULK AT MOST 1048576: true; the input reads as it did. -/
def fnExactStringLengthsUptoRow : OpenClaim := { program := "ytkjdkjnhfdcafaa", sum := "2ca3fe614d9fa96fa709709429359cbffbdf4e041e8b9cc8f01d737f13a38ab0", func := "loop.example/g01026/laws.FnExactStringLengths", spec := "fnExactStringLengths", unfollowed := true, recurses := true, leaving := true, apart := false, narrowed := true }
def FnExactStringLengthsUptoSaid : Prop := fnExactStringLengthsUptoRow.holds Try.pinned (OpenSpec.upto fnExactStringLengthsSpec)

/-- 'laws.FnExactBestPeriod', WHERE WHAT IT READS IS OF BULK AT MOST 1048576: true; the input reads as it did. -/
def fnExactBestPeriodUptoRow : OpenClaim := { program := "ytkjdkjnhfdcafaa", sum := "2ca3fe614d9fa96fa709709429359cbffbdf4e041e8b9cc8f01d737f13a38ab0", func := "loop.example/g01026/laws.FnExactBestPeriod", spec := "fnExactBestPeriod", unfollowed := true, recurses := true, leaving := true, apart := false, narrowed := true }
def FnExactBestPeriodUptoSaid : Prop := fnExactBestPeriodUptoRow.holds Try.pinned (OpenSpec.upto fnExactBestPeriodSpec)

/-- 'laws.FnExactSecondPeriod', WHERE WHAT IT READS IS OF BULK AT MOST 1048576: true; the input reads as it did. -/
def fnExactSecondPeriodUptoRow : OpenClaim := { program := "ytkjdkjnhfdcafaa", sum := "2ca3fe614d9fa96fa709709429359cbffbdf4e041e8b9cc8f01d737f13a38ab0", func := "loop.example/g01026/laws.FnExactSecondPeriod", spec := "fnExactSecondPeriod", unfollowed := true, recurses := true, leaving := true, apart := false, narrowed := true }
def FnExactSecondPeriodUptoSaid : Prop := fnExactSecondPeriodUptoRow.holds Try.pinned (OpenSpec.upto fnExactSecondPeriodSpec)

/-- 'laws.FnExactRefineSearch', WHERE WHAT IT READS IS OF BULK AT MOST 1048576: true; the input reads as it did. -/
def fnExactRefineSearchUptoRow : OpenClaim := { program := "ytkjdkjnhfdcafaa", sum := "2ca3fe614d9fa96fa709709429359cbffbdf4e041e8b9cc8f01d737f13a38ab0", func := "loop.example/g01026/laws.FnExactRefineSearch", spec := "fnExactRefineSearch", unfollowed := true, recurses := true, leaving := true, apart := false, narrowed := true }
def FnExactRefineSearchUptoSaid : Prop := fnExactRefineSearchUptoRow.holds Try.pinned (OpenSpec.upto fnExactRefineSearchSpec)

/-- 'laws.FnExactShortestString', WHERE WHAT IT READS IS OF BULK AT MOST 1048576: true; the input reads as it did. -/
def fnExactShortestStringUptoRow : OpenClaim := { program := "ytkjdkjnhfdcafaa", sum := "2ca3fe614d9fa96fa709709429359cbffbdf4e041e8b9cc8f01d737f13a38ab0", func := "loop.example/g01026/laws.FnExactShortestString", spec := "fnExactShortestString", unfollowed := true, recurses := true, leaving := true, apart := false, narrowed := true }
def FnExactShortestStringUptoSaid : Prop := fnExactShortestStringUptoRow.holds Try.pinned (OpenSpec.upto fnExactShortestStringSpec)

/-- 'laws.FnStringLens', WHERE WHAT IT READS IS OF BULK AT MOST 1048576: true; the input reads as it did. -/
def fnStringLensUptoRow : OpenClaim := { program := "ytkjdkjnhfdcafaa", sum := "2ca3fe614d9fa96fa709709429359cbffbdf4e041e8b9cc8f01d737f13a38ab0", func := "loop.example/g01026/laws.FnStringLens", spec := "fnStringLens", unfollowed := true, recurses := true, leaving := true, apart := false, narrowed := true }
def FnStringLensUptoSaid : Prop := fnStringLensUptoRow.holds Try.pinned (OpenSpec.upto fnStringLensSpec)

/-- 'laws.FnRefined', WHERE WHAT IT READS IS OF BULK AT MOST 1048576: true; the input reads as it did. -/
def fnRefinedUptoRow : OpenClaim := { program := "ytkjdkjnhfdcafaa", sum := "2ca3fe614d9fa96fa709709429359cbffbdf4e041e8b9cc8f01d737f13a38ab0", func := "loop.example/g01026/laws.FnRefined", spec := "fnRefined", unfollowed := true, recurses := true, leaving := true, apart := false, narrowed := true }
def FnRefinedUptoSaid : Prop := fnRefinedUptoRow.holds Try.pinned (OpenSpec.upto fnRefinedSpec)

/-- 'laws.FnExactFoldOrder', WHERE WHAT IT READS IS OF BULK AT MOST 1048576: true; the input reads as it did. -/
def fnExactFoldOrderUptoRow : OpenClaim := { program := "ytkjdkjnhfdcafaa", sum := "2ca3fe614d9fa96fa709709429359cbffbdf4e041e8b9cc8f01d737f13a38ab0", func := "loop.example/g01026/laws.FnExactFoldOrder", spec := "fnExactFoldOrder", unfollowed := true, recurses := true, leaving := true, apart := false, narrowed := true }
def FnExactFoldOrderUptoSaid : Prop := fnExactFoldOrderUptoRow.holds Try.pinned (OpenSpec.upto fnExactFoldOrderSpec)

/-- 'laws.FnFolds', WHERE WHAT IT READS IS OF BULK AT MOST 1048576: true; the input reads as it did. -/
def fnFoldsUptoRow : OpenClaim := { program := "ytkjdkjnhfdcafaa", sum := "2ca3fe614d9fa96fa709709429359cbffbdf4e041e8b9cc8f01d737f13a38ab0", func := "loop.example/g01026/laws.FnFolds", spec := "fnFolds", unfollowed := true, recurses := true, leaving := true, apart := false, narrowed := true }
def FnFoldsUptoSaid : Prop := fnFoldsUptoRow.holds Try.pinned (OpenSpec.upto fnFoldsSpec)

end Rows
end Go.Proofs.Ytkjdkjnhfdcafaa
