/-
  No cell of these rows narrows 'for every input' (looked for: loops, veiled, ifaces, maps, wideKeys, modest, calm, conditions, laid).
  DERIVED. THE GIVEN ROWS OF THIS SEAT. 7 by the template 'for every input the law returns true; each argument reads behind the call as it read before'; 0 by the template 'total and deterministic' (their statements: YtfabpcdeppfmdaaTotals.lean).
  GIVEN WITH THE SEED: the statements are not yours to turn. If you find one false, say at which input.
  Laid BY PROGRAM, IN A SANDBOX (cutbox-rows.mjs): the forced cells as the released guide's own fill.sh prints them over the translation ed6798545df33d12… (all of the seat's roots in one cut). By AI agents, Wed Nov 11 2026. No macro, syntax, notation, axiom, sorry.
-/
import Derived.Test.YtfabpcdeppfmdaaChecked
import GoSem.Claim
import GoSem.ClaimJoined
import GoSem.ClaimMapViews
import Derived.JoinedTies
import Derived.KernelRfl
namespace Go.Proofs.Ytfabpcdeppfmdaa
/- THE CELL 'sum', in the pinned program and in every row, IS THE sha256 OF THE DUMP (.gsa) THAT YtfabpcdeppfmdaaProg.lean LOADS. Nothing in Lean hashes anything: it is a label: what it is worth is what the hold of that sum in a sandbox is worth. -/
noncomputable def Try.pinned : Pinned := { name := "ytfabpcdeppfmdaa", sum := "ed6798545df33d1246031318d05157651a2c3de82f058fdf01e01d8c4d5d9308", checked := Try.checked }
namespace Rows
def none {H : Type} : Left H := { results := [], args := [] }

/-- 'laws.FnExactValidChart': WHATEVER THE INPUT: true; the input reads as it did. -/
def fnExactValidChartSpec : ChangeSpec := { name := "fnExactValidChart", fn := fun _ => fun
  | [d] => { results := [.lit (.bool true)], args := [d] }
  | _ => none }
def fnExactValidChartRow : OpenClaim := { program := "ytfabpcdeppfmdaa", sum := "ed6798545df33d1246031318d05157651a2c3de82f058fdf01e01d8c4d5d9308", func := "loop.example/g01026/laws.FnExactValidChart", spec := "fnExactValidChart", unfollowed := true, recurses := true, apart := false }
def FnExactValidChartSaid : Prop := fnExactValidChartRow.holds Try.pinned (OpenSpec.ofChange fnExactValidChartSpec)

/-- ITS FALSE NEIGHBOUR: 'it returns false'. Refute it at one input. -/
def fnExactValidChartWrong : ChangeSpec := { name := "fnExactValidChart", fn := fun _ => fun
  | [d] => { results := [.lit (.bool false)], args := [d] }
  | _ => none }
def FnExactValidChartWrongFalsely : Prop := fnExactValidChartRow.holds Try.pinned (OpenSpec.ofChange fnExactValidChartWrong)

/-- 'laws.FnExactSameChart': WHATEVER THE INPUT: true; the input reads as it did. -/
def fnExactSameChartSpec : ChangeSpec := { name := "fnExactSameChart", fn := fun _ => fun
  | [d1, d2] => { results := [.lit (.bool true)], args := [d1, d2] }
  | _ => none }
def fnExactSameChartRow : OpenClaim := { program := "ytfabpcdeppfmdaa", sum := "ed6798545df33d1246031318d05157651a2c3de82f058fdf01e01d8c4d5d9308", func := "loop.example/g01026/laws.FnExactSameChart", spec := "fnExactSameChart", apart := false }
def FnExactSameChartSaid : Prop := fnExactSameChartRow.holds Try.pinned (OpenSpec.ofChange fnExactSameChartSpec)

/-- ITS FALSE NEIGHBOUR: 'it returns false'. Refute it at one input. -/
def fnExactSameChartWrong : ChangeSpec := { name := "fnExactSameChart", fn := fun _ => fun
  | [d1, d2] => { results := [.lit (.bool false)], args := [d1, d2] }
  | _ => none }
def FnExactSameChartWrongFalsely : Prop := fnExactSameChartRow.holds Try.pinned (OpenSpec.ofChange fnExactSameChartWrong)

/-- 'laws.FnExactAddMark': WHATEVER THE INPUT: true; the input reads as it did. -/
def fnExactAddMarkSpec : ChangeSpec := { name := "fnExactAddMark", fn := fun _ => fun
  | [d1, d2] => { results := [.lit (.bool true)], args := [d1, d2] }
  | _ => none }
def fnExactAddMarkRow : OpenClaim := { program := "ytfabpcdeppfmdaa", sum := "ed6798545df33d1246031318d05157651a2c3de82f058fdf01e01d8c4d5d9308", func := "loop.example/g01026/laws.FnExactAddMark", spec := "fnExactAddMark", unfollowed := true, recurses := true, apart := false }
def FnExactAddMarkSaid : Prop := fnExactAddMarkRow.holds Try.pinned (OpenSpec.ofChange fnExactAddMarkSpec)

/-- ITS FALSE NEIGHBOUR: 'it returns false'. Refute it at one input. -/
def fnExactAddMarkWrong : ChangeSpec := { name := "fnExactAddMark", fn := fun _ => fun
  | [d1, d2] => { results := [.lit (.bool false)], args := [d1, d2] }
  | _ => none }
def FnExactAddMarkWrongFalsely : Prop := fnExactAddMarkRow.holds Try.pinned (OpenSpec.ofChange fnExactAddMarkWrong)

/-- 'laws.FnExactNearestMark': WHATEVER THE INPUT: true; the input reads as it did. -/
def fnExactNearestMarkSpec : ChangeSpec := { name := "fnExactNearestMark", fn := fun _ => fun
  | [d1, d2, d3] => { results := [.lit (.bool true)], args := [d1, d2, d3] }
  | _ => none }
def fnExactNearestMarkRow : OpenClaim := { program := "ytfabpcdeppfmdaa", sum := "ed6798545df33d1246031318d05157651a2c3de82f058fdf01e01d8c4d5d9308", func := "loop.example/g01026/laws.FnExactNearestMark", spec := "fnExactNearestMark", unfollowed := true, recurses := true, apart := false }
def FnExactNearestMarkSaid : Prop := fnExactNearestMarkRow.holds Try.pinned (OpenSpec.ofChange fnExactNearestMarkSpec)

/-- ITS FALSE NEIGHBOUR: 'it returns false'. Refute it at one input. -/
def fnExactNearestMarkWrong : ChangeSpec := { name := "fnExactNearestMark", fn := fun _ => fun
  | [d1, d2, d3] => { results := [.lit (.bool false)], args := [d1, d2, d3] }
  | _ => none }
def FnExactNearestMarkWrongFalsely : Prop := fnExactNearestMarkRow.holds Try.pinned (OpenSpec.ofChange fnExactNearestMarkWrong)

/-- 'laws.FnExactPairFor': WHATEVER THE INPUT: true; the input reads as it did. -/
def fnExactPairForSpec : ChangeSpec := { name := "fnExactPairFor", fn := fun _ => fun
  | [d1, d2] => { results := [.lit (.bool true)], args := [d1, d2] }
  | _ => none }
def fnExactPairForRow : OpenClaim := { program := "ytfabpcdeppfmdaa", sum := "ed6798545df33d1246031318d05157651a2c3de82f058fdf01e01d8c4d5d9308", func := "loop.example/g01026/laws.FnExactPairFor", spec := "fnExactPairFor", unfollowed := true, recurses := true, apart := false }
def FnExactPairForSaid : Prop := fnExactPairForRow.holds Try.pinned (OpenSpec.ofChange fnExactPairForSpec)

/-- ITS FALSE NEIGHBOUR: 'it returns false'. Refute it at one input. -/
def fnExactPairForWrong : ChangeSpec := { name := "fnExactPairFor", fn := fun _ => fun
  | [d1, d2] => { results := [.lit (.bool false)], args := [d1, d2] }
  | _ => none }
def FnExactPairForWrongFalsely : Prop := fnExactPairForRow.holds Try.pinned (OpenSpec.ofChange fnExactPairForWrong)

/-- 'laws.FnExactMagGaps': WHATEVER THE INPUT: true; the input reads as it did. -/
def fnExactMagGapsSpec : ChangeSpec := { name := "fnExactMagGaps", fn := fun _ => fun
  | [d1, d2] => { results := [.lit (.bool true)], args := [d1, d2] }
  | _ => none }
def fnExactMagGapsRow : OpenClaim := { program := "ytfabpcdeppfmdaa", sum := "ed6798545df33d1246031318d05157651a2c3de82f058fdf01e01d8c4d5d9308", func := "loop.example/g01026/laws.FnExactMagGaps", spec := "fnExactMagGaps", unfollowed := true, recurses := true, apart := false }
def FnExactMagGapsSaid : Prop := fnExactMagGapsRow.holds Try.pinned (OpenSpec.ofChange fnExactMagGapsSpec)

/-- ITS FALSE NEIGHBOUR: 'it returns false'. Refute it at one input. -/
def fnExactMagGapsWrong : ChangeSpec := { name := "fnExactMagGaps", fn := fun _ => fun
  | [d1, d2] => { results := [.lit (.bool false)], args := [d1, d2] }
  | _ => none }
def FnExactMagGapsWrongFalsely : Prop := fnExactMagGapsRow.holds Try.pinned (OpenSpec.ofChange fnExactMagGapsWrong)

/-- 'laws.FnExactFieldOf': WHATEVER THE INPUT: true; the input reads as it did. -/
def fnExactFieldOfSpec : ChangeSpec := { name := "fnExactFieldOf", fn := fun _ => fun
  | [d] => { results := [.lit (.bool true)], args := [d] }
  | _ => none }
def fnExactFieldOfRow : OpenClaim := { program := "ytfabpcdeppfmdaa", sum := "ed6798545df33d1246031318d05157651a2c3de82f058fdf01e01d8c4d5d9308", func := "loop.example/g01026/laws.FnExactFieldOf", spec := "fnExactFieldOf", unfollowed := true, recurses := true, apart := false }
def FnExactFieldOfSaid : Prop := fnExactFieldOfRow.holds Try.pinned (OpenSpec.ofChange fnExactFieldOfSpec)

/-- ITS FALSE NEIGHBOUR: 'it returns false'. Refute it at one input. -/
def fnExactFieldOfWrong : ChangeSpec := { name := "fnExactFieldOf", fn := fun _ => fun
  | [d] => { results := [.lit (.bool false)], args := [d] }
  | _ => none }
def FnExactFieldOfWrongFalsely : Prop := fnExactFieldOfRow.holds Try.pinned (OpenSpec.ofChange fnExactFieldOfWrong)

/- THE SECOND FORM. 'bulk': how many values and letters a reading holds, each counted each time it is reached (what is shared counts as often as it is met; a slice's spare places count too). A statement '..UptoSaid' is the law's where the arguments, and the package variables that the reading takes, are together of bulk at most 1048576: NARROWER than '..Said'. Prove '..Said' where nothing that the law and all that it calls make is longer than what came in: it says more and counts as full. Else prove '..UptoSaid'. A law counts once. -/
mutual
def uptoBulk {H : Type} : DataW H → Nat
  | .lit (.string bytes) => bytes.length + 1
  | .lit _ => 1
  | .nil => 1
  | .ptr d => uptoBulk d + 1
  | .slice elems spare => uptoBulkAll elems + uptoBulkAll spare + 1
  | .agg parts => uptoBulkAll parts + 1
  | .iface _ d => uptoBulk d + 1
  | .map entries => uptoBulkEntries entries + 1
  | .held _ => 1
def uptoBulkAll {H : Type} : List (DataW H) → Nat
  | [] => 0
  | d :: r => uptoBulk d + uptoBulkAll r
def uptoBulkEntries {H : Type} : List (Lit × DataW H) → Nat
  | [] => 0
  | x :: r => uptoBulkEntry x + uptoBulkEntries r
def uptoBulkEntry {H : Type} : Lit × DataW H → Nat
  | (.string bytes, d) => bytes.length + uptoBulk d + 1
  | (_, d) => uptoBulk d + 1
 end
def uptoSmall : (H : Type) → List (DataW H) → Bool := fun _ ds => decide (uptoBulkAll ds ≤ 1048576)
def OpenSpec.upto (s : _root_.Go.ChangeSpec) : _root_.Go.OpenSpec := { _root_.Go.OpenSpec.ofChange s with cond := some uptoSmall }

/-- 'laws.FnExactValidChart', WHERE WHAT IT READS IS OF BULK AT MOST 1048576: true; the input reads as it did. -/
def fnExactValidChartUptoRow : OpenClaim := { program := "ytfabpcdeppfmdaa", sum := "ed6798545df33d1246031318d05157651a2c3de82f058fdf01e01d8c4d5d9308", func := "loop.example/g01026/laws.FnExactValidChart", spec := "fnExactValidChart", unfollowed := true, recurses := true, apart := false, narrowed := true }
def FnExactValidChartUptoSaid : Prop := fnExactValidChartUptoRow.holds Try.pinned (OpenSpec.upto fnExactValidChartSpec)

/-- 'laws.FnExactSameChart', WHERE WHAT IT READS IS OF BULK AT MOST 1048576: true; the input reads as it did. -/
def fnExactSameChartUptoRow : OpenClaim := { program := "ytfabpcdeppfmdaa", sum := "ed6798545df33d1246031318d05157651a2c3de82f058fdf01e01d8c4d5d9308", func := "loop.example/g01026/laws.FnExactSameChart", spec := "fnExactSameChart", apart := false, narrowed := true }
def FnExactSameChartUptoSaid : Prop := fnExactSameChartUptoRow.holds Try.pinned (OpenSpec.upto fnExactSameChartSpec)

/-- 'laws.FnExactAddMark', WHERE WHAT IT READS IS OF BULK AT MOST 1048576: true; the input reads as it did. -/
def fnExactAddMarkUptoRow : OpenClaim := { program := "ytfabpcdeppfmdaa", sum := "ed6798545df33d1246031318d05157651a2c3de82f058fdf01e01d8c4d5d9308", func := "loop.example/g01026/laws.FnExactAddMark", spec := "fnExactAddMark", unfollowed := true, recurses := true, apart := false, narrowed := true }
def FnExactAddMarkUptoSaid : Prop := fnExactAddMarkUptoRow.holds Try.pinned (OpenSpec.upto fnExactAddMarkSpec)

/-- 'laws.FnExactNearestMark', WHERE WHAT IT READS IS OF BULK AT MOST 1048576: true; the input reads as it did. -/
def fnExactNearestMarkUptoRow : OpenClaim := { program := "ytfabpcdeppfmdaa", sum := "ed6798545df33d1246031318d05157651a2c3de82f058fdf01e01d8c4d5d9308", func := "loop.example/g01026/laws.FnExactNearestMark", spec := "fnExactNearestMark", unfollowed := true, recurses := true, apart := false, narrowed := true }
def FnExactNearestMarkUptoSaid : Prop := fnExactNearestMarkUptoRow.holds Try.pinned (OpenSpec.upto fnExactNearestMarkSpec)

/-- 'laws.FnExactPairFor', WHERE WHAT IT READS IS OF BULK AT MOST 1048576: true; the input reads as it did. -/
def fnExactPairForUptoRow : OpenClaim := { program := "ytfabpcdeppfmdaa", sum := "ed6798545df33d1246031318d05157651a2c3de82f058fdf01e01d8c4d5d9308", func := "loop.example/g01026/laws.FnExactPairFor", spec := "fnExactPairFor", unfollowed := true, recurses := true, apart := false, narrowed := true }
def FnExactPairForUptoSaid : Prop := fnExactPairForUptoRow.holds Try.pinned (OpenSpec.upto fnExactPairForSpec)

/-- 'laws.FnExactMagGaps', WHERE WHAT IT READS IS OF BULK AT MOST 1048576: true; the input reads as it did. -/
def fnExactMagGapsUptoRow : OpenClaim := { program := "ytfabpcdeppfmdaa", sum := "ed6798545df33d1246031318d05157651a2c3de82f058fdf01e01d8c4d5d9308", func := "loop.example/g01026/laws.FnExactMagGaps", spec := "fnExactMagGaps", unfollowed := true, recurses := true, apart := false, narrowed := true }
def FnExactMagGapsUptoSaid : Prop := fnExactMagGapsUptoRow.holds Try.pinned (OpenSpec.upto fnExactMagGapsSpec)

/-- 'laws.FnExactFieldOf', WHERE WHAT IT READS IS OF BULK AT MOST 1048576: true; the input reads as it did. -/
def fnExactFieldOfUptoRow : OpenClaim := { program := "ytfabpcdeppfmdaa", sum := "ed6798545df33d1246031318d05157651a2c3de82f058fdf01e01d8c4d5d9308", func := "loop.example/g01026/laws.FnExactFieldOf", spec := "fnExactFieldOf", unfollowed := true, recurses := true, apart := false, narrowed := true }
def FnExactFieldOfUptoSaid : Prop := fnExactFieldOfUptoRow.holds Try.pinned (OpenSpec.upto fnExactFieldOfSpec)

end Rows
end Go.Proofs.Ytfabpcdeppfmdaa
