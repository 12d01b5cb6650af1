/-
  No cell of these rows narrows 'for every input' (looked for: loops, veiled, ifaces, maps, wideKeys, modest, calm, conditions, laid).
  DERIVED. THE GIVEN ROWS OF THIS SEAT. 12 by the template 'for every input the law returns true; each argument reads behind the call as it read before'; 0 by the template 'total and deterministic' (their statements: YtiogffjhhhpolaaTotals.lean).
  GIVEN WITH THE SEED: the statements are not yours to turn. If you find one false, say at which input.
  Laid BY PROGRAM, IN A SANDBOX (cutbox-rows.mjs): the forced cells as the released guide's own fill.sh prints them over the translation f9ed7b4f716843a2… (all of the seat's roots in one cut). By AI agents, Wed Nov 11 2026. No macro, syntax, notation, axiom, sorry.
-/
import Derived.Test.YtiogffjhhhpolaaChecked
import GoSem.Claim
import GoSem.ClaimJoined
import GoSem.ClaimMapViews
import Derived.JoinedTies
import Derived.KernelRfl
namespace Go.Proofs.Ytiogffjhhhpolaa
/- THE CELL 'sum', in the pinned program and in every row, IS THE sha256 OF THE DUMP (.gsa) THAT YtiogffjhhhpolaaProg.lean LOADS. Nothing in Lean hashes anything: it is a label: what it is worth is what the hold of that sum in a sandbox is worth. -/
noncomputable def Try.pinned : Pinned := { name := "ytiogffjhhhpolaa", sum := "f9ed7b4f716843a2b6a9d99d3085ac0b041116f960319e483718883a616abf22", checked := Try.checked }
namespace Rows
def none {H : Type} : Left H := { results := [], args := [] }

/-- 'laws.FnBinned': WHATEVER THE INPUT: true; the input reads as it did. -/
def fnBinnedSpec : ChangeSpec := { name := "fnBinned", fn := fun _ => fun
  | [d1, d2] => { results := [.lit (.bool true)], args := [d1, d2] }
  | _ => none }
def fnBinnedRow : OpenClaim := { program := "ytiogffjhhhpolaa", sum := "f9ed7b4f716843a2b6a9d99d3085ac0b041116f960319e483718883a616abf22", func := "loop.example/g01026/laws.FnBinned", spec := "fnBinned", inPlace := ["internal/reflectlite.ValueOf", "internal/reflectlite.Swapper", "(internal/reflectlite.Value).Len"], unfollowed := true, recurses := true, apart := false }
def FnBinnedSaid : Prop := fnBinnedRow.holds Try.pinned (OpenSpec.ofChange fnBinnedSpec)

/-- ITS FALSE NEIGHBOUR: 'it returns false'. Refute it at one input. -/
def fnBinnedWrong : ChangeSpec := { name := "fnBinned", fn := fun _ => fun
  | [d1, d2] => { results := [.lit (.bool false)], args := [d1, d2] }
  | _ => none }
def FnBinnedWrongFalsely : Prop := fnBinnedRow.holds Try.pinned (OpenSpec.ofChange fnBinnedWrong)

/-- 'laws.FnBetween': WHATEVER THE INPUT: true; the input reads as it did. -/
def fnBetweenSpec : ChangeSpec := { name := "fnBetween", fn := fun _ => fun
  | [d] => { results := [.lit (.bool true)], args := [d] }
  | _ => none }
def fnBetweenRow : OpenClaim := { program := "ytiogffjhhhpolaa", sum := "f9ed7b4f716843a2b6a9d99d3085ac0b041116f960319e483718883a616abf22", func := "loop.example/g01026/laws.FnBetween", spec := "fnBetween", unfollowed := true, recurses := true, apart := false }
def FnBetweenSaid : Prop := fnBetweenRow.holds Try.pinned (OpenSpec.ofChange fnBetweenSpec)

/-- ITS FALSE NEIGHBOUR: 'it returns false'. Refute it at one input. -/
def fnBetweenWrong : ChangeSpec := { name := "fnBetween", fn := fun _ => fun
  | [d] => { results := [.lit (.bool false)], args := [d] }
  | _ => none }
def FnBetweenWrongFalsely : Prop := fnBetweenRow.holds Try.pinned (OpenSpec.ofChange fnBetweenWrong)

/-- 'laws.FnSlopes': WHATEVER THE INPUT: true; the input reads as it did. -/
def fnSlopesSpec : ChangeSpec := { name := "fnSlopes", fn := fun _ => fun
  | [d1, d2] => { results := [.lit (.bool true)], args := [d1, d2] }
  | _ => none }
def fnSlopesRow : OpenClaim := { program := "ytiogffjhhhpolaa", sum := "f9ed7b4f716843a2b6a9d99d3085ac0b041116f960319e483718883a616abf22", func := "loop.example/g01026/laws.FnSlopes", spec := "fnSlopes", unfollowed := true, recurses := true, apart := false }
def FnSlopesSaid : Prop := fnSlopesRow.holds Try.pinned (OpenSpec.ofChange fnSlopesSpec)

/-- ITS FALSE NEIGHBOUR: 'it returns false'. Refute it at one input. -/
def fnSlopesWrong : ChangeSpec := { name := "fnSlopes", fn := fun _ => fun
  | [d1, d2] => { results := [.lit (.bool false)], args := [d1, d2] }
  | _ => none }
def FnSlopesWrongFalsely : Prop := fnSlopesRow.holds Try.pinned (OpenSpec.ofChange fnSlopesWrong)

/-- 'laws.FnCurves': WHATEVER THE INPUT: true; the input reads as it did. -/
def fnCurvesSpec : ChangeSpec := { name := "fnCurves", fn := fun _ => fun
  | [d] => { results := [.lit (.bool true)], args := [d] }
  | _ => none }
def fnCurvesRow : OpenClaim := { program := "ytiogffjhhhpolaa", sum := "f9ed7b4f716843a2b6a9d99d3085ac0b041116f960319e483718883a616abf22", func := "loop.example/g01026/laws.FnCurves", spec := "fnCurves", inPlace := ["internal/bytealg.abigen_runtime_cmpstring"], unfollowed := true, recurses := true, apart := false }
def FnCurvesSaid : Prop := fnCurvesRow.holds Try.pinned (OpenSpec.ofChange fnCurvesSpec)

/-- ITS FALSE NEIGHBOUR: 'it returns false'. Refute it at one input. -/
def fnCurvesWrong : ChangeSpec := { name := "fnCurves", fn := fun _ => fun
  | [d] => { results := [.lit (.bool false)], args := [d] }
  | _ => none }
def FnCurvesWrongFalsely : Prop := fnCurvesRow.holds Try.pinned (OpenSpec.ofChange fnCurvesWrong)

/-- 'laws.FnExactValidCurve': WHATEVER THE INPUT: true; the input reads as it did. -/
def fnExactValidCurveSpec : ChangeSpec := { name := "fnExactValidCurve", fn := fun _ => fun
  | [d] => { results := [.lit (.bool true)], args := [d] }
  | _ => none }
def fnExactValidCurveRow : OpenClaim := { program := "ytiogffjhhhpolaa", sum := "f9ed7b4f716843a2b6a9d99d3085ac0b041116f960319e483718883a616abf22", func := "loop.example/g01026/laws.FnExactValidCurve", spec := "fnExactValidCurve", unfollowed := true, recurses := true, apart := false }
def FnExactValidCurveSaid : Prop := fnExactValidCurveRow.holds Try.pinned (OpenSpec.ofChange fnExactValidCurveSpec)

/-- ITS FALSE NEIGHBOUR: 'it returns false'. Refute it at one input. -/
def fnExactValidCurveWrong : ChangeSpec := { name := "fnExactValidCurve", fn := fun _ => fun
  | [d] => { results := [.lit (.bool false)], args := [d] }
  | _ => none }
def FnExactValidCurveWrongFalsely : Prop := fnExactValidCurveRow.holds Try.pinned (OpenSpec.ofChange fnExactValidCurveWrong)

/-- 'laws.FnExactSameCurve': WHATEVER THE INPUT: true; the input reads as it did. -/
def fnExactSameCurveSpec : ChangeSpec := { name := "fnExactSameCurve", fn := fun _ => fun
  | [d1, d2] => { results := [.lit (.bool true)], args := [d1, d2] }
  | _ => none }
def fnExactSameCurveRow : OpenClaim := { program := "ytiogffjhhhpolaa", sum := "f9ed7b4f716843a2b6a9d99d3085ac0b041116f960319e483718883a616abf22", func := "loop.example/g01026/laws.FnExactSameCurve", spec := "fnExactSameCurve", apart := false }
def FnExactSameCurveSaid : Prop := fnExactSameCurveRow.holds Try.pinned (OpenSpec.ofChange fnExactSameCurveSpec)

/-- ITS FALSE NEIGHBOUR: 'it returns false'. Refute it at one input. -/
def fnExactSameCurveWrong : ChangeSpec := { name := "fnExactSameCurve", fn := fun _ => fun
  | [d1, d2] => { results := [.lit (.bool false)], args := [d1, d2] }
  | _ => none }
def FnExactSameCurveWrongFalsely : Prop := fnExactSameCurveRow.holds Try.pinned (OpenSpec.ofChange fnExactSameCurveWrong)

/-- 'laws.FnExactCurveOf': WHATEVER THE INPUT: true; the input reads as it did. -/
def fnExactCurveOfSpec : ChangeSpec := { name := "fnExactCurveOf", fn := fun _ => fun
  | [d1, d2] => { results := [.lit (.bool true)], args := [d1, d2] }
  | _ => none }
def fnExactCurveOfRow : OpenClaim := { program := "ytiogffjhhhpolaa", sum := "f9ed7b4f716843a2b6a9d99d3085ac0b041116f960319e483718883a616abf22", func := "loop.example/g01026/laws.FnExactCurveOf", spec := "fnExactCurveOf", inPlace := ["internal/bytealg.abigen_runtime_cmpstring"], unfollowed := true, recurses := true, apart := false }
def FnExactCurveOfSaid : Prop := fnExactCurveOfRow.holds Try.pinned (OpenSpec.ofChange fnExactCurveOfSpec)

/-- ITS FALSE NEIGHBOUR: 'it returns false'. Refute it at one input. -/
def fnExactCurveOfWrong : ChangeSpec := { name := "fnExactCurveOf", fn := fun _ => fun
  | [d1, d2] => { results := [.lit (.bool false)], args := [d1, d2] }
  | _ => none }
def FnExactCurveOfWrongFalsely : Prop := fnExactCurveOfRow.holds Try.pinned (OpenSpec.ofChange fnExactCurveOfWrong)

/-- 'laws.FnExactBinCurve': WHATEVER THE INPUT: true; the input reads as it did. -/
def fnExactBinCurveSpec : ChangeSpec := { name := "fnExactBinCurve", fn := fun _ => fun
  | [d1, d2] => { results := [.lit (.bool true)], args := [d1, d2] }
  | _ => none }
def fnExactBinCurveRow : OpenClaim := { program := "ytiogffjhhhpolaa", sum := "f9ed7b4f716843a2b6a9d99d3085ac0b041116f960319e483718883a616abf22", func := "loop.example/g01026/laws.FnExactBinCurve", spec := "fnExactBinCurve", unfollowed := true, recurses := true, apart := false }
def FnExactBinCurveSaid : Prop := fnExactBinCurveRow.holds Try.pinned (OpenSpec.ofChange fnExactBinCurveSpec)

/-- ITS FALSE NEIGHBOUR: 'it returns false'. Refute it at one input. -/
def fnExactBinCurveWrong : ChangeSpec := { name := "fnExactBinCurve", fn := fun _ => fun
  | [d1, d2] => { results := [.lit (.bool false)], args := [d1, d2] }
  | _ => none }
def FnExactBinCurveWrongFalsely : Prop := fnExactBinCurveRow.holds Try.pinned (OpenSpec.ofChange fnExactBinCurveWrong)

/-- 'laws.FnExactSmoothCurve': WHATEVER THE INPUT: true; the input reads as it did. -/
def fnExactSmoothCurveSpec : ChangeSpec := { name := "fnExactSmoothCurve", fn := fun _ => fun
  | [d1, d2] => { results := [.lit (.bool true)], args := [d1, d2] }
  | _ => none }
def fnExactSmoothCurveRow : OpenClaim := { program := "ytiogffjhhhpolaa", sum := "f9ed7b4f716843a2b6a9d99d3085ac0b041116f960319e483718883a616abf22", func := "loop.example/g01026/laws.FnExactSmoothCurve", spec := "fnExactSmoothCurve", inPlace := ["internal/reflectlite.ValueOf", "internal/reflectlite.Swapper", "(internal/reflectlite.Value).Len"], unfollowed := true, recurses := true, apart := false }
def FnExactSmoothCurveSaid : Prop := fnExactSmoothCurveRow.holds Try.pinned (OpenSpec.ofChange fnExactSmoothCurveSpec)

/-- ITS FALSE NEIGHBOUR: 'it returns false'. Refute it at one input. -/
def fnExactSmoothCurveWrong : ChangeSpec := { name := "fnExactSmoothCurve", fn := fun _ => fun
  | [d1, d2] => { results := [.lit (.bool false)], args := [d1, d2] }
  | _ => none }
def FnExactSmoothCurveWrongFalsely : Prop := fnExactSmoothCurveRow.holds Try.pinned (OpenSpec.ofChange fnExactSmoothCurveWrong)

/-- 'laws.FnExactLongestGap': WHATEVER THE INPUT: true; the input reads as it did. -/
def fnExactLongestGapSpec : ChangeSpec := { name := "fnExactLongestGap", fn := fun _ => fun
  | [d] => { results := [.lit (.bool true)], args := [d] }
  | _ => none }
def fnExactLongestGapRow : OpenClaim := { program := "ytiogffjhhhpolaa", sum := "f9ed7b4f716843a2b6a9d99d3085ac0b041116f960319e483718883a616abf22", func := "loop.example/g01026/laws.FnExactLongestGap", spec := "fnExactLongestGap", unfollowed := true, recurses := true, apart := false }
def FnExactLongestGapSaid : Prop := fnExactLongestGapRow.holds Try.pinned (OpenSpec.ofChange fnExactLongestGapSpec)

/-- ITS FALSE NEIGHBOUR: 'it returns false'. Refute it at one input. -/
def fnExactLongestGapWrong : ChangeSpec := { name := "fnExactLongestGap", fn := fun _ => fun
  | [d] => { results := [.lit (.bool false)], args := [d] }
  | _ => none }
def FnExactLongestGapWrongFalsely : Prop := fnExactLongestGapRow.holds Try.pinned (OpenSpec.ofChange fnExactLongestGapWrong)

/-- 'laws.FnExactMagAt': WHATEVER THE INPUT: true; the input reads as it did. -/
def fnExactMagAtSpec : ChangeSpec := { name := "fnExactMagAt", fn := fun _ => fun
  | [d1, d2] => { results := [.lit (.bool true)], args := [d1, d2] }
  | _ => none }
def fnExactMagAtRow : OpenClaim := { program := "ytiogffjhhhpolaa", sum := "f9ed7b4f716843a2b6a9d99d3085ac0b041116f960319e483718883a616abf22", func := "loop.example/g01026/laws.FnExactMagAt", spec := "fnExactMagAt", unfollowed := true, recurses := true, apart := false }
def FnExactMagAtSaid : Prop := fnExactMagAtRow.holds Try.pinned (OpenSpec.ofChange fnExactMagAtSpec)

/-- ITS FALSE NEIGHBOUR: 'it returns false'. Refute it at one input. -/
def fnExactMagAtWrong : ChangeSpec := { name := "fnExactMagAt", fn := fun _ => fun
  | [d1, d2] => { results := [.lit (.bool false)], args := [d1, d2] }
  | _ => none }
def FnExactMagAtWrongFalsely : Prop := fnExactMagAtRow.holds Try.pinned (OpenSpec.ofChange fnExactMagAtWrong)

/-- 'laws.FnExactOutliersOf': WHATEVER THE INPUT: true; the input reads as it did. -/
def fnExactOutliersOfSpec : ChangeSpec := { name := "fnExactOutliersOf", fn := fun _ => fun
  | [d1, d2, d3] => { results := [.lit (.bool true)], args := [d1, d2, d3] }
  | _ => none }
def fnExactOutliersOfRow : OpenClaim := { program := "ytiogffjhhhpolaa", sum := "f9ed7b4f716843a2b6a9d99d3085ac0b041116f960319e483718883a616abf22", func := "loop.example/g01026/laws.FnExactOutliersOf", spec := "fnExactOutliersOf", inPlace := ["internal/reflectlite.ValueOf", "internal/reflectlite.Swapper", "(internal/reflectlite.Value).Len"], unfollowed := true, recurses := true, apart := false }
def FnExactOutliersOfSaid : Prop := fnExactOutliersOfRow.holds Try.pinned (OpenSpec.ofChange fnExactOutliersOfSpec)

/-- ITS FALSE NEIGHBOUR: 'it returns false'. Refute it at one input. -/
def fnExactOutliersOfWrong : ChangeSpec := { name := "fnExactOutliersOf", fn := fun _ => fun
  | [d1, d2, d3] => { results := [.lit (.bool false)], args := [d1, d2, d3] }
  | _ => none }
def FnExactOutliersOfWrongFalsely : Prop := fnExactOutliersOfRow.holds Try.pinned (OpenSpec.ofChange fnExactOutliersOfWrong)

/- THE SECOND FORM. 'bulk': how many values and letters a reading holds, each counted each time it is reached (what is shared counts as often as it is met; a slice's spare places count too). A statement '..UptoSaid' is the law's where the arguments, and the package variables that the reading takes, are together of bulk at most 1048576: NARROWER than '..Said'. Prove '..Said' where nothing that the law and all that it calls make is longer than what came in: it says more and counts as full. Else prove '..UptoSaid'. A law counts once. -/
mutual
def uptoBulk {H : Type} : DataW H → Nat
  | .lit (.string bytes) => bytes.length + 1
  | .lit _ => 1
  | .nil => 1
  | .ptr d => uptoBulk d + 1
  | .slice elems spare => uptoBulkAll elems + uptoBulkAll spare + 1
  | .agg parts => uptoBulkAll parts + 1
  | .iface _ d => uptoBulk d + 1
  | .map entries => uptoBulkEntries entries + 1
  | .held _ => 1
def uptoBulkAll {H : Type} : List (DataW H) → Nat
  | [] => 0
  | d :: r => uptoBulk d + uptoBulkAll r
def uptoBulkEntries {H : Type} : List (Lit × DataW H) → Nat
  | [] => 0
  | x :: r => uptoBulkEntry x + uptoBulkEntries r
def uptoBulkEntry {H : Type} : Lit × DataW H → Nat
  | (.string bytes, d) => bytes.length + uptoBulk d + 1
  | (_, d) => uptoBulk d + 1
 end
def uptoSmall : (H : Type) → List (DataW H) → Bool := fun _ ds => decide (uptoBulkAll ds ≤ 1048576)
def OpenSpec.upto (s : _root_.Go.ChangeSpec) : _root_.Go.OpenSpec := { _root_.Go.OpenSpec.ofChange s with cond := some uptoSmall }

/-- 'laws.FnBinned', WHERE WHAT IT READS IS OF BULK AT MOST 1048576: true; the input reads as it did. -/
def fnBinnedUptoRow : OpenClaim := { program := "ytiogffjhhhpolaa", sum := "f9ed7b4f716843a2b6a9d99d3085ac0b041116f960319e483718883a616abf22", func := "loop.example/g01026/laws.FnBinned", spec := "fnBinned", inPlace := ["internal/reflectlite.ValueOf", "internal/reflectlite.Swapper", "(internal/reflectlite.Value).Len"], unfollowed := true, recurses := true, apart := false, narrowed := true }
def FnBinnedUptoSaid : Prop := fnBinnedUptoRow.holds Try.pinned (OpenSpec.upto fnBinnedSpec)

/-- 'laws.FnBetween', WHERE WHAT IT READS IS OF BULK AT MOST 1048576: true; the input reads as it did. -/
def fnBetweenUptoRow : OpenClaim := { program := "ytiogffjhhhpolaa", sum := "f9ed7b4f716843a2b6a9d99d3085ac0b041116f960319e483718883a616abf22", func := "loop.example/g01026/laws.FnBetween", spec := "fnBetween", unfollowed := true, recurses := true, apart := false, narrowed := true }
def FnBetweenUptoSaid : Prop := fnBetweenUptoRow.holds Try.pinned (OpenSpec.upto fnBetweenSpec)

/-- 'laws.FnSlopes', WHERE WHAT IT READS IS OF BULK AT MOST 1048576: true; the input reads as it did. -/
def fnSlopesUptoRow : OpenClaim := { program := "ytiogffjhhhpolaa", sum := "f9ed7b4f716843a2b6a9d99d3085ac0b041116f960319e483718883a616abf22", func := "loop.example/g01026/laws.FnSlopes", spec := "fnSlopes", unfollowed := true, recurses := true, apart := false, narrowed := true }
def FnSlopesUptoSaid : Prop := fnSlopesUptoRow.holds Try.pinned (OpenSpec.upto fnSlopesSpec)

/-- 'laws.FnCurves', WHERE WHAT IT READS IS OF BULK AT MOST 1048576: true; the input reads as it did. -/
def fnCurvesUptoRow : OpenClaim := { program := "ytiogffjhhhpolaa", sum := "f9ed7b4f716843a2b6a9d99d3085ac0b041116f960319e483718883a616abf22", func := "loop.example/g01026/laws.FnCurves", spec := "fnCurves", inPlace := ["internal/bytealg.abigen_runtime_cmpstring"], unfollowed := true, recurses := true, apart := false, narrowed := true }
def FnCurvesUptoSaid : Prop := fnCurvesUptoRow.holds Try.pinned (OpenSpec.upto fnCurvesSpec)

/-- 'laws.FnExactValidCurve', WHERE WHAT IT READS IS OF BULK AT MOST 1048576: true; the input reads as it did. -/
def fnExactValidCurveUptoRow : OpenClaim := { program := "ytiogffjhhhpolaa", sum := "f9ed7b4f716843a2b6a9d99d3085ac0b041116f960319e483718883a616abf22", func := "loop.example/g01026/laws.FnExactValidCurve", spec := "fnExactValidCurve", unfollowed := true, recurses := true, apart := false, narrowed := true }
def FnExactValidCurveUptoSaid : Prop := fnExactValidCurveUptoRow.holds Try.pinned (OpenSpec.upto fnExactValidCurveSpec)

/-- 'laws.FnExactSameCurve', WHERE WHAT IT READS IS OF BULK AT MOST 1048576: true; the input reads as it did. -/
def fnExactSameCurveUptoRow : OpenClaim := { program := "ytiogffjhhhpolaa", sum := "f9ed7b4f716843a2b6a9d99d3085ac0b041116f960319e483718883a616abf22", func := "loop.example/g01026/laws.FnExactSameCurve", spec := "fnExactSameCurve", apart := false, narrowed := true }
def FnExactSameCurveUptoSaid : Prop := fnExactSameCurveUptoRow.holds Try.pinned (OpenSpec.upto fnExactSameCurveSpec)

/-- 'laws.FnExactCurveOf', WHERE WHAT IT READS IS OF BULK AT MOST 1048576: true; the input reads as it did. -/
def fnExactCurveOfUptoRow : OpenClaim := { program := "ytiogffjhhhpolaa", sum := "f9ed7b4f716843a2b6a9d99d3085ac0b041116f960319e483718883a616abf22", func := "loop.example/g01026/laws.FnExactCurveOf", spec := "fnExactCurveOf", inPlace := ["internal/bytealg.abigen_runtime_cmpstring"], unfollowed := true, recurses := true, apart := false, narrowed := true }
def FnExactCurveOfUptoSaid : Prop := fnExactCurveOfUptoRow.holds Try.pinned (OpenSpec.upto fnExactCurveOfSpec)

/-- 'laws.FnExactBinCurve', WHERE WHAT IT READS IS OF BULK AT MOST 1048576: true; the input reads as it did. -/
def fnExactBinCurveUptoRow : OpenClaim := { program := "ytiogffjhhhpolaa", sum := "f9ed7b4f716843a2b6a9d99d3085ac0b041116f960319e483718883a616abf22", func := "loop.example/g01026/laws.FnExactBinCurve", spec := "fnExactBinCurve", unfollowed := true, recurses := true, apart := false, narrowed := true }
def FnExactBinCurveUptoSaid : Prop := fnExactBinCurveUptoRow.holds Try.pinned (OpenSpec.upto fnExactBinCurveSpec)

/-- 'laws.FnExactSmoothCurve', WHERE WHAT IT READS IS OF BULK AT MOST 1048576: true; the input reads as it did. -/
def fnExactSmoothCurveUptoRow : OpenClaim := { program := "ytiogffjhhhpolaa", sum := "f9ed7b4f716843a2b6a9d99d3085ac0b041116f960319e483718883a616abf22", func := "loop.example/g01026/laws.FnExactSmoothCurve", spec := "fnExactSmoothCurve", inPlace := ["internal/reflectlite.ValueOf", "internal/reflectlite.Swapper", "(internal/reflectlite.Value).Len"], unfollowed := true, recurses := true, apart := false, narrowed := true }
def FnExactSmoothCurveUptoSaid : Prop := fnExactSmoothCurveUptoRow.holds Try.pinned (OpenSpec.upto fnExactSmoothCurveSpec)

/-- 'laws.FnExactLongestGap', WHERE WHAT IT READS IS OF BULK AT MOST 1048576: true; the input reads as it did. -/
def fnExactLongestGapUptoRow : OpenClaim := { program := "ytiogffjhhhpolaa", sum := "f9ed7b4f716843a2b6a9d99d3085ac0b041116f960319e483718883a616abf22", func := "loop.example/g01026/laws.FnExactLongestGap", spec := "fnExactLongestGap", unfollowed := true, recurses := true, apart := false, narrowed := true }
def FnExactLongestGapUptoSaid : Prop := fnExactLongestGapUptoRow.holds Try.pinned (OpenSpec.upto fnExactLongestGapSpec)

/-- 'laws.FnExactMagAt', WHERE WHAT IT READS IS OF BULK AT MOST 1048576: true; the input reads as it did. -/
def fnExactMagAtUptoRow : OpenClaim := { program := "ytiogffjhhhpolaa", sum := "f9ed7b4f716843a2b6a9d99d3085ac0b041116f960319e483718883a616abf22", func := "loop.example/g01026/laws.FnExactMagAt", spec := "fnExactMagAt", unfollowed := true, recurses := true, apart := false, narrowed := true }
def FnExactMagAtUptoSaid : Prop := fnExactMagAtUptoRow.holds Try.pinned (OpenSpec.upto fnExactMagAtSpec)

/-- 'laws.FnExactOutliersOf', WHERE WHAT IT READS IS OF BULK AT MOST 1048576: true; the input reads as it did. -/
def fnExactOutliersOfUptoRow : OpenClaim := { program := "ytiogffjhhhpolaa", sum := "f9ed7b4f716843a2b6a9d99d3085ac0b041116f960319e483718883a616abf22", func := "loop.example/g01026/laws.FnExactOutliersOf", spec := "fnExactOutliersOf", inPlace := ["internal/reflectlite.ValueOf", "internal/reflectlite.Swapper", "(internal/reflectlite.Value).Len"], unfollowed := true, recurses := true, apart := false, narrowed := true }
def FnExactOutliersOfUptoSaid : Prop := fnExactOutliersOfUptoRow.holds Try.pinned (OpenSpec.upto fnExactOutliersOfSpec)

end Rows
end Go.Proofs.Ytiogffjhhhpolaa
