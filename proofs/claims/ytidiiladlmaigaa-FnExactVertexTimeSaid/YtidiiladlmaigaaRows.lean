/-
  No cell of these rows narrows 'for every input' (looked for: loops, veiled, ifaces, maps, wideKeys, modest, calm, conditions, laid).
  DERIVED. THE GIVEN ROWS OF THIS SEAT. 4 by the template 'for every input the law returns true; each argument reads behind the call as it read before'; 0 by the template 'total and deterministic' (their statements: YtidiiladlmaigaaTotals.lean).
  GIVEN WITH THE SEED: the statements are not yours to turn. If you find one false, say at which input.
  Laid BY PROGRAM, IN A SANDBOX (cutbox-rows.mjs): the forced cells as the released guide's own fill.sh prints them over the translation 79209504e5c6d1eb… (all of the seat's roots in one cut). By AI agents, Wed Nov 11 2026. No macro, syntax, notation, axiom, sorry.
-/
import Derived.Test.YtidiiladlmaigaaChecked
import GoSem.Claim
import GoSem.ClaimJoined
import GoSem.ClaimMapViews
import Derived.JoinedTies
import Derived.KernelRfl
namespace Go.Proofs.Ytidiiladlmaigaa
/- THE CELL 'sum', in the pinned program and in every row, IS THE sha256 OF THE DUMP (.gsa) THAT YtidiiladlmaigaaProg.lean LOADS. Nothing in Lean hashes anything: it is a label: what it is worth is what the hold of that sum in a sandbox is worth. -/
noncomputable def Try.pinned : Pinned := { name := "ytidiiladlmaigaa", sum := "79209504e5c6d1ebfce962a44a829f26514da7d85496842e306daf2d4b41bc64", checked := Try.checked }
namespace Rows
def none {H : Type} : Left H := { results := [], args := [] }

/-- 'laws.FnExactVertexTime': WHATEVER THE INPUT: true; the input reads as it did. -/
def fnExactVertexTimeSpec : ChangeSpec := { name := "fnExactVertexTime", fn := fun _ => fun
  | [d1, d2, d3] => { results := [.lit (.bool true)], args := [d1, d2, d3] }
  | _ => none }
def fnExactVertexTimeRow : OpenClaim := { program := "ytidiiladlmaigaa", sum := "79209504e5c6d1ebfce962a44a829f26514da7d85496842e306daf2d4b41bc64", func := "loop.example/g01026/laws.FnExactVertexTime", spec := "fnExactVertexTime", unfollowed := true, recurses := true, apart := false }
def FnExactVertexTimeSaid : Prop := fnExactVertexTimeRow.holds Try.pinned (OpenSpec.ofChange fnExactVertexTimeSpec)

/-- ITS FALSE NEIGHBOUR: 'it returns false'. Refute it at one input. -/
def fnExactVertexTimeWrong : ChangeSpec := { name := "fnExactVertexTime", fn := fun _ => fun
  | [d1, d2, d3] => { results := [.lit (.bool false)], args := [d1, d2, d3] }
  | _ => none }
def FnExactVertexTimeWrongFalsely : Prop := fnExactVertexTimeRow.holds Try.pinned (OpenSpec.ofChange fnExactVertexTimeWrong)

/-- 'laws.FnExactBinCurve': WHATEVER THE INPUT: true; the input reads as it did. -/
def fnExactBinCurveSpec : ChangeSpec := { name := "fnExactBinCurve", fn := fun _ => fun
  | [d1, d2] => { results := [.lit (.bool true)], args := [d1, d2] }
  | _ => none }
def fnExactBinCurveRow : OpenClaim := { program := "ytidiiladlmaigaa", sum := "79209504e5c6d1ebfce962a44a829f26514da7d85496842e306daf2d4b41bc64", func := "loop.example/g01026/laws.FnExactBinCurve", spec := "fnExactBinCurve", unfollowed := true, recurses := true, apart := false }
def FnExactBinCurveSaid : Prop := fnExactBinCurveRow.holds Try.pinned (OpenSpec.ofChange fnExactBinCurveSpec)

/-- ITS FALSE NEIGHBOUR: 'it returns false'. Refute it at one input. -/
def fnExactBinCurveWrong : ChangeSpec := { name := "fnExactBinCurve", fn := fun _ => fun
  | [d1, d2] => { results := [.lit (.bool false)], args := [d1, d2] }
  | _ => none }
def FnExactBinCurveWrongFalsely : Prop := fnExactBinCurveRow.holds Try.pinned (OpenSpec.ofChange fnExactBinCurveWrong)

/-- 'laws.FnExactPhaseMeans': WHATEVER THE INPUT: true; the input reads as it did. -/
def fnExactPhaseMeansSpec : ChangeSpec := { name := "fnExactPhaseMeans", fn := fun _ => fun
  | [d1, d2, d3] => { results := [.lit (.bool true)], args := [d1, d2, d3] }
  | _ => none }
def fnExactPhaseMeansRow : OpenClaim := { program := "ytidiiladlmaigaa", sum := "79209504e5c6d1ebfce962a44a829f26514da7d85496842e306daf2d4b41bc64", func := "loop.example/g01026/laws.FnExactPhaseMeans", spec := "fnExactPhaseMeans", unfollowed := true, recurses := true, apart := false }
def FnExactPhaseMeansSaid : Prop := fnExactPhaseMeansRow.holds Try.pinned (OpenSpec.ofChange fnExactPhaseMeansSpec)

/-- ITS FALSE NEIGHBOUR: 'it returns false'. Refute it at one input. -/
def fnExactPhaseMeansWrong : ChangeSpec := { name := "fnExactPhaseMeans", fn := fun _ => fun
  | [d1, d2, d3] => { results := [.lit (.bool false)], args := [d1, d2, d3] }
  | _ => none }
def FnExactPhaseMeansWrongFalsely : Prop := fnExactPhaseMeansRow.holds Try.pinned (OpenSpec.ofChange fnExactPhaseMeansWrong)

/-- 'laws.FnFolds': WHATEVER THE INPUT: true; the input reads as it did. -/
def fnFoldsSpec : ChangeSpec := { name := "fnFolds", fn := fun _ => fun
  | [d1, d2] => { results := [.lit (.bool true)], args := [d1, d2] }
  | _ => none }
def fnFoldsRow : OpenClaim := { program := "ytidiiladlmaigaa", sum := "79209504e5c6d1ebfce962a44a829f26514da7d85496842e306daf2d4b41bc64", func := "loop.example/g01026/laws.FnFolds", spec := "fnFolds", unfollowed := true, recurses := true, apart := false }
def FnFoldsSaid : Prop := fnFoldsRow.holds Try.pinned (OpenSpec.ofChange fnFoldsSpec)

/-- ITS FALSE NEIGHBOUR: 'it returns false'. Refute it at one input. -/
def fnFoldsWrong : ChangeSpec := { name := "fnFolds", fn := fun _ => fun
  | [d1, d2] => { results := [.lit (.bool false)], args := [d1, d2] }
  | _ => none }
def FnFoldsWrongFalsely : Prop := fnFoldsRow.holds Try.pinned (OpenSpec.ofChange fnFoldsWrong)

/- THE SECOND FORM. 'bulk': how many values and letters a reading holds, each counted each time it is reached (what is shared counts as often as it is met; a slice's spare places count too). A statement '..UptoSaid' is the law's where the arguments, and the package variables that the reading takes, are together of bulk at most 1048576: NARROWER than '..Said'. Prove '..Said' where nothing that the law and all that it calls make is longer than what came in: it says more and counts as full. Else prove '..UptoSaid'. A law counts once. -/
mutual
def uptoBulk {H : Type} : DataW H → Nat
  | .lit (.string bytes) => bytes.length + 1
  | .lit _ => 1
  | .nil => 1
  | .ptr d => uptoBulk d + 1
  | .slice elems spare => uptoBulkAll elems + uptoBulkAll spare + 1
  | .agg parts => uptoBulkAll parts + 1
  | .iface _ d => uptoBulk d + 1
  | .map entries => uptoBulkEntries entries + 1
  | .held _ => 1
def uptoBulkAll {H : Type} : List (DataW H) → Nat
  | [] => 0
  | d :: r => uptoBulk d + uptoBulkAll r
def uptoBulkEntries {H : Type} : List (Lit × DataW H) → Nat
  | [] => 0
  | x :: r => uptoBulkEntry x + uptoBulkEntries r
def uptoBulkEntry {H : Type} : Lit × DataW H → Nat
  | (.string bytes, d) => bytes.length + uptoBulk d + 1
  | (_, d) => uptoBulk d + 1
 end
def uptoSmall : (H : Type) → List (DataW H) → Bool := fun _ ds => decide (uptoBulkAll ds ≤ 1048576)
def OpenSpec.upto (s : _root_.Go.ChangeSpec) : _root_.Go.OpenSpec := { _root_.Go.OpenSpec.ofChange s with cond := some uptoSmall }

/-- 'laws.FnExactVertexTime', WHERE WHAT IT READS IS OF BULK AT MOST 1048576: true; the input reads as it did. -/
def fnExactVertexTimeUptoRow : OpenClaim := { program := "ytidiiladlmaigaa", sum := "79209504e5c6d1ebfce962a44a829f26514da7d85496842e306daf2d4b41bc64", func := "loop.example/g01026/laws.FnExactVertexTime", spec := "fnExactVertexTime", unfollowed := true, recurses := true, apart := false, narrowed := true }
def FnExactVertexTimeUptoSaid : Prop := fnExactVertexTimeUptoRow.holds Try.pinned (OpenSpec.upto fnExactVertexTimeSpec)

/-- 'laws.FnExactBinCurve', WHERE WHAT IT READS IS OF BULK AT MOST 1048576: true; the input reads as it did. -/
def fnExactBinCurveUptoRow : OpenClaim := { program := "ytidiiladlmaigaa", sum := "79209504e5c6d1ebfce962a44a829f26514da7d85496842e306daf2d4b41bc64", func := "loop.example/g01026/laws.FnExactBinCurve", spec := "fnExactBinCurve", unfollowed := true, recurses := true, apart := false, narrowed := true }
def FnExactBinCurveUptoSaid : Prop := fnExactBinCurveUptoRow.holds Try.pinned (OpenSpec.upto fnExactBinCurveSpec)

/-- 'laws.FnExactPhaseMeans', WHERE WHAT IT READS IS OF BULK AT MOST 1048576: true; the input reads as it did. -/
def fnExactPhaseMeansUptoRow : OpenClaim := { program := "ytidiiladlmaigaa", sum := "79209504e5c6d1ebfce962a44a829f26514da7d85496842e306daf2d4b41bc64", func := "loop.example/g01026/laws.FnExactPhaseMeans", spec := "fnExactPhaseMeans", unfollowed := true, recurses := true, apart := false, narrowed := true }
def FnExactPhaseMeansUptoSaid : Prop := fnExactPhaseMeansUptoRow.holds Try.pinned (OpenSpec.upto fnExactPhaseMeansSpec)

/-- 'laws.FnFolds', WHERE WHAT IT READS IS OF BULK AT MOST 1048576: true; the input reads as it did. -/
def fnFoldsUptoRow : OpenClaim := { program := "ytidiiladlmaigaa", sum := "79209504e5c6d1ebfce962a44a829f26514da7d85496842e306daf2d4b41bc64", func := "loop.example/g01026/laws.FnFolds", spec := "fnFolds", unfollowed := true, recurses := true, apart := false, narrowed := true }
def FnFoldsUptoSaid : Prop := fnFoldsUptoRow.holds Try.pinned (OpenSpec.upto fnFoldsSpec)

end Rows
end Go.Proofs.Ytidiiladlmaigaa
