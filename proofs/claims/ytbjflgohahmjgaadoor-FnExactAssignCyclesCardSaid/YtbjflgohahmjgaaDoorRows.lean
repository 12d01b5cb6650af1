/-
  NARROWER THAN 'FOR EVERY INPUT', by the rows' own cells (each row's printed sentence says how): FnFits: laid · FnResiduals: laid · FnShifts: laid · FnExactFitMinima: laid · FnExactRoundedFit: laid · FnExactAssignCycles: laid.
  DERIVED. THE GIVEN ROWS OF THIS SEAT. 6 by the template 'for every input the law returns true; each argument reads behind the call as it read before'; 0 by the template 'total and deterministic' (their statements: YtbjflgohahmjgaaDoorTotals.lean).
  GIVEN WITH THE SEED: the statements are not yours to turn. If you find one false, say at which input.
  Laid BY PROGRAM, IN A SANDBOX (cutbox-rows.mjs): the forced cells as the released guide's own fill.sh prints them over the translation 71628d95a8c70ae5… (all of the seat's roots in one cut). By AI agents, Wed Nov 11 2026. No macro, syntax, notation, axiom, sorry.
-/
import Derived.Test.YtbjflgohahmjgaaDoorChecked
import GoSem.Claim
import GoSem.ClaimJoined
import GoSem.ClaimMapViews
import Derived.JoinedTies
import Derived.KernelRfl
namespace Go.Proofs.YtbjflgohahmjgaaDoor
/- THE CELL 'sum', in the pinned program and in every row, IS THE sha256 OF THE DUMP (.gsa) THAT YtbjflgohahmjgaaDoorProg.lean LOADS. Nothing in Lean hashes anything: it is a label: what it is worth is what the hold of that sum in a sandbox is worth. -/
noncomputable def Tryd.pinned : Pinned := { name := "ytbjflgohahmjgaadoor", sum := "71628d95a8c70ae5d7c9ccd2ed83c1927fddf01d37806842361e0d0f33be8581", checked := Tryd.checked }
namespace Rows
def none {H : Type} : Left H := { results := [], args := [] }

/- WHAT THE LISTED PACKAGE-LEVEL VARIABLES READ AS WHEN THE CALL BEGINS. Each datum BY PROGRAM (the guide's laid-datum.mjs) off the statement by which the dump's own 'gosem.cut.vars' lays the variable. In a bare row this is a premise. The card (YtbjflgohahmjgaaDoorCards.lean) ties it to the program's text. -/
def laid_errors_errorType {H : Type} : DataW H := .iface "internal/reflectlite.rtype" (.agg [.ptr (.lit (.string [101, 114, 114, 111, 114]))])

/-- 'laws.FnFits': WHATEVER THE INPUT: true; the input reads as it did. -/
def fnFitsSpec : ChangeSpec := { name := "fnFits", fn := fun _ => fun
  | [d1, d2] => { results := [.lit (.bool true)], args := [d1, d2] }
  | _ => none }
def fnFitsRow : OpenClaim := { program := "ytbjflgohahmjgaadoor", sum := "71628d95a8c70ae5d7c9ccd2ed83c1927fddf01d37806842361e0d0f33be8581", func := "loop.example/g01026/laws.FnFits", spec := "fnFits", inPlace := ["internal/reflectlite.ValueOf", "(internal/reflectlite.Value).Type", "(internal/reflectlite.Value).IsNil", "internal/reflectlite.TypeOf", "(internal/reflectlite.Value).Elem", "(internal/reflectlite.Value).Set"], unfollowed := true, recurses := true, named := ["errors.errorType"], apart := false, laid := [("errors.errorType", laid_errors_errorType)] }
def FnFitsSaid : Prop := fnFitsRow.holds Tryd.pinned (OpenSpec.ofChange fnFitsSpec)

/-- ITS FALSE NEIGHBOUR: 'it returns false'. Refute it at one input. -/
def fnFitsWrong : ChangeSpec := { name := "fnFits", fn := fun _ => fun
  | [d1, d2] => { results := [.lit (.bool false)], args := [d1, d2] }
  | _ => none }
def FnFitsWrongFalsely : Prop := fnFitsRow.holds Tryd.pinned (OpenSpec.ofChange fnFitsWrong)

/-- 'laws.FnResiduals': WHATEVER THE INPUT: true; the input reads as it did. -/
def fnResidualsSpec : ChangeSpec := { name := "fnResiduals", fn := fun _ => fun
  | [d1, d2] => { results := [.lit (.bool true)], args := [d1, d2] }
  | _ => none }
def fnResidualsRow : OpenClaim := { program := "ytbjflgohahmjgaadoor", sum := "71628d95a8c70ae5d7c9ccd2ed83c1927fddf01d37806842361e0d0f33be8581", func := "loop.example/g01026/laws.FnResiduals", spec := "fnResiduals", inPlace := ["internal/reflectlite.ValueOf", "(internal/reflectlite.Value).Type", "(internal/reflectlite.Value).IsNil", "internal/reflectlite.TypeOf", "(internal/reflectlite.Value).Elem", "(internal/reflectlite.Value).Set"], unfollowed := true, recurses := true, named := ["errors.errorType"], apart := false, laid := [("errors.errorType", laid_errors_errorType)] }
def FnResidualsSaid : Prop := fnResidualsRow.holds Tryd.pinned (OpenSpec.ofChange fnResidualsSpec)

/-- ITS FALSE NEIGHBOUR: 'it returns false'. Refute it at one input. -/
def fnResidualsWrong : ChangeSpec := { name := "fnResiduals", fn := fun _ => fun
  | [d1, d2] => { results := [.lit (.bool false)], args := [d1, d2] }
  | _ => none }
def FnResidualsWrongFalsely : Prop := fnResidualsRow.holds Tryd.pinned (OpenSpec.ofChange fnResidualsWrong)

/-- 'laws.FnShifts': WHATEVER THE INPUT: true; the input reads as it did. -/
def fnShiftsSpec : ChangeSpec := { name := "fnShifts", fn := fun _ => fun
  | [d1, d2] => { results := [.lit (.bool true)], args := [d1, d2] }
  | _ => none }
def fnShiftsRow : OpenClaim := { program := "ytbjflgohahmjgaadoor", sum := "71628d95a8c70ae5d7c9ccd2ed83c1927fddf01d37806842361e0d0f33be8581", func := "loop.example/g01026/laws.FnShifts", spec := "fnShifts", inPlace := ["internal/reflectlite.ValueOf", "(internal/reflectlite.Value).Type", "(internal/reflectlite.Value).IsNil", "internal/reflectlite.TypeOf", "(internal/reflectlite.Value).Elem", "(internal/reflectlite.Value).Set"], unfollowed := true, recurses := true, named := ["errors.errorType"], apart := false, laid := [("errors.errorType", laid_errors_errorType)] }
def FnShiftsSaid : Prop := fnShiftsRow.holds Tryd.pinned (OpenSpec.ofChange fnShiftsSpec)

/-- ITS FALSE NEIGHBOUR: 'it returns false'. Refute it at one input. -/
def fnShiftsWrong : ChangeSpec := { name := "fnShifts", fn := fun _ => fun
  | [d1, d2] => { results := [.lit (.bool false)], args := [d1, d2] }
  | _ => none }
def FnShiftsWrongFalsely : Prop := fnShiftsRow.holds Tryd.pinned (OpenSpec.ofChange fnShiftsWrong)

/-- 'laws.FnExactFitMinima': WHATEVER THE INPUT: true; the input reads as it did. -/
def fnExactFitMinimaSpec : ChangeSpec := { name := "fnExactFitMinima", fn := fun _ => fun
  | [d] => { results := [.lit (.bool true)], args := [d] }
  | _ => none }
def fnExactFitMinimaRow : OpenClaim := { program := "ytbjflgohahmjgaadoor", sum := "71628d95a8c70ae5d7c9ccd2ed83c1927fddf01d37806842361e0d0f33be8581", func := "loop.example/g01026/laws.FnExactFitMinima", spec := "fnExactFitMinima", inPlace := ["internal/reflectlite.ValueOf", "(internal/reflectlite.Value).Type", "(internal/reflectlite.Value).IsNil", "internal/reflectlite.TypeOf", "(internal/reflectlite.Value).Elem", "(internal/reflectlite.Value).Set"], unfollowed := true, recurses := true, named := ["errors.errorType"], apart := false, laid := [("errors.errorType", laid_errors_errorType)] }
def FnExactFitMinimaSaid : Prop := fnExactFitMinimaRow.holds Tryd.pinned (OpenSpec.ofChange fnExactFitMinimaSpec)

/-- ITS FALSE NEIGHBOUR: 'it returns false'. Refute it at one input. -/
def fnExactFitMinimaWrong : ChangeSpec := { name := "fnExactFitMinima", fn := fun _ => fun
  | [d] => { results := [.lit (.bool false)], args := [d] }
  | _ => none }
def FnExactFitMinimaWrongFalsely : Prop := fnExactFitMinimaRow.holds Tryd.pinned (OpenSpec.ofChange fnExactFitMinimaWrong)

/-- 'laws.FnExactRoundedFit': WHATEVER THE INPUT: true; the input reads as it did. -/
def fnExactRoundedFitSpec : ChangeSpec := { name := "fnExactRoundedFit", fn := fun _ => fun
  | [d] => { results := [.lit (.bool true)], args := [d] }
  | _ => none }
def fnExactRoundedFitRow : OpenClaim := { program := "ytbjflgohahmjgaadoor", sum := "71628d95a8c70ae5d7c9ccd2ed83c1927fddf01d37806842361e0d0f33be8581", func := "loop.example/g01026/laws.FnExactRoundedFit", spec := "fnExactRoundedFit", inPlace := ["internal/reflectlite.ValueOf", "(internal/reflectlite.Value).Type", "(internal/reflectlite.Value).IsNil", "internal/reflectlite.TypeOf", "(internal/reflectlite.Value).Elem", "(internal/reflectlite.Value).Set"], unfollowed := true, recurses := true, named := ["errors.errorType"], apart := false, laid := [("errors.errorType", laid_errors_errorType)] }
def FnExactRoundedFitSaid : Prop := fnExactRoundedFitRow.holds Tryd.pinned (OpenSpec.ofChange fnExactRoundedFitSpec)

/-- ITS FALSE NEIGHBOUR: 'it returns false'. Refute it at one input. -/
def fnExactRoundedFitWrong : ChangeSpec := { name := "fnExactRoundedFit", fn := fun _ => fun
  | [d] => { results := [.lit (.bool false)], args := [d] }
  | _ => none }
def FnExactRoundedFitWrongFalsely : Prop := fnExactRoundedFitRow.holds Tryd.pinned (OpenSpec.ofChange fnExactRoundedFitWrong)

/-- 'laws.FnExactAssignCycles': WHATEVER THE INPUT: true; the input reads as it did. -/
def fnExactAssignCyclesSpec : ChangeSpec := { name := "fnExactAssignCycles", fn := fun _ => fun
  | [d1, d2, d3] => { results := [.lit (.bool true)], args := [d1, d2, d3] }
  | _ => none }
def fnExactAssignCyclesRow : OpenClaim := { program := "ytbjflgohahmjgaadoor", sum := "71628d95a8c70ae5d7c9ccd2ed83c1927fddf01d37806842361e0d0f33be8581", func := "loop.example/g01026/laws.FnExactAssignCycles", spec := "fnExactAssignCycles", inPlace := ["internal/reflectlite.ValueOf", "(internal/reflectlite.Value).Type", "(internal/reflectlite.Value).IsNil", "internal/reflectlite.TypeOf", "(internal/reflectlite.Value).Elem", "(internal/reflectlite.Value).Set"], unfollowed := true, recurses := true, named := ["errors.errorType"], apart := false, laid := [("errors.errorType", laid_errors_errorType)] }
def FnExactAssignCyclesSaid : Prop := fnExactAssignCyclesRow.holds Tryd.pinned (OpenSpec.ofChange fnExactAssignCyclesSpec)

/-- ITS FALSE NEIGHBOUR: 'it returns false'. Refute it at one input. -/
def fnExactAssignCyclesWrong : ChangeSpec := { name := "fnExactAssignCycles", fn := fun _ => fun
  | [d1, d2, d3] => { results := [.lit (.bool false)], args := [d1, d2, d3] }
  | _ => none }
def FnExactAssignCyclesWrongFalsely : Prop := fnExactAssignCyclesRow.holds Tryd.pinned (OpenSpec.ofChange fnExactAssignCyclesWrong)

/- THE SECOND FORM. 'bulk': how many values and letters a reading holds, each counted each time it is reached (what is shared counts as often as it is met; a slice's spare places count too). A statement '..UptoSaid' is the law's where the arguments, and the package variables that the reading takes, are together of bulk at most 1048576: NARROWER than '..Said'. Prove '..Said' where nothing that the law and all that it calls make is longer than what came in: it says more and counts as full. Else prove '..UptoSaid'. A law counts once. -/
mutual
def uptoBulk {H : Type} : DataW H → Nat
  | .lit (.string bytes) => bytes.length + 1
  | .lit _ => 1
  | .nil => 1
  | .ptr d => uptoBulk d + 1
  | .slice elems spare => uptoBulkAll elems + uptoBulkAll spare + 1
  | .agg parts => uptoBulkAll parts + 1
  | .iface _ d => uptoBulk d + 1
  | .map entries => uptoBulkEntries entries + 1
  | .held _ => 1
def uptoBulkAll {H : Type} : List (DataW H) → Nat
  | [] => 0
  | d :: r => uptoBulk d + uptoBulkAll r
def uptoBulkEntries {H : Type} : List (Lit × DataW H) → Nat
  | [] => 0
  | x :: r => uptoBulkEntry x + uptoBulkEntries r
def uptoBulkEntry {H : Type} : Lit × DataW H → Nat
  | (.string bytes, d) => bytes.length + uptoBulk d + 1
  | (_, d) => uptoBulk d + 1
 end
def uptoSmall : (H : Type) → List (DataW H) → Bool := fun _ ds => decide (uptoBulkAll ds ≤ 1048576)
def OpenSpec.upto (s : _root_.Go.ChangeSpec) : _root_.Go.OpenSpec := { _root_.Go.OpenSpec.ofChange s with cond := some uptoSmall }

/-- 'laws.FnFits', WHERE WHAT IT READS IS OF BULK AT MOST 1048576: true; the input reads as it did. -/
def fnFitsUptoRow : OpenClaim := { program := "ytbjflgohahmjgaadoor", sum := "71628d95a8c70ae5d7c9ccd2ed83c1927fddf01d37806842361e0d0f33be8581", func := "loop.example/g01026/laws.FnFits", spec := "fnFits", inPlace := ["internal/reflectlite.ValueOf", "(internal/reflectlite.Value).Type", "(internal/reflectlite.Value).IsNil", "internal/reflectlite.TypeOf", "(internal/reflectlite.Value).Elem", "(internal/reflectlite.Value).Set"], unfollowed := true, recurses := true, named := ["errors.errorType"], apart := false, laid := [("errors.errorType", laid_errors_errorType)], narrowed := true }
def FnFitsUptoSaid : Prop := fnFitsUptoRow.holds Tryd.pinned (OpenSpec.upto fnFitsSpec)

/-- 'laws.FnResiduals', WHERE WHAT IT READS IS OF BULK AT MOST 1048576: true; the input reads as it did. -/
def fnResidualsUptoRow : OpenClaim := { program := "ytbjflgohahmjgaadoor", sum := "71628d95a8c70ae5d7c9ccd2ed83c1927fddf01d37806842361e0d0f33be8581", func := "loop.example/g01026/laws.FnResiduals", spec := "fnResiduals", inPlace := ["internal/reflectlite.ValueOf", "(internal/reflectlite.Value).Type", "(internal/reflectlite.Value).IsNil", "internal/reflectlite.TypeOf", "(internal/reflectlite.Value).Elem", "(internal/reflectlite.Value).Set"], unfollowed := true, recurses := true, named := ["errors.errorType"], apart := false, laid := [("errors.errorType", laid_errors_errorType)], narrowed := true }
def FnResidualsUptoSaid : Prop := fnResidualsUptoRow.holds Tryd.pinned (OpenSpec.upto fnResidualsSpec)

/-- 'laws.FnShifts', WHERE WHAT IT READS IS OF BULK AT MOST 1048576: true; the input reads as it did. -/
def fnShiftsUptoRow : OpenClaim := { program := "ytbjflgohahmjgaadoor", sum := "71628d95a8c70ae5d7c9ccd2ed83c1927fddf01d37806842361e0d0f33be8581", func := "loop.example/g01026/laws.FnShifts", spec := "fnShifts", inPlace := ["internal/reflectlite.ValueOf", "(internal/reflectlite.Value).Type", "(internal/reflectlite.Value).IsNil", "internal/reflectlite.TypeOf", "(internal/reflectlite.Value).Elem", "(internal/reflectlite.Value).Set"], unfollowed := true, recurses := true, named := ["errors.errorType"], apart := false, laid := [("errors.errorType", laid_errors_errorType)], narrowed := true }
def FnShiftsUptoSaid : Prop := fnShiftsUptoRow.holds Tryd.pinned (OpenSpec.upto fnShiftsSpec)

/-- 'laws.FnExactFitMinima', WHERE WHAT IT READS IS OF BULK AT MOST 1048576: true; the input reads as it did. -/
def fnExactFitMinimaUptoRow : OpenClaim := { program := "ytbjflgohahmjgaadoor", sum := "71628d95a8c70ae5d7c9ccd2ed83c1927fddf01d37806842361e0d0f33be8581", func := "loop.example/g01026/laws.FnExactFitMinima", spec := "fnExactFitMinima", inPlace := ["internal/reflectlite.ValueOf", "(internal/reflectlite.Value).Type", "(internal/reflectlite.Value).IsNil", "internal/reflectlite.TypeOf", "(internal/reflectlite.Value).Elem", "(internal/reflectlite.Value).Set"], unfollowed := true, recurses := true, named := ["errors.errorType"], apart := false, laid := [("errors.errorType", laid_errors_errorType)], narrowed := true }
def FnExactFitMinimaUptoSaid : Prop := fnExactFitMinimaUptoRow.holds Tryd.pinned (OpenSpec.upto fnExactFitMinimaSpec)

/-- 'laws.FnExactRoundedFit', WHERE WHAT IT READS IS OF BULK AT MOST 1048576: true; the input reads as it did. -/
def fnExactRoundedFitUptoRow : OpenClaim := { program := "ytbjflgohahmjgaadoor", sum := "71628d95a8c70ae5d7c9ccd2ed83c1927fddf01d37806842361e0d0f33be8581", func := "loop.example/g01026/laws.FnExactRoundedFit", spec := "fnExactRoundedFit", inPlace := ["internal/reflectlite.ValueOf", "(internal/reflectlite.Value).Type", "(internal/reflectlite.Value).IsNil", "internal/reflectlite.TypeOf", "(internal/reflectlite.Value).Elem", "(internal/reflectlite.Value).Set"], unfollowed := true, recurses := true, named := ["errors.errorType"], apart := false, laid := [("errors.errorType", laid_errors_errorType)], narrowed := true }
def FnExactRoundedFitUptoSaid : Prop := fnExactRoundedFitUptoRow.holds Tryd.pinned (OpenSpec.upto fnExactRoundedFitSpec)

/-- 'laws.FnExactAssignCycles', WHERE WHAT IT READS IS OF BULK AT MOST 1048576: true; the input reads as it did. -/
def fnExactAssignCyclesUptoRow : OpenClaim := { program := "ytbjflgohahmjgaadoor", sum := "71628d95a8c70ae5d7c9ccd2ed83c1927fddf01d37806842361e0d0f33be8581", func := "loop.example/g01026/laws.FnExactAssignCycles", spec := "fnExactAssignCycles", inPlace := ["internal/reflectlite.ValueOf", "(internal/reflectlite.Value).Type", "(internal/reflectlite.Value).IsNil", "internal/reflectlite.TypeOf", "(internal/reflectlite.Value).Elem", "(internal/reflectlite.Value).Set"], unfollowed := true, recurses := true, named := ["errors.errorType"], apart := false, laid := [("errors.errorType", laid_errors_errorType)], narrowed := true }
def FnExactAssignCyclesUptoSaid : Prop := fnExactAssignCyclesUptoRow.holds Tryd.pinned (OpenSpec.upto fnExactAssignCyclesSpec)

end Rows
end Go.Proofs.YtbjflgohahmjgaaDoor
