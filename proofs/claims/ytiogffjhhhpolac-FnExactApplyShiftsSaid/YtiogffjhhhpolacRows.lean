/-
  No cell of these rows narrows 'for every input' (looked for: loops, veiled, ifaces, maps, wideKeys, modest, calm, conditions, laid).
  DERIVED. THE GIVEN ROWS OF THIS SEAT. 2 by the template 'for every input the law returns true; each argument reads behind the call as it read before'; 0 by the template 'total and deterministic' (their statements: YtiogffjhhhpolacTotals.lean).
  GIVEN WITH THE SEED: the statements are not yours to turn. If you find one false, say at which input.
  Laid BY PROGRAM, IN A SANDBOX (cutbox-rows.mjs): the forced cells as the released guide's own fill.sh prints them over the translation eec71ad1c03ffacf… (all of the seat's roots in one cut). By AI agents, Wed Nov 11 2026. No macro, syntax, notation, axiom, sorry.
-/
import Derived.Test.YtiogffjhhhpolacChecked
import GoSem.Claim
import GoSem.ClaimJoined
import GoSem.ClaimMapViews
import Derived.JoinedTies
import Derived.KernelRfl
namespace Go.Proofs.Ytiogffjhhhpolac
/- THE CELL 'sum', in the pinned program and in every row, IS THE sha256 OF THE DUMP (.gsa) THAT YtiogffjhhhpolacProg.lean LOADS. Nothing in Lean hashes anything: it is a label: what it is worth is what the hold of that sum in a sandbox is worth. -/
noncomputable def Try.pinned : Pinned := { name := "ytiogffjhhhpolac", sum := "eec71ad1c03ffacf6415c29ac08bf7ddd6ac85f9cd99900be69850d047003000", checked := Try.checked }
namespace Rows
def none {H : Type} : Left H := { results := [], args := [] }

/-- 'laws.FnExactApplyShifts': WHATEVER THE INPUT: true; the input reads as it did. -/
def fnExactApplyShiftsSpec : ChangeSpec := { name := "fnExactApplyShifts", fn := fun _ => fun
  | [d1, d2] => { results := [.lit (.bool true)], args := [d1, d2] }
  | _ => none }
def fnExactApplyShiftsRow : OpenClaim := { program := "ytiogffjhhhpolac", sum := "eec71ad1c03ffacf6415c29ac08bf7ddd6ac85f9cd99900be69850d047003000", func := "loop.example/g01026/laws.FnExactApplyShifts", spec := "fnExactApplyShifts", inPlace := ["internal/bytealg.abigen_runtime_cmpstring"], unfollowed := true, recurses := true, apart := false }
def FnExactApplyShiftsSaid : Prop := fnExactApplyShiftsRow.holds Try.pinned (OpenSpec.ofChange fnExactApplyShiftsSpec)

/-- ITS FALSE NEIGHBOUR: 'it returns false'. Refute it at one input. -/
def fnExactApplyShiftsWrong : ChangeSpec := { name := "fnExactApplyShifts", fn := fun _ => fun
  | [d1, d2] => { results := [.lit (.bool false)], args := [d1, d2] }
  | _ => none }
def FnExactApplyShiftsWrongFalsely : Prop := fnExactApplyShiftsRow.holds Try.pinned (OpenSpec.ofChange fnExactApplyShiftsWrong)

/-- 'laws.FnExactAddEstimate': WHATEVER THE INPUT: true; the input reads as it did. -/
def fnExactAddEstimateSpec : ChangeSpec := { name := "fnExactAddEstimate", fn := fun _ => fun
  | [d1, d2] => { results := [.lit (.bool true)], args := [d1, d2] }
  | _ => none }
def fnExactAddEstimateRow : OpenClaim := { program := "ytiogffjhhhpolac", sum := "eec71ad1c03ffacf6415c29ac08bf7ddd6ac85f9cd99900be69850d047003000", func := "loop.example/g01026/laws.FnExactAddEstimate", spec := "fnExactAddEstimate", inPlace := ["internal/bytealg.abigen_runtime_cmpstring", "slices.overlaps[loop.example/g01026/impl.Estimate]"], unfollowed := true, recurses := true, apart := false }
def FnExactAddEstimateSaid : Prop := fnExactAddEstimateRow.holds Try.pinned (OpenSpec.ofChange fnExactAddEstimateSpec)

/-- ITS FALSE NEIGHBOUR: 'it returns false'. Refute it at one input. -/
def fnExactAddEstimateWrong : ChangeSpec := { name := "fnExactAddEstimate", fn := fun _ => fun
  | [d1, d2] => { results := [.lit (.bool false)], args := [d1, d2] }
  | _ => none }
def FnExactAddEstimateWrongFalsely : Prop := fnExactAddEstimateRow.holds Try.pinned (OpenSpec.ofChange fnExactAddEstimateWrong)

/- THE SECOND FORM. 'bulk': how many values and letters a reading holds, each counted each time it is reached (what is shared counts as often as it is met; a slice's spare places count too). A statement '..UptoSaid' is the law's where the arguments, and the package variables that the reading takes, are together of bulk at most 1048576: NARROWER than '..Said'. Prove '..Said' where nothing that the law and all that it calls make is longer than what came in: it says more and counts as full. Else prove '..UptoSaid'. A law counts once. -/
mutual
def uptoBulk {H : Type} : DataW H → Nat
  | .lit (.string bytes) => bytes.length + 1
  | .lit _ => 1
  | .nil => 1
  | .ptr d => uptoBulk d + 1
  | .slice elems spare => uptoBulkAll elems + uptoBulkAll spare + 1
  | .agg parts => uptoBulkAll parts + 1
  | .iface _ d => uptoBulk d + 1
  | .map entries => uptoBulkEntries entries + 1
  | .held _ => 1
def uptoBulkAll {H : Type} : List (DataW H) → Nat
  | [] => 0
  | d :: r => uptoBulk d + uptoBulkAll r
def uptoBulkEntries {H : Type} : List (Lit × DataW H) → Nat
  | [] => 0
  | x :: r => uptoBulkEntry x + uptoBulkEntries r
def uptoBulkEntry {H : Type} : Lit × DataW H → Nat
  | (.string bytes, d) => bytes.length + uptoBulk d + 1
  | (_, d) => uptoBulk d + 1
 end
def uptoSmall : (H : Type) → List (DataW H) → Bool := fun _ ds => decide (uptoBulkAll ds ≤ 1048576)
def OpenSpec.upto (s : _root_.Go.ChangeSpec) : _root_.Go.OpenSpec := { _root_.Go.OpenSpec.ofChange s with cond := some uptoSmall }

/-- 'laws.FnExactApplyShifts', WHERE WHAT IT READS IS OF BULK AT MOST 1048576: true; the input reads as it did. -/
def fnExactApplyShiftsUptoRow : OpenClaim := { program := "ytiogffjhhhpolac", sum := "eec71ad1c03ffacf6415c29ac08bf7ddd6ac85f9cd99900be69850d047003000", func := "loop.example/g01026/laws.FnExactApplyShifts", spec := "fnExactApplyShifts", inPlace := ["internal/bytealg.abigen_runtime_cmpstring"], unfollowed := true, recurses := true, apart := false, narrowed := true }
def FnExactApplyShiftsUptoSaid : Prop := fnExactApplyShiftsUptoRow.holds Try.pinned (OpenSpec.upto fnExactApplyShiftsSpec)

/-- 'laws.FnExactAddEstimate', WHERE WHAT IT READS IS OF BULK AT MOST 1048576: true; the input reads as it did. -/
def fnExactAddEstimateUptoRow : OpenClaim := { program := "ytiogffjhhhpolac", sum := "eec71ad1c03ffacf6415c29ac08bf7ddd6ac85f9cd99900be69850d047003000", func := "loop.example/g01026/laws.FnExactAddEstimate", spec := "fnExactAddEstimate", inPlace := ["internal/bytealg.abigen_runtime_cmpstring", "slices.overlaps[loop.example/g01026/impl.Estimate]"], unfollowed := true, recurses := true, apart := false, narrowed := true }
def FnExactAddEstimateUptoSaid : Prop := fnExactAddEstimateUptoRow.holds Try.pinned (OpenSpec.upto fnExactAddEstimateSpec)

end Rows
end Go.Proofs.Ytiogffjhhhpolac
