/-
  No cell of these rows narrows 'for every input' (looked for: loops, veiled, ifaces, maps, wideKeys, modest, calm, conditions, laid).
  DERIVED. THE GIVEN ROWS OF THIS SEAT. 3 by the template 'for every input the law returns true; each argument reads behind the call as it read before'; 0 by the template 'total and deterministic' (their statements: YtfnjndbnogeddaaTotals.lean).
  GIVEN WITH THE SEED: the statements are not yours to turn. If you find one false, say at which input.
  Laid BY PROGRAM, IN A SANDBOX (cutbox-rows.mjs): the forced cells as the released guide's own fill.sh prints them over the translation 2f776ea42e7970db… (all of the seat's roots in one cut). By AI agents, Wed Nov 11 2026. No macro, syntax, notation, axiom, sorry.
-/
import Derived.Test.YtfnjndbnogeddaaChecked
import GoSem.Claim
import GoSem.ClaimJoined
import GoSem.ClaimMapViews
import Derived.JoinedTies
import Derived.KernelRfl
namespace Go.Proofs.Ytfnjndbnogeddaa
/- THE CELL 'sum', in the pinned program and in every row, IS THE sha256 OF THE DUMP (.gsa) THAT YtfnjndbnogeddaaProg.lean LOADS. Nothing in Lean hashes anything: it is a label: what it is worth is what the hold of that sum in a sandbox is worth. -/
noncomputable def Try.pinned : Pinned := { name := "ytfnjndbnogeddaa", sum := "2f776ea42e7970dbb212d6c0d3defb08d691eb559b1830b8fd395006b20b995b", checked := Try.checked }
namespace Rows
def none {H : Type} : Left H := { results := [], args := [] }

/-- 'laws.FnExactAddEstimate': WHATEVER THE INPUT: true; the input reads as it did. -/
def fnExactAddEstimateSpec : ChangeSpec := { name := "fnExactAddEstimate", fn := fun _ => fun
  | [d1, d2] => { results := [.lit (.bool true)], args := [d1, d2] }
  | _ => none }
def fnExactAddEstimateRow : OpenClaim := { program := "ytfnjndbnogeddaa", sum := "2f776ea42e7970dbb212d6c0d3defb08d691eb559b1830b8fd395006b20b995b", func := "loop.example/g01026/laws.FnExactAddEstimate", spec := "fnExactAddEstimate", inPlace := ["internal/bytealg.abigen_runtime_cmpstring", "slices.overlaps[loop.example/g01026/impl.Estimate]"], unfollowed := true, recurses := true, apart := false }
def FnExactAddEstimateSaid : Prop := fnExactAddEstimateRow.holds Try.pinned (OpenSpec.ofChange fnExactAddEstimateSpec)

/-- ITS FALSE NEIGHBOUR: 'it returns false'. Refute it at one input. -/
def fnExactAddEstimateWrong : ChangeSpec := { name := "fnExactAddEstimate", fn := fun _ => fun
  | [d1, d2] => { results := [.lit (.bool false)], args := [d1, d2] }
  | _ => none }
def FnExactAddEstimateWrongFalsely : Prop := fnExactAddEstimateRow.holds Try.pinned (OpenSpec.ofChange fnExactAddEstimateWrong)

/-- 'laws.FnExactLinkedTo': WHATEVER THE INPUT: true; the input reads as it did. -/
def fnExactLinkedToSpec : ChangeSpec := { name := "fnExactLinkedTo", fn := fun _ => fun
  | [d1, d2, d3] => { results := [.lit (.bool true)], args := [d1, d2, d3] }
  | _ => none }
def fnExactLinkedToRow : OpenClaim := { program := "ytfnjndbnogeddaa", sum := "2f776ea42e7970dbb212d6c0d3defb08d691eb559b1830b8fd395006b20b995b", func := "loop.example/g01026/laws.FnExactLinkedTo", spec := "fnExactLinkedTo", unfollowed := true, recurses := true, apart := false }
def FnExactLinkedToSaid : Prop := fnExactLinkedToRow.holds Try.pinned (OpenSpec.ofChange fnExactLinkedToSpec)

/-- ITS FALSE NEIGHBOUR: 'it returns false'. Refute it at one input. -/
def fnExactLinkedToWrong : ChangeSpec := { name := "fnExactLinkedTo", fn := fun _ => fun
  | [d1, d2, d3] => { results := [.lit (.bool false)], args := [d1, d2, d3] }
  | _ => none }
def FnExactLinkedToWrongFalsely : Prop := fnExactLinkedToRow.holds Try.pinned (OpenSpec.ofChange fnExactLinkedToWrong)

/-- 'laws.FnExactShiftsFrom': WHATEVER THE INPUT: true; the input reads as it did. -/
def fnExactShiftsFromSpec : ChangeSpec := { name := "fnExactShiftsFrom", fn := fun _ => fun
  | [d1, d2, d3] => { results := [.lit (.bool true)], args := [d1, d2, d3] }
  | _ => none }
def fnExactShiftsFromRow : OpenClaim := { program := "ytfnjndbnogeddaa", sum := "2f776ea42e7970dbb212d6c0d3defb08d691eb559b1830b8fd395006b20b995b", func := "loop.example/g01026/laws.FnExactShiftsFrom", spec := "fnExactShiftsFrom", unfollowed := true, recurses := true, apart := false }
def FnExactShiftsFromSaid : Prop := fnExactShiftsFromRow.holds Try.pinned (OpenSpec.ofChange fnExactShiftsFromSpec)

/-- ITS FALSE NEIGHBOUR: 'it returns false'. Refute it at one input. -/
def fnExactShiftsFromWrong : ChangeSpec := { name := "fnExactShiftsFrom", fn := fun _ => fun
  | [d1, d2, d3] => { results := [.lit (.bool false)], args := [d1, d2, d3] }
  | _ => none }
def FnExactShiftsFromWrongFalsely : Prop := fnExactShiftsFromRow.holds Try.pinned (OpenSpec.ofChange fnExactShiftsFromWrong)

/- THE SECOND FORM. 'bulk': how many values and letters a reading holds, each counted each time it is reached (what is shared counts as often as it is met; a slice's spare places count too). A statement '..UptoSaid' is the law's where the arguments, and the package variables that the reading takes, are together of bulk at most 1048576: NARROWER than '..Said'. Prove '..Said' where nothing that the law and all that it calls make is longer than what came in: it says more and counts as full. Else prove '..UptoSaid'. A law counts once. -/
mutual
def uptoBulk {H : Type} : DataW H → Nat
  | .lit (.string bytes) => bytes.length + 1
  | .lit _ => 1
  | .nil => 1
  | .ptr d => uptoBulk d + 1
  | .slice elems spare => uptoBulkAll elems + uptoBulkAll spare + 1
  | .agg parts => uptoBulkAll parts + 1
  | .iface _ d => uptoBulk d + 1
  | .map entries => uptoBulkEntries entries + 1
  | .held _ => 1
def uptoBulkAll {H : Type} : List (DataW H) → Nat
  | [] => 0
  | d :: r => uptoBulk d + uptoBulkAll r
def uptoBulkEntries {H : Type} : List (Lit × DataW H) → Nat
  | [] => 0
  | x :: r => uptoBulkEntry x + uptoBulkEntries r
def uptoBulkEntry {H : Type} : Lit × DataW H → Nat
  | (.string bytes, d) => bytes.length + uptoBulk d + 1
  | (_, d) => uptoBulk d + 1
 end
def uptoSmall : (H : Type) → List (DataW H) → Bool := fun _ ds => decide (uptoBulkAll ds ≤ 1048576)
def OpenSpec.upto (s : _root_.Go.ChangeSpec) : _root_.Go.OpenSpec := { _root_.Go.OpenSpec.ofChange s with cond := some uptoSmall }

/-- 'laws.FnExactAddEstimate', WHERE WHAT IT READS IS OF BULK AT MOST 1048576: true; the input reads as it did. -/
def fnExactAddEstimateUptoRow : OpenClaim := { program := "ytfnjndbnogeddaa", sum := "2f776ea42e7970dbb212d6c0d3defb08d691eb559b1830b8fd395006b20b995b", func := "loop.example/g01026/laws.FnExactAddEstimate", spec := "fnExactAddEstimate", inPlace := ["internal/bytealg.abigen_runtime_cmpstring", "slices.overlaps[loop.example/g01026/impl.Estimate]"], unfollowed := true, recurses := true, apart := false, narrowed := true }
def FnExactAddEstimateUptoSaid : Prop := fnExactAddEstimateUptoRow.holds Try.pinned (OpenSpec.upto fnExactAddEstimateSpec)

/-- 'laws.FnExactLinkedTo', WHERE WHAT IT READS IS OF BULK AT MOST 1048576: true; the input reads as it did. -/
def fnExactLinkedToUptoRow : OpenClaim := { program := "ytfnjndbnogeddaa", sum := "2f776ea42e7970dbb212d6c0d3defb08d691eb559b1830b8fd395006b20b995b", func := "loop.example/g01026/laws.FnExactLinkedTo", spec := "fnExactLinkedTo", unfollowed := true, recurses := true, apart := false, narrowed := true }
def FnExactLinkedToUptoSaid : Prop := fnExactLinkedToUptoRow.holds Try.pinned (OpenSpec.upto fnExactLinkedToSpec)

/-- 'laws.FnExactShiftsFrom', WHERE WHAT IT READS IS OF BULK AT MOST 1048576: true; the input reads as it did. -/
def fnExactShiftsFromUptoRow : OpenClaim := { program := "ytfnjndbnogeddaa", sum := "2f776ea42e7970dbb212d6c0d3defb08d691eb559b1830b8fd395006b20b995b", func := "loop.example/g01026/laws.FnExactShiftsFrom", spec := "fnExactShiftsFrom", unfollowed := true, recurses := true, apart := false, narrowed := true }
def FnExactShiftsFromUptoSaid : Prop := fnExactShiftsFromUptoRow.holds Try.pinned (OpenSpec.upto fnExactShiftsFromSpec)

end Rows
end Go.Proofs.Ytfnjndbnogeddaa
