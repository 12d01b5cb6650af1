/-
  No cell of these rows narrows 'for every input' (looked for: loops, veiled, ifaces, maps, wideKeys, modest, calm, conditions, laid).
  DERIVED. THE GIVEN ROWS OF THIS SEAT. 10 by the template 'for every input the law returns true; each argument reads behind the call as it read before'; 0 by the template 'total and deterministic' (their statements: YtejkflacpbjkjaaTotals.lean).
  GIVEN WITH THE SEED: the statements are not yours to turn. If you find one false, say at which input.
  Laid BY PROGRAM, IN A SANDBOX (cutbox-rows.mjs): the forced cells as the released guide's own fill.sh prints them over the translation ae99e20c319b588b… (all of the seat's roots in one cut). By AI agents, Wed Nov 11 2026. No macro, syntax, notation, axiom, sorry.
-/
import Derived.Test.YtejkflacpbjkjaaChecked
import GoSem.Claim
import GoSem.ClaimJoined
import GoSem.ClaimMapViews
import Derived.JoinedTies
import Derived.KernelRfl
namespace Go.Proofs.Ytejkflacpbjkjaa
/- THE CELL 'sum', in the pinned program and in every row, IS THE sha256 OF THE DUMP (.gsa) THAT YtejkflacpbjkjaaProg.lean LOADS. Nothing in Lean hashes anything: it is a label: what it is worth is what the hold of that sum in a sandbox is worth. -/
noncomputable def Try.pinned : Pinned := { name := "ytejkflacpbjkjaa", sum := "ae99e20c319b588bb172859d2bf52f449e16230373d3a14c9915fed311986a9a", checked := Try.checked }
namespace Rows
def none {H : Type} : Left H := { results := [], args := [] }

/-- 'laws.FnFolds': WHATEVER THE INPUT: true; the input reads as it did. -/
def fnFoldsSpec : ChangeSpec := { name := "fnFolds", fn := fun _ => fun
  | [d1, d2] => { results := [.lit (.bool true)], args := [d1, d2] }
  | _ => none }
def fnFoldsRow : OpenClaim := { program := "ytejkflacpbjkjaa", sum := "ae99e20c319b588bb172859d2bf52f449e16230373d3a14c9915fed311986a9a", func := "loop.example/g01026/laws.FnFolds", spec := "fnFolds", unfollowed := true, recurses := true, apart := false }
def FnFoldsSaid : Prop := fnFoldsRow.holds Try.pinned (OpenSpec.ofChange fnFoldsSpec)

/-- ITS FALSE NEIGHBOUR: 'it returns false'. Refute it at one input. -/
def fnFoldsWrong : ChangeSpec := { name := "fnFolds", fn := fun _ => fun
  | [d1, d2] => { results := [.lit (.bool false)], args := [d1, d2] }
  | _ => none }
def FnFoldsWrongFalsely : Prop := fnFoldsRow.holds Try.pinned (OpenSpec.ofChange fnFoldsWrong)

/-- 'laws.FnExactValidEphemeris': WHATEVER THE INPUT: true; the input reads as it did. -/
def fnExactValidEphemerisSpec : ChangeSpec := { name := "fnExactValidEphemeris", fn := fun _ => fun
  | [d] => { results := [.lit (.bool true)], args := [d] }
  | _ => none }
def fnExactValidEphemerisRow : OpenClaim := { program := "ytejkflacpbjkjaa", sum := "ae99e20c319b588bb172859d2bf52f449e16230373d3a14c9915fed311986a9a", func := "loop.example/g01026/laws.FnExactValidEphemeris", spec := "fnExactValidEphemeris", apart := false }
def FnExactValidEphemerisSaid : Prop := fnExactValidEphemerisRow.holds Try.pinned (OpenSpec.ofChange fnExactValidEphemerisSpec)

/-- ITS FALSE NEIGHBOUR: 'it returns false'. Refute it at one input. -/
def fnExactValidEphemerisWrong : ChangeSpec := { name := "fnExactValidEphemeris", fn := fun _ => fun
  | [d] => { results := [.lit (.bool false)], args := [d] }
  | _ => none }
def FnExactValidEphemerisWrongFalsely : Prop := fnExactValidEphemerisRow.holds Try.pinned (OpenSpec.ofChange fnExactValidEphemerisWrong)

/-- 'laws.FnExactCycleOf': WHATEVER THE INPUT: true; the input reads as it did. -/
def fnExactCycleOfSpec : ChangeSpec := { name := "fnExactCycleOf", fn := fun _ => fun
  | [d1, d2] => { results := [.lit (.bool true)], args := [d1, d2] }
  | _ => none }
def fnExactCycleOfRow : OpenClaim := { program := "ytejkflacpbjkjaa", sum := "ae99e20c319b588bb172859d2bf52f449e16230373d3a14c9915fed311986a9a", func := "loop.example/g01026/laws.FnExactCycleOf", spec := "fnExactCycleOf", apart := false }
def FnExactCycleOfSaid : Prop := fnExactCycleOfRow.holds Try.pinned (OpenSpec.ofChange fnExactCycleOfSpec)

/-- ITS FALSE NEIGHBOUR: 'it returns false'. Refute it at one input. -/
def fnExactCycleOfWrong : ChangeSpec := { name := "fnExactCycleOf", fn := fun _ => fun
  | [d1, d2] => { results := [.lit (.bool false)], args := [d1, d2] }
  | _ => none }
def FnExactCycleOfWrongFalsely : Prop := fnExactCycleOfRow.holds Try.pinned (OpenSpec.ofChange fnExactCycleOfWrong)

/-- 'laws.FnExactPhaseOf': WHATEVER THE INPUT: true; the input reads as it did. -/
def fnExactPhaseOfSpec : ChangeSpec := { name := "fnExactPhaseOf", fn := fun _ => fun
  | [d1, d2] => { results := [.lit (.bool true)], args := [d1, d2] }
  | _ => none }
def fnExactPhaseOfRow : OpenClaim := { program := "ytejkflacpbjkjaa", sum := "ae99e20c319b588bb172859d2bf52f449e16230373d3a14c9915fed311986a9a", func := "loop.example/g01026/laws.FnExactPhaseOf", spec := "fnExactPhaseOf", apart := false }
def FnExactPhaseOfSaid : Prop := fnExactPhaseOfRow.holds Try.pinned (OpenSpec.ofChange fnExactPhaseOfSpec)

/-- ITS FALSE NEIGHBOUR: 'it returns false'. Refute it at one input. -/
def fnExactPhaseOfWrong : ChangeSpec := { name := "fnExactPhaseOf", fn := fun _ => fun
  | [d1, d2] => { results := [.lit (.bool false)], args := [d1, d2] }
  | _ => none }
def FnExactPhaseOfWrongFalsely : Prop := fnExactPhaseOfRow.holds Try.pinned (OpenSpec.ofChange fnExactPhaseOfWrong)

/-- 'laws.FnExactNextTime': WHATEVER THE INPUT: true; the input reads as it did. -/
def fnExactNextTimeSpec : ChangeSpec := { name := "fnExactNextTime", fn := fun _ => fun
  | [d1, d2] => { results := [.lit (.bool true)], args := [d1, d2] }
  | _ => none }
def fnExactNextTimeRow : OpenClaim := { program := "ytejkflacpbjkjaa", sum := "ae99e20c319b588bb172859d2bf52f449e16230373d3a14c9915fed311986a9a", func := "loop.example/g01026/laws.FnExactNextTime", spec := "fnExactNextTime", apart := false }
def FnExactNextTimeSaid : Prop := fnExactNextTimeRow.holds Try.pinned (OpenSpec.ofChange fnExactNextTimeSpec)

/-- ITS FALSE NEIGHBOUR: 'it returns false'. Refute it at one input. -/
def fnExactNextTimeWrong : ChangeSpec := { name := "fnExactNextTime", fn := fun _ => fun
  | [d1, d2] => { results := [.lit (.bool false)], args := [d1, d2] }
  | _ => none }
def FnExactNextTimeWrongFalsely : Prop := fnExactNextTimeRow.holds Try.pinned (OpenSpec.ofChange fnExactNextTimeWrong)

/-- 'laws.FnExactTimesIn': WHATEVER THE INPUT: true; the input reads as it did. -/
def fnExactTimesInSpec : ChangeSpec := { name := "fnExactTimesIn", fn := fun _ => fun
  | [d1, d2, d3] => { results := [.lit (.bool true)], args := [d1, d2, d3] }
  | _ => none }
def fnExactTimesInRow : OpenClaim := { program := "ytejkflacpbjkjaa", sum := "ae99e20c319b588bb172859d2bf52f449e16230373d3a14c9915fed311986a9a", func := "loop.example/g01026/laws.FnExactTimesIn", spec := "fnExactTimesIn", apart := false }
def FnExactTimesInSaid : Prop := fnExactTimesInRow.holds Try.pinned (OpenSpec.ofChange fnExactTimesInSpec)

/-- ITS FALSE NEIGHBOUR: 'it returns false'. Refute it at one input. -/
def fnExactTimesInWrong : ChangeSpec := { name := "fnExactTimesIn", fn := fun _ => fun
  | [d1, d2, d3] => { results := [.lit (.bool false)], args := [d1, d2, d3] }
  | _ => none }
def FnExactTimesInWrongFalsely : Prop := fnExactTimesInRow.holds Try.pinned (OpenSpec.ofChange fnExactTimesInWrong)

/-- 'laws.FnExactFoldOrder': WHATEVER THE INPUT: true; the input reads as it did. -/
def fnExactFoldOrderSpec : ChangeSpec := { name := "fnExactFoldOrder", fn := fun _ => fun
  | [d1, d2] => { results := [.lit (.bool true)], args := [d1, d2] }
  | _ => none }
def fnExactFoldOrderRow : OpenClaim := { program := "ytejkflacpbjkjaa", sum := "ae99e20c319b588bb172859d2bf52f449e16230373d3a14c9915fed311986a9a", func := "loop.example/g01026/laws.FnExactFoldOrder", spec := "fnExactFoldOrder", unfollowed := true, recurses := true, apart := false }
def FnExactFoldOrderSaid : Prop := fnExactFoldOrderRow.holds Try.pinned (OpenSpec.ofChange fnExactFoldOrderSpec)

/-- ITS FALSE NEIGHBOUR: 'it returns false'. Refute it at one input. -/
def fnExactFoldOrderWrong : ChangeSpec := { name := "fnExactFoldOrder", fn := fun _ => fun
  | [d1, d2] => { results := [.lit (.bool false)], args := [d1, d2] }
  | _ => none }
def FnExactFoldOrderWrongFalsely : Prop := fnExactFoldOrderRow.holds Try.pinned (OpenSpec.ofChange fnExactFoldOrderWrong)

/-- 'laws.FnExactPhaseCounts': WHATEVER THE INPUT: true; the input reads as it did. -/
def fnExactPhaseCountsSpec : ChangeSpec := { name := "fnExactPhaseCounts", fn := fun _ => fun
  | [d1, d2, d3] => { results := [.lit (.bool true)], args := [d1, d2, d3] }
  | _ => none }
def fnExactPhaseCountsRow : OpenClaim := { program := "ytejkflacpbjkjaa", sum := "ae99e20c319b588bb172859d2bf52f449e16230373d3a14c9915fed311986a9a", func := "loop.example/g01026/laws.FnExactPhaseCounts", spec := "fnExactPhaseCounts", unfollowed := true, recurses := true, apart := false }
def FnExactPhaseCountsSaid : Prop := fnExactPhaseCountsRow.holds Try.pinned (OpenSpec.ofChange fnExactPhaseCountsSpec)

/-- ITS FALSE NEIGHBOUR: 'it returns false'. Refute it at one input. -/
def fnExactPhaseCountsWrong : ChangeSpec := { name := "fnExactPhaseCounts", fn := fun _ => fun
  | [d1, d2, d3] => { results := [.lit (.bool false)], args := [d1, d2, d3] }
  | _ => none }
def FnExactPhaseCountsWrongFalsely : Prop := fnExactPhaseCountsRow.holds Try.pinned (OpenSpec.ofChange fnExactPhaseCountsWrong)

/-- 'laws.FnExactPhaseMeans': WHATEVER THE INPUT: true; the input reads as it did. -/
def fnExactPhaseMeansSpec : ChangeSpec := { name := "fnExactPhaseMeans", fn := fun _ => fun
  | [d1, d2, d3] => { results := [.lit (.bool true)], args := [d1, d2, d3] }
  | _ => none }
def fnExactPhaseMeansRow : OpenClaim := { program := "ytejkflacpbjkjaa", sum := "ae99e20c319b588bb172859d2bf52f449e16230373d3a14c9915fed311986a9a", func := "loop.example/g01026/laws.FnExactPhaseMeans", spec := "fnExactPhaseMeans", unfollowed := true, recurses := true, apart := false }
def FnExactPhaseMeansSaid : Prop := fnExactPhaseMeansRow.holds Try.pinned (OpenSpec.ofChange fnExactPhaseMeansSpec)

/-- ITS FALSE NEIGHBOUR: 'it returns false'. Refute it at one input. -/
def fnExactPhaseMeansWrong : ChangeSpec := { name := "fnExactPhaseMeans", fn := fun _ => fun
  | [d1, d2, d3] => { results := [.lit (.bool false)], args := [d1, d2, d3] }
  | _ => none }
def FnExactPhaseMeansWrongFalsely : Prop := fnExactPhaseMeansRow.holds Try.pinned (OpenSpec.ofChange fnExactPhaseMeansWrong)

/-- 'laws.FnExactAliasOf': WHATEVER THE INPUT: true; the input reads as it did. -/
def fnExactAliasOfSpec : ChangeSpec := { name := "fnExactAliasOf", fn := fun _ => fun
  | [d1, d2] => { results := [.lit (.bool true)], args := [d1, d2] }
  | _ => none }
def fnExactAliasOfRow : OpenClaim := { program := "ytejkflacpbjkjaa", sum := "ae99e20c319b588bb172859d2bf52f449e16230373d3a14c9915fed311986a9a", func := "loop.example/g01026/laws.FnExactAliasOf", spec := "fnExactAliasOf", apart := false }
def FnExactAliasOfSaid : Prop := fnExactAliasOfRow.holds Try.pinned (OpenSpec.ofChange fnExactAliasOfSpec)

/-- ITS FALSE NEIGHBOUR: 'it returns false'. Refute it at one input. -/
def fnExactAliasOfWrong : ChangeSpec := { name := "fnExactAliasOf", fn := fun _ => fun
  | [d1, d2] => { results := [.lit (.bool false)], args := [d1, d2] }
  | _ => none }
def FnExactAliasOfWrongFalsely : Prop := fnExactAliasOfRow.holds Try.pinned (OpenSpec.ofChange fnExactAliasOfWrong)

/- THE SECOND FORM. 'bulk': how many values and letters a reading holds, each counted each time it is reached (what is shared counts as often as it is met; a slice's spare places count too). A statement '..UptoSaid' is the law's where the arguments, and the package variables that the reading takes, are together of bulk at most 1048576: NARROWER than '..Said'. Prove '..Said' where nothing that the law and all that it calls make is longer than what came in: it says more and counts as full. Else prove '..UptoSaid'. A law counts once. -/
mutual
def uptoBulk {H : Type} : DataW H → Nat
  | .lit (.string bytes) => bytes.length + 1
  | .lit _ => 1
  | .nil => 1
  | .ptr d => uptoBulk d + 1
  | .slice elems spare => uptoBulkAll elems + uptoBulkAll spare + 1
  | .agg parts => uptoBulkAll parts + 1
  | .iface _ d => uptoBulk d + 1
  | .map entries => uptoBulkEntries entries + 1
  | .held _ => 1
def uptoBulkAll {H : Type} : List (DataW H) → Nat
  | [] => 0
  | d :: r => uptoBulk d + uptoBulkAll r
def uptoBulkEntries {H : Type} : List (Lit × DataW H) → Nat
  | [] => 0
  | x :: r => uptoBulkEntry x + uptoBulkEntries r
def uptoBulkEntry {H : Type} : Lit × DataW H → Nat
  | (.string bytes, d) => bytes.length + uptoBulk d + 1
  | (_, d) => uptoBulk d + 1
 end
def uptoSmall : (H : Type) → List (DataW H) → Bool := fun _ ds => decide (uptoBulkAll ds ≤ 1048576)
def OpenSpec.upto (s : _root_.Go.ChangeSpec) : _root_.Go.OpenSpec := { _root_.Go.OpenSpec.ofChange s with cond := some uptoSmall }

/-- 'laws.FnFolds', WHERE WHAT IT READS IS OF BULK AT MOST 1048576: true; the input reads as it did. -/
def fnFoldsUptoRow : OpenClaim := { program := "ytejkflacpbjkjaa", sum := "ae99e20c319b588bb172859d2bf52f449e16230373d3a14c9915fed311986a9a", func := "loop.example/g01026/laws.FnFolds", spec := "fnFolds", unfollowed := true, recurses := true, apart := false, narrowed := true }
def FnFoldsUptoSaid : Prop := fnFoldsUptoRow.holds Try.pinned (OpenSpec.upto fnFoldsSpec)

/-- 'laws.FnExactValidEphemeris', WHERE WHAT IT READS IS OF BULK AT MOST 1048576: true; the input reads as it did. -/
def fnExactValidEphemerisUptoRow : OpenClaim := { program := "ytejkflacpbjkjaa", sum := "ae99e20c319b588bb172859d2bf52f449e16230373d3a14c9915fed311986a9a", func := "loop.example/g01026/laws.FnExactValidEphemeris", spec := "fnExactValidEphemeris", apart := false, narrowed := true }
def FnExactValidEphemerisUptoSaid : Prop := fnExactValidEphemerisUptoRow.holds Try.pinned (OpenSpec.upto fnExactValidEphemerisSpec)

/-- 'laws.FnExactCycleOf', WHERE WHAT IT READS IS OF BULK AT MOST 1048576: true; the input reads as it did. -/
def fnExactCycleOfUptoRow : OpenClaim := { program := "ytejkflacpbjkjaa", sum := "ae99e20c319b588bb172859d2bf52f449e16230373d3a14c9915fed311986a9a", func := "loop.example/g01026/laws.FnExactCycleOf", spec := "fnExactCycleOf", apart := false, narrowed := true }
def FnExactCycleOfUptoSaid : Prop := fnExactCycleOfUptoRow.holds Try.pinned (OpenSpec.upto fnExactCycleOfSpec)

/-- 'laws.FnExactPhaseOf', WHERE WHAT IT READS IS OF BULK AT MOST 1048576: true; the input reads as it did. -/
def fnExactPhaseOfUptoRow : OpenClaim := { program := "ytejkflacpbjkjaa", sum := "ae99e20c319b588bb172859d2bf52f449e16230373d3a14c9915fed311986a9a", func := "loop.example/g01026/laws.FnExactPhaseOf", spec := "fnExactPhaseOf", apart := false, narrowed := true }
def FnExactPhaseOfUptoSaid : Prop := fnExactPhaseOfUptoRow.holds Try.pinned (OpenSpec.upto fnExactPhaseOfSpec)

/-- 'laws.FnExactNextTime', WHERE WHAT IT READS IS OF BULK AT MOST 1048576: true; the input reads as it did. -/
def fnExactNextTimeUptoRow : OpenClaim := { program := "ytejkflacpbjkjaa", sum := "ae99e20c319b588bb172859d2bf52f449e16230373d3a14c9915fed311986a9a", func := "loop.example/g01026/laws.FnExactNextTime", spec := "fnExactNextTime", apart := false, narrowed := true }
def FnExactNextTimeUptoSaid : Prop := fnExactNextTimeUptoRow.holds Try.pinned (OpenSpec.upto fnExactNextTimeSpec)

/-- 'laws.FnExactTimesIn', WHERE WHAT IT READS IS OF BULK AT MOST 1048576: true; the input reads as it did. -/
def fnExactTimesInUptoRow : OpenClaim := { program := "ytejkflacpbjkjaa", sum := "ae99e20c319b588bb172859d2bf52f449e16230373d3a14c9915fed311986a9a", func := "loop.example/g01026/laws.FnExactTimesIn", spec := "fnExactTimesIn", apart := false, narrowed := true }
def FnExactTimesInUptoSaid : Prop := fnExactTimesInUptoRow.holds Try.pinned (OpenSpec.upto fnExactTimesInSpec)

/-- 'laws.FnExactFoldOrder', WHERE WHAT IT READS IS OF BULK AT MOST 1048576: true; the input reads as it did. -/
def fnExactFoldOrderUptoRow : OpenClaim := { program := "ytejkflacpbjkjaa", sum := "ae99e20c319b588bb172859d2bf52f449e16230373d3a14c9915fed311986a9a", func := "loop.example/g01026/laws.FnExactFoldOrder", spec := "fnExactFoldOrder", unfollowed := true, recurses := true, apart := false, narrowed := true }
def FnExactFoldOrderUptoSaid : Prop := fnExactFoldOrderUptoRow.holds Try.pinned (OpenSpec.upto fnExactFoldOrderSpec)

/-- 'laws.FnExactPhaseCounts', WHERE WHAT IT READS IS OF BULK AT MOST 1048576: true; the input reads as it did. -/
def fnExactPhaseCountsUptoRow : OpenClaim := { program := "ytejkflacpbjkjaa", sum := "ae99e20c319b588bb172859d2bf52f449e16230373d3a14c9915fed311986a9a", func := "loop.example/g01026/laws.FnExactPhaseCounts", spec := "fnExactPhaseCounts", unfollowed := true, recurses := true, apart := false, narrowed := true }
def FnExactPhaseCountsUptoSaid : Prop := fnExactPhaseCountsUptoRow.holds Try.pinned (OpenSpec.upto fnExactPhaseCountsSpec)

/-- 'laws.FnExactPhaseMeans', WHERE WHAT IT READS IS OF BULK AT MOST 1048576: true; the input reads as it did. -/
def fnExactPhaseMeansUptoRow : OpenClaim := { program := "ytejkflacpbjkjaa", sum := "ae99e20c319b588bb172859d2bf52f449e16230373d3a14c9915fed311986a9a", func := "loop.example/g01026/laws.FnExactPhaseMeans", spec := "fnExactPhaseMeans", unfollowed := true, recurses := true, apart := false, narrowed := true }
def FnExactPhaseMeansUptoSaid : Prop := fnExactPhaseMeansUptoRow.holds Try.pinned (OpenSpec.upto fnExactPhaseMeansSpec)

/-- 'laws.FnExactAliasOf', WHERE WHAT IT READS IS OF BULK AT MOST 1048576: true; the input reads as it did. -/
def fnExactAliasOfUptoRow : OpenClaim := { program := "ytejkflacpbjkjaa", sum := "ae99e20c319b588bb172859d2bf52f449e16230373d3a14c9915fed311986a9a", func := "loop.example/g01026/laws.FnExactAliasOf", spec := "fnExactAliasOf", apart := false, narrowed := true }
def FnExactAliasOfUptoSaid : Prop := fnExactAliasOfUptoRow.holds Try.pinned (OpenSpec.upto fnExactAliasOfSpec)

end Rows
end Go.Proofs.Ytejkflacpbjkjaa
