/-
  No cell of these rows narrows 'for every input' (looked for: loops, veiled, ifaces, maps, wideKeys, modest, calm, conditions, laid).
  DERIVED. THE GIVEN ROWS OF THIS SEAT. 8 by the template 'for every input the law returns true; each argument reads behind the call as it read before'; 0 by the template 'total and deterministic' (their statements: YtfebellnmdfpiaaTotals.lean).
  GIVEN WITH THE SEED: the statements are not yours to turn. If you find one false, say at which input.
  Laid BY PROGRAM, IN A SANDBOX (cutbox-rows.mjs): the forced cells as the released guide's own fill.sh prints them over the translation f119b09e686b9e8b… (all of the seat's roots in one cut). By AI agents, Wed Nov 11 2026. No macro, syntax, notation, axiom, sorry.
-/
import Derived.Test.YtfebellnmdfpiaaChecked
import GoSem.Claim
import GoSem.ClaimJoined
import GoSem.ClaimMapViews
import Derived.JoinedTies
import Derived.KernelRfl
namespace Go.Proofs.Ytfebellnmdfpiaa
/- THE CELL 'sum', in the pinned program and in every row, IS THE sha256 OF THE DUMP (.gsa) THAT YtfebellnmdfpiaaProg.lean LOADS. Nothing in Lean hashes anything: it is a label: what it is worth is what the hold of that sum in a sandbox is worth. -/
noncomputable def Try.pinned : Pinned := { name := "ytfebellnmdfpiaa", sum := "f119b09e686b9e8bd73b97b32d0e33568583b66f57cb9da97139cbc165d83d74", checked := Try.checked }
namespace Rows
def none {H : Type} : Left H := { results := [], args := [] }

/-- 'laws.FnExactValidTime': WHATEVER THE INPUT: true; the input reads as it did. -/
def fnExactValidTimeSpec : ChangeSpec := { name := "fnExactValidTime", fn := fun _ => fun
  | [d] => { results := [.lit (.bool true)], args := [d] }
  | _ => none }
def fnExactValidTimeRow : OpenClaim := { program := "ytfebellnmdfpiaa", sum := "f119b09e686b9e8bd73b97b32d0e33568583b66f57cb9da97139cbc165d83d74", func := "loop.example/g01026/laws.FnExactValidTime", spec := "fnExactValidTime", apart := false }
def FnExactValidTimeSaid : Prop := fnExactValidTimeRow.holds Try.pinned (OpenSpec.ofChange fnExactValidTimeSpec)

/-- ITS FALSE NEIGHBOUR: 'it returns false'. Refute it at one input. -/
def fnExactValidTimeWrong : ChangeSpec := { name := "fnExactValidTime", fn := fun _ => fun
  | [d] => { results := [.lit (.bool false)], args := [d] }
  | _ => none }
def FnExactValidTimeWrongFalsely : Prop := fnExactValidTimeRow.holds Try.pinned (OpenSpec.ofChange fnExactValidTimeWrong)

/-- 'laws.FnExactDayOf': WHATEVER THE INPUT: true; the input reads as it did. -/
def fnExactDayOfSpec : ChangeSpec := { name := "fnExactDayOf", fn := fun _ => fun
  | [d] => { results := [.lit (.bool true)], args := [d] }
  | _ => none }
def fnExactDayOfRow : OpenClaim := { program := "ytfebellnmdfpiaa", sum := "f119b09e686b9e8bd73b97b32d0e33568583b66f57cb9da97139cbc165d83d74", func := "loop.example/g01026/laws.FnExactDayOf", spec := "fnExactDayOf", apart := false }
def FnExactDayOfSaid : Prop := fnExactDayOfRow.holds Try.pinned (OpenSpec.ofChange fnExactDayOfSpec)

/-- ITS FALSE NEIGHBOUR: 'it returns false'. Refute it at one input. -/
def fnExactDayOfWrong : ChangeSpec := { name := "fnExactDayOf", fn := fun _ => fun
  | [d] => { results := [.lit (.bool false)], args := [d] }
  | _ => none }
def FnExactDayOfWrongFalsely : Prop := fnExactDayOfRow.holds Try.pinned (OpenSpec.ofChange fnExactDayOfWrong)

/-- 'laws.FnExactClockOf': WHATEVER THE INPUT: true; the input reads as it did. -/
def fnExactClockOfSpec : ChangeSpec := { name := "fnExactClockOf", fn := fun _ => fun
  | [d] => { results := [.lit (.bool true)], args := [d] }
  | _ => none }
def fnExactClockOfRow : OpenClaim := { program := "ytfebellnmdfpiaa", sum := "f119b09e686b9e8bd73b97b32d0e33568583b66f57cb9da97139cbc165d83d74", func := "loop.example/g01026/laws.FnExactClockOf", spec := "fnExactClockOf", apart := false }
def FnExactClockOfSaid : Prop := fnExactClockOfRow.holds Try.pinned (OpenSpec.ofChange fnExactClockOfSpec)

/-- ITS FALSE NEIGHBOUR: 'it returns false'. Refute it at one input. -/
def fnExactClockOfWrong : ChangeSpec := { name := "fnExactClockOf", fn := fun _ => fun
  | [d] => { results := [.lit (.bool false)], args := [d] }
  | _ => none }
def FnExactClockOfWrongFalsely : Prop := fnExactClockOfRow.holds Try.pinned (OpenSpec.ofChange fnExactClockOfWrong)

/-- 'laws.FnExactTimeOf': WHATEVER THE INPUT: true; the input reads as it did. -/
def fnExactTimeOfSpec : ChangeSpec := { name := "fnExactTimeOf", fn := fun _ => fun
  | [d1, d2, d3] => { results := [.lit (.bool true)], args := [d1, d2, d3] }
  | _ => none }
def fnExactTimeOfRow : OpenClaim := { program := "ytfebellnmdfpiaa", sum := "f119b09e686b9e8bd73b97b32d0e33568583b66f57cb9da97139cbc165d83d74", func := "loop.example/g01026/laws.FnExactTimeOf", spec := "fnExactTimeOf", apart := false }
def FnExactTimeOfSaid : Prop := fnExactTimeOfRow.holds Try.pinned (OpenSpec.ofChange fnExactTimeOfSpec)

/-- ITS FALSE NEIGHBOUR: 'it returns false'. Refute it at one input. -/
def fnExactTimeOfWrong : ChangeSpec := { name := "fnExactTimeOf", fn := fun _ => fun
  | [d1, d2, d3] => { results := [.lit (.bool false)], args := [d1, d2, d3] }
  | _ => none }
def FnExactTimeOfWrongFalsely : Prop := fnExactTimeOfRow.holds Try.pinned (OpenSpec.ofChange fnExactTimeOfWrong)

/-- 'laws.FnExactHoursBetween': WHATEVER THE INPUT: true; the input reads as it did. -/
def fnExactHoursBetweenSpec : ChangeSpec := { name := "fnExactHoursBetween", fn := fun _ => fun
  | [d1, d2] => { results := [.lit (.bool true)], args := [d1, d2] }
  | _ => none }
def fnExactHoursBetweenRow : OpenClaim := { program := "ytfebellnmdfpiaa", sum := "f119b09e686b9e8bd73b97b32d0e33568583b66f57cb9da97139cbc165d83d74", func := "loop.example/g01026/laws.FnExactHoursBetween", spec := "fnExactHoursBetween", apart := false }
def FnExactHoursBetweenSaid : Prop := fnExactHoursBetweenRow.holds Try.pinned (OpenSpec.ofChange fnExactHoursBetweenSpec)

/-- ITS FALSE NEIGHBOUR: 'it returns false'. Refute it at one input. -/
def fnExactHoursBetweenWrong : ChangeSpec := { name := "fnExactHoursBetween", fn := fun _ => fun
  | [d1, d2] => { results := [.lit (.bool false)], args := [d1, d2] }
  | _ => none }
def FnExactHoursBetweenWrongFalsely : Prop := fnExactHoursBetweenRow.holds Try.pinned (OpenSpec.ofChange fnExactHoursBetweenWrong)

/-- 'laws.FnExactWeekdayOf': WHATEVER THE INPUT: true; the input reads as it did. -/
def fnExactWeekdayOfSpec : ChangeSpec := { name := "fnExactWeekdayOf", fn := fun _ => fun
  | [d] => { results := [.lit (.bool true)], args := [d] }
  | _ => none }
def fnExactWeekdayOfRow : OpenClaim := { program := "ytfebellnmdfpiaa", sum := "f119b09e686b9e8bd73b97b32d0e33568583b66f57cb9da97139cbc165d83d74", func := "loop.example/g01026/laws.FnExactWeekdayOf", spec := "fnExactWeekdayOf", apart := false }
def FnExactWeekdayOfSaid : Prop := fnExactWeekdayOfRow.holds Try.pinned (OpenSpec.ofChange fnExactWeekdayOfSpec)

/-- ITS FALSE NEIGHBOUR: 'it returns false'. Refute it at one input. -/
def fnExactWeekdayOfWrong : ChangeSpec := { name := "fnExactWeekdayOf", fn := fun _ => fun
  | [d] => { results := [.lit (.bool false)], args := [d] }
  | _ => none }
def FnExactWeekdayOfWrongFalsely : Prop := fnExactWeekdayOfRow.holds Try.pinned (OpenSpec.ofChange fnExactWeekdayOfWrong)

/-- 'laws.FnExactSplitWords': WHATEVER THE INPUT: true; the input reads as it did. -/
def fnExactSplitWordsSpec : ChangeSpec := { name := "fnExactSplitWords", fn := fun _ => fun
  | [d] => { results := [.lit (.bool true)], args := [d] }
  | _ => none }
def fnExactSplitWordsRow : OpenClaim := { program := "ytfebellnmdfpiaa", sum := "f119b09e686b9e8bd73b97b32d0e33568583b66f57cb9da97139cbc165d83d74", func := "loop.example/g01026/laws.FnExactSplitWords", spec := "fnExactSplitWords", unfollowed := true, recurses := true, apart := false }
def FnExactSplitWordsSaid : Prop := fnExactSplitWordsRow.holds Try.pinned (OpenSpec.ofChange fnExactSplitWordsSpec)

/-- ITS FALSE NEIGHBOUR: 'it returns false'. Refute it at one input. -/
def fnExactSplitWordsWrong : ChangeSpec := { name := "fnExactSplitWords", fn := fun _ => fun
  | [d] => { results := [.lit (.bool false)], args := [d] }
  | _ => none }
def FnExactSplitWordsWrongFalsely : Prop := fnExactSplitWordsRow.holds Try.pinned (OpenSpec.ofChange fnExactSplitWordsWrong)

/-- 'laws.FnExactMedianMag': WHATEVER THE INPUT: true; the input reads as it did. -/
def fnExactMedianMagSpec : ChangeSpec := { name := "fnExactMedianMag", fn := fun _ => fun
  | [d] => { results := [.lit (.bool true)], args := [d] }
  | _ => none }
def fnExactMedianMagRow : OpenClaim := { program := "ytfebellnmdfpiaa", sum := "f119b09e686b9e8bd73b97b32d0e33568583b66f57cb9da97139cbc165d83d74", func := "loop.example/g01026/laws.FnExactMedianMag", spec := "fnExactMedianMag", inPlace := ["internal/reflectlite.ValueOf", "internal/reflectlite.Swapper", "(internal/reflectlite.Value).Len"], unfollowed := true, recurses := true, apart := false }
def FnExactMedianMagSaid : Prop := fnExactMedianMagRow.holds Try.pinned (OpenSpec.ofChange fnExactMedianMagSpec)

/-- ITS FALSE NEIGHBOUR: 'it returns false'. Refute it at one input. -/
def fnExactMedianMagWrong : ChangeSpec := { name := "fnExactMedianMag", fn := fun _ => fun
  | [d] => { results := [.lit (.bool false)], args := [d] }
  | _ => none }
def FnExactMedianMagWrongFalsely : Prop := fnExactMedianMagRow.holds Try.pinned (OpenSpec.ofChange fnExactMedianMagWrong)

/- THE SECOND FORM. 'bulk': how many values and letters a reading holds, each counted each time it is reached (what is shared counts as often as it is met; a slice's spare places count too). A statement '..UptoSaid' is the law's where the arguments, and the package variables that the reading takes, are together of bulk at most 1048576: NARROWER than '..Said'. Prove '..Said' where nothing that the law and all that it calls make is longer than what came in: it says more and counts as full. Else prove '..UptoSaid'. A law counts once. -/
mutual
def uptoBulk {H : Type} : DataW H → Nat
  | .lit (.string bytes) => bytes.length + 1
  | .lit _ => 1
  | .nil => 1
  | .ptr d => uptoBulk d + 1
  | .slice elems spare => uptoBulkAll elems + uptoBulkAll spare + 1
  | .agg parts => uptoBulkAll parts + 1
  | .iface _ d => uptoBulk d + 1
  | .map entries => uptoBulkEntries entries + 1
  | .held _ => 1
def uptoBulkAll {H : Type} : List (DataW H) → Nat
  | [] => 0
  | d :: r => uptoBulk d + uptoBulkAll r
def uptoBulkEntries {H : Type} : List (Lit × DataW H) → Nat
  | [] => 0
  | x :: r => uptoBulkEntry x + uptoBulkEntries r
def uptoBulkEntry {H : Type} : Lit × DataW H → Nat
  | (.string bytes, d) => bytes.length + uptoBulk d + 1
  | (_, d) => uptoBulk d + 1
 end
def uptoSmall : (H : Type) → List (DataW H) → Bool := fun _ ds => decide (uptoBulkAll ds ≤ 1048576)
def OpenSpec.upto (s : _root_.Go.ChangeSpec) : _root_.Go.OpenSpec := { _root_.Go.OpenSpec.ofChange s with cond := some uptoSmall }

/-- 'laws.FnExactValidTime', WHERE WHAT IT READS IS OF BULK AT MOST 1048576: true; the input reads as it did. -/
def fnExactValidTimeUptoRow : OpenClaim := { program := "ytfebellnmdfpiaa", sum := "f119b09e686b9e8bd73b97b32d0e33568583b66f57cb9da97139cbc165d83d74", func := "loop.example/g01026/laws.FnExactValidTime", spec := "fnExactValidTime", apart := false, narrowed := true }
def FnExactValidTimeUptoSaid : Prop := fnExactValidTimeUptoRow.holds Try.pinned (OpenSpec.upto fnExactValidTimeSpec)

/-- 'laws.FnExactDayOf', WHERE WHAT IT READS IS OF BULK AT MOST 1048576: true; the input reads as it did. -/
def fnExactDayOfUptoRow : OpenClaim := { program := "ytfebellnmdfpiaa", sum := "f119b09e686b9e8bd73b97b32d0e33568583b66f57cb9da97139cbc165d83d74", func := "loop.example/g01026/laws.FnExactDayOf", spec := "fnExactDayOf", apart := false, narrowed := true }
def FnExactDayOfUptoSaid : Prop := fnExactDayOfUptoRow.holds Try.pinned (OpenSpec.upto fnExactDayOfSpec)

/-- 'laws.FnExactClockOf', WHERE WHAT IT READS IS OF BULK AT MOST 1048576: true; the input reads as it did. -/
def fnExactClockOfUptoRow : OpenClaim := { program := "ytfebellnmdfpiaa", sum := "f119b09e686b9e8bd73b97b32d0e33568583b66f57cb9da97139cbc165d83d74", func := "loop.example/g01026/laws.FnExactClockOf", spec := "fnExactClockOf", apart := false, narrowed := true }
def FnExactClockOfUptoSaid : Prop := fnExactClockOfUptoRow.holds Try.pinned (OpenSpec.upto fnExactClockOfSpec)

/-- 'laws.FnExactTimeOf', WHERE WHAT IT READS IS OF BULK AT MOST 1048576: true; the input reads as it did. -/
def fnExactTimeOfUptoRow : OpenClaim := { program := "ytfebellnmdfpiaa", sum := "f119b09e686b9e8bd73b97b32d0e33568583b66f57cb9da97139cbc165d83d74", func := "loop.example/g01026/laws.FnExactTimeOf", spec := "fnExactTimeOf", apart := false, narrowed := true }
def FnExactTimeOfUptoSaid : Prop := fnExactTimeOfUptoRow.holds Try.pinned (OpenSpec.upto fnExactTimeOfSpec)

/-- 'laws.FnExactHoursBetween', WHERE WHAT IT READS IS OF BULK AT MOST 1048576: true; the input reads as it did. -/
def fnExactHoursBetweenUptoRow : OpenClaim := { program := "ytfebellnmdfpiaa", sum := "f119b09e686b9e8bd73b97b32d0e33568583b66f57cb9da97139cbc165d83d74", func := "loop.example/g01026/laws.FnExactHoursBetween", spec := "fnExactHoursBetween", apart := false, narrowed := true }
def FnExactHoursBetweenUptoSaid : Prop := fnExactHoursBetweenUptoRow.holds Try.pinned (OpenSpec.upto fnExactHoursBetweenSpec)

/-- 'laws.FnExactWeekdayOf', WHERE WHAT IT READS IS OF BULK AT MOST 1048576: true; the input reads as it did. -/
def fnExactWeekdayOfUptoRow : OpenClaim := { program := "ytfebellnmdfpiaa", sum := "f119b09e686b9e8bd73b97b32d0e33568583b66f57cb9da97139cbc165d83d74", func := "loop.example/g01026/laws.FnExactWeekdayOf", spec := "fnExactWeekdayOf", apart := false, narrowed := true }
def FnExactWeekdayOfUptoSaid : Prop := fnExactWeekdayOfUptoRow.holds Try.pinned (OpenSpec.upto fnExactWeekdayOfSpec)

/-- 'laws.FnExactSplitWords', WHERE WHAT IT READS IS OF BULK AT MOST 1048576: true; the input reads as it did. -/
def fnExactSplitWordsUptoRow : OpenClaim := { program := "ytfebellnmdfpiaa", sum := "f119b09e686b9e8bd73b97b32d0e33568583b66f57cb9da97139cbc165d83d74", func := "loop.example/g01026/laws.FnExactSplitWords", spec := "fnExactSplitWords", unfollowed := true, recurses := true, apart := false, narrowed := true }
def FnExactSplitWordsUptoSaid : Prop := fnExactSplitWordsUptoRow.holds Try.pinned (OpenSpec.upto fnExactSplitWordsSpec)

/-- 'laws.FnExactMedianMag', WHERE WHAT IT READS IS OF BULK AT MOST 1048576: true; the input reads as it did. -/
def fnExactMedianMagUptoRow : OpenClaim := { program := "ytfebellnmdfpiaa", sum := "f119b09e686b9e8bd73b97b32d0e33568583b66f57cb9da97139cbc165d83d74", func := "loop.example/g01026/laws.FnExactMedianMag", spec := "fnExactMedianMag", inPlace := ["internal/reflectlite.ValueOf", "internal/reflectlite.Swapper", "(internal/reflectlite.Value).Len"], unfollowed := true, recurses := true, apart := false, narrowed := true }
def FnExactMedianMagUptoSaid : Prop := fnExactMedianMagUptoRow.holds Try.pinned (OpenSpec.upto fnExactMedianMagSpec)

end Rows
end Go.Proofs.Ytfebellnmdfpiaa
