/-
  No cell of these rows narrows 'for every input' (looked for: loops, veiled, ifaces, maps, wideKeys, modest, calm, conditions, laid).
  DERIVED. THE GIVEN ROWS OF THIS SEAT. 10 by the template 'for every input the law returns true; each argument reads behind the call as it read before'; 0 by the template 'total and deterministic' (their statements: YtcjipmpccmppiabTotals.lean).
  GIVEN WITH THE SEED: the statements are not yours to turn. If you find one false, say at which input.
  Laid BY PROGRAM, IN A SANDBOX (cutbox-rows.mjs): the forced cells as the released guide's own fill.sh prints them over the translation 54727fc12eb8143d… (all of the seat's roots in one cut). By AI agents, Wed Nov 11 2026. No macro, syntax, notation, axiom, sorry.
-/
import Derived.Test.YtcjipmpccmppiabChecked
import GoSem.Claim
import GoSem.ClaimJoined
import GoSem.ClaimMapViews
import Derived.JoinedTies
import Derived.KernelRfl
namespace Go.Proofs.Ytcjipmpccmppiab
/- THE CELL 'sum', in the pinned program and in every row, IS THE sha256 OF THE DUMP (.gsa) THAT YtcjipmpccmppiabProg.lean LOADS. Nothing in Lean hashes anything: it is a label: what it is worth is what the hold of that sum in a sandbox is worth. -/
noncomputable def Try.pinned : Pinned := { name := "ytcjipmpccmppiab", sum := "54727fc12eb8143ddb484ce2e7642bfdf03183722c84745ecc1b5a689493cd17", checked := Try.checked }
namespace Rows
def none {H : Type} : Left H := { results := [], args := [] }

/-- 'laws.FnExactBestByBins': WHATEVER THE INPUT: true; the input reads as it did. -/
def fnExactBestByBinsSpec : ChangeSpec := { name := "fnExactBestByBins", fn := fun _ => fun
  | [d1, d2, d3] => { results := [.lit (.bool true)], args := [d1, d2, d3] }
  | _ => none }
def fnExactBestByBinsRow : OpenClaim := { program := "ytcjipmpccmppiab", sum := "54727fc12eb8143ddb484ce2e7642bfdf03183722c84745ecc1b5a689493cd17", func := "loop.example/g01026/laws.FnExactBestByBins", spec := "fnExactBestByBins", unfollowed := true, recurses := true, apart := false }
def FnExactBestByBinsSaid : Prop := fnExactBestByBinsRow.holds Try.pinned (OpenSpec.ofChange fnExactBestByBinsSpec)

/-- ITS FALSE NEIGHBOUR: 'it returns false'. Refute it at one input. -/
def fnExactBestByBinsWrong : ChangeSpec := { name := "fnExactBestByBins", fn := fun _ => fun
  | [d1, d2, d3] => { results := [.lit (.bool false)], args := [d1, d2, d3] }
  | _ => none }
def FnExactBestByBinsWrongFalsely : Prop := fnExactBestByBinsRow.holds Try.pinned (OpenSpec.ofChange fnExactBestByBinsWrong)

/-- 'laws.FnExactVertexTime': WHATEVER THE INPUT: true; the input reads as it did. -/
def fnExactVertexTimeSpec : ChangeSpec := { name := "fnExactVertexTime", fn := fun _ => fun
  | [d1, d2, d3] => { results := [.lit (.bool true)], args := [d1, d2, d3] }
  | _ => none }
def fnExactVertexTimeRow : OpenClaim := { program := "ytcjipmpccmppiab", sum := "54727fc12eb8143ddb484ce2e7642bfdf03183722c84745ecc1b5a689493cd17", func := "loop.example/g01026/laws.FnExactVertexTime", spec := "fnExactVertexTime", unfollowed := true, recurses := true, apart := false }
def FnExactVertexTimeSaid : Prop := fnExactVertexTimeRow.holds Try.pinned (OpenSpec.ofChange fnExactVertexTimeSpec)

/-- ITS FALSE NEIGHBOUR: 'it returns false'. Refute it at one input. -/
def fnExactVertexTimeWrong : ChangeSpec := { name := "fnExactVertexTime", fn := fun _ => fun
  | [d1, d2, d3] => { results := [.lit (.bool false)], args := [d1, d2, d3] }
  | _ => none }
def FnExactVertexTimeWrongFalsely : Prop := fnExactVertexTimeRow.holds Try.pinned (OpenSpec.ofChange fnExactVertexTimeWrong)

/-- 'laws.FnExactVertexMag': WHATEVER THE INPUT: true; the input reads as it did. -/
def fnExactVertexMagSpec : ChangeSpec := { name := "fnExactVertexMag", fn := fun _ => fun
  | [d1, d2, d3] => { results := [.lit (.bool true)], args := [d1, d2, d3] }
  | _ => none }
def fnExactVertexMagRow : OpenClaim := { program := "ytcjipmpccmppiab", sum := "54727fc12eb8143ddb484ce2e7642bfdf03183722c84745ecc1b5a689493cd17", func := "loop.example/g01026/laws.FnExactVertexMag", spec := "fnExactVertexMag", unfollowed := true, recurses := true, named := ["math/bits.divideError", "math/bits.overflowError"], apart := false }
def FnExactVertexMagSaid : Prop := fnExactVertexMagRow.holds Try.pinned (OpenSpec.ofChange fnExactVertexMagSpec)

/-- ITS FALSE NEIGHBOUR: 'it returns false'. Refute it at one input. -/
def fnExactVertexMagWrong : ChangeSpec := { name := "fnExactVertexMag", fn := fun _ => fun
  | [d1, d2, d3] => { results := [.lit (.bool false)], args := [d1, d2, d3] }
  | _ => none }
def FnExactVertexMagWrongFalsely : Prop := fnExactVertexMagRow.holds Try.pinned (OpenSpec.ofChange fnExactVertexMagWrong)

/-- 'laws.FnExactExtremaOf': WHATEVER THE INPUT: true; the input reads as it did. -/
def fnExactExtremaOfSpec : ChangeSpec := { name := "fnExactExtremaOf", fn := fun _ => fun
  | [d1, d2] => { results := [.lit (.bool true)], args := [d1, d2] }
  | _ => none }
def fnExactExtremaOfRow : OpenClaim := { program := "ytcjipmpccmppiab", sum := "54727fc12eb8143ddb484ce2e7642bfdf03183722c84745ecc1b5a689493cd17", func := "loop.example/g01026/laws.FnExactExtremaOf", spec := "fnExactExtremaOf", unfollowed := true, recurses := true, apart := false }
def FnExactExtremaOfSaid : Prop := fnExactExtremaOfRow.holds Try.pinned (OpenSpec.ofChange fnExactExtremaOfSpec)

/-- ITS FALSE NEIGHBOUR: 'it returns false'. Refute it at one input. -/
def fnExactExtremaOfWrong : ChangeSpec := { name := "fnExactExtremaOf", fn := fun _ => fun
  | [d1, d2] => { results := [.lit (.bool false)], args := [d1, d2] }
  | _ => none }
def FnExactExtremaOfWrongFalsely : Prop := fnExactExtremaOfRow.holds Try.pinned (OpenSpec.ofChange fnExactExtremaOfWrong)

/-- 'laws.FnExactDeepEnough': WHATEVER THE INPUT: true; the input reads as it did. -/
def fnExactDeepEnoughSpec : ChangeSpec := { name := "fnExactDeepEnough", fn := fun _ => fun
  | [d1, d2, d3] => { results := [.lit (.bool true)], args := [d1, d2, d3] }
  | _ => none }
def fnExactDeepEnoughRow : OpenClaim := { program := "ytcjipmpccmppiab", sum := "54727fc12eb8143ddb484ce2e7642bfdf03183722c84745ecc1b5a689493cd17", func := "loop.example/g01026/laws.FnExactDeepEnough", spec := "fnExactDeepEnough", unfollowed := true, recurses := true, apart := false }
def FnExactDeepEnoughSaid : Prop := fnExactDeepEnoughRow.holds Try.pinned (OpenSpec.ofChange fnExactDeepEnoughSpec)

/-- ITS FALSE NEIGHBOUR: 'it returns false'. Refute it at one input. -/
def fnExactDeepEnoughWrong : ChangeSpec := { name := "fnExactDeepEnough", fn := fun _ => fun
  | [d1, d2, d3] => { results := [.lit (.bool false)], args := [d1, d2, d3] }
  | _ => none }
def FnExactDeepEnoughWrongFalsely : Prop := fnExactDeepEnoughRow.holds Try.pinned (OpenSpec.ofChange fnExactDeepEnoughWrong)

/-- 'laws.FnExactCrossingsOf': WHATEVER THE INPUT: true; the input reads as it did. -/
def fnExactCrossingsOfSpec : ChangeSpec := { name := "fnExactCrossingsOf", fn := fun _ => fun
  | [d1, d2] => { results := [.lit (.bool true)], args := [d1, d2] }
  | _ => none }
def fnExactCrossingsOfRow : OpenClaim := { program := "ytcjipmpccmppiab", sum := "54727fc12eb8143ddb484ce2e7642bfdf03183722c84745ecc1b5a689493cd17", func := "loop.example/g01026/laws.FnExactCrossingsOf", spec := "fnExactCrossingsOf", unfollowed := true, recurses := true, apart := false }
def FnExactCrossingsOfSaid : Prop := fnExactCrossingsOfRow.holds Try.pinned (OpenSpec.ofChange fnExactCrossingsOfSpec)

/-- ITS FALSE NEIGHBOUR: 'it returns false'. Refute it at one input. -/
def fnExactCrossingsOfWrong : ChangeSpec := { name := "fnExactCrossingsOf", fn := fun _ => fun
  | [d1, d2] => { results := [.lit (.bool false)], args := [d1, d2] }
  | _ => none }
def FnExactCrossingsOfWrongFalsely : Prop := fnExactCrossingsOfRow.holds Try.pinned (OpenSpec.ofChange fnExactCrossingsOfWrong)

/-- 'laws.FnExactChordMiddles': WHATEVER THE INPUT: true; the input reads as it did. -/
def fnExactChordMiddlesSpec : ChangeSpec := { name := "fnExactChordMiddles", fn := fun _ => fun
  | [d1, d2] => { results := [.lit (.bool true)], args := [d1, d2] }
  | _ => none }
def fnExactChordMiddlesRow : OpenClaim := { program := "ytcjipmpccmppiab", sum := "54727fc12eb8143ddb484ce2e7642bfdf03183722c84745ecc1b5a689493cd17", func := "loop.example/g01026/laws.FnExactChordMiddles", spec := "fnExactChordMiddles", unfollowed := true, recurses := true, apart := false }
def FnExactChordMiddlesSaid : Prop := fnExactChordMiddlesRow.holds Try.pinned (OpenSpec.ofChange fnExactChordMiddlesSpec)

/-- ITS FALSE NEIGHBOUR: 'it returns false'. Refute it at one input. -/
def fnExactChordMiddlesWrong : ChangeSpec := { name := "fnExactChordMiddles", fn := fun _ => fun
  | [d1, d2] => { results := [.lit (.bool false)], args := [d1, d2] }
  | _ => none }
def FnExactChordMiddlesWrongFalsely : Prop := fnExactChordMiddlesRow.holds Try.pinned (OpenSpec.ofChange fnExactChordMiddlesWrong)

/-- 'laws.FnExactRiseTimes': WHATEVER THE INPUT: true; the input reads as it did. -/
def fnExactRiseTimesSpec : ChangeSpec := { name := "fnExactRiseTimes", fn := fun _ => fun
  | [d1, d2] => { results := [.lit (.bool true)], args := [d1, d2] }
  | _ => none }
def fnExactRiseTimesRow : OpenClaim := { program := "ytcjipmpccmppiab", sum := "54727fc12eb8143ddb484ce2e7642bfdf03183722c84745ecc1b5a689493cd17", func := "loop.example/g01026/laws.FnExactRiseTimes", spec := "fnExactRiseTimes", unfollowed := true, recurses := true, apart := false }
def FnExactRiseTimesSaid : Prop := fnExactRiseTimesRow.holds Try.pinned (OpenSpec.ofChange fnExactRiseTimesSpec)

/-- ITS FALSE NEIGHBOUR: 'it returns false'. Refute it at one input. -/
def fnExactRiseTimesWrong : ChangeSpec := { name := "fnExactRiseTimes", fn := fun _ => fun
  | [d1, d2] => { results := [.lit (.bool false)], args := [d1, d2] }
  | _ => none }
def FnExactRiseTimesWrongFalsely : Prop := fnExactRiseTimesRow.holds Try.pinned (OpenSpec.ofChange fnExactRiseTimesWrong)

/-- 'laws.FnExactMeanCycle': WHATEVER THE INPUT: true; the input reads as it did. -/
def fnExactMeanCycleSpec : ChangeSpec := { name := "fnExactMeanCycle", fn := fun _ => fun
  | [d1, d2, d3] => { results := [.lit (.bool true)], args := [d1, d2, d3] }
  | _ => none }
def fnExactMeanCycleRow : OpenClaim := { program := "ytcjipmpccmppiab", sum := "54727fc12eb8143ddb484ce2e7642bfdf03183722c84745ecc1b5a689493cd17", func := "loop.example/g01026/laws.FnExactMeanCycle", spec := "fnExactMeanCycle", unfollowed := true, recurses := true, apart := false }
def FnExactMeanCycleSaid : Prop := fnExactMeanCycleRow.holds Try.pinned (OpenSpec.ofChange fnExactMeanCycleSpec)

/-- ITS FALSE NEIGHBOUR: 'it returns false'. Refute it at one input. -/
def fnExactMeanCycleWrong : ChangeSpec := { name := "fnExactMeanCycle", fn := fun _ => fun
  | [d1, d2, d3] => { results := [.lit (.bool false)], args := [d1, d2, d3] }
  | _ => none }
def FnExactMeanCycleWrongFalsely : Prop := fnExactMeanCycleRow.holds Try.pinned (OpenSpec.ofChange fnExactMeanCycleWrong)

/-- 'laws.FnExactRefineExtremum': WHATEVER THE INPUT: true; the input reads as it did. -/
def fnExactRefineExtremumSpec : ChangeSpec := { name := "fnExactRefineExtremum", fn := fun _ => fun
  | [d1, d2] => { results := [.lit (.bool true)], args := [d1, d2] }
  | _ => none }
def fnExactRefineExtremumRow : OpenClaim := { program := "ytcjipmpccmppiab", sum := "54727fc12eb8143ddb484ce2e7642bfdf03183722c84745ecc1b5a689493cd17", func := "loop.example/g01026/laws.FnExactRefineExtremum", spec := "fnExactRefineExtremum", unfollowed := true, recurses := true, apart := false }
def FnExactRefineExtremumSaid : Prop := fnExactRefineExtremumRow.holds Try.pinned (OpenSpec.ofChange fnExactRefineExtremumSpec)

/-- ITS FALSE NEIGHBOUR: 'it returns false'. Refute it at one input. -/
def fnExactRefineExtremumWrong : ChangeSpec := { name := "fnExactRefineExtremum", fn := fun _ => fun
  | [d1, d2] => { results := [.lit (.bool false)], args := [d1, d2] }
  | _ => none }
def FnExactRefineExtremumWrongFalsely : Prop := fnExactRefineExtremumRow.holds Try.pinned (OpenSpec.ofChange fnExactRefineExtremumWrong)

/- THE SECOND FORM. 'bulk': how many values and letters a reading holds, each counted each time it is reached (what is shared counts as often as it is met; a slice's spare places count too). A statement '..UptoSaid' is the law's where the arguments, and the package variables that the reading takes, are together of bulk at most 1048576: NARROWER than '..Said'. Prove '..Said' where nothing that the law and all that it calls make is longer than what came in: it says more and counts as full. Else prove '..UptoSaid'. A law counts once. -/
mutual
def uptoBulk {H : Type} : DataW H → Nat
  | .lit (.string bytes) => bytes.length + 1
  | .lit _ => 1
  | .nil => 1
  | .ptr d => uptoBulk d + 1
  | .slice elems spare => uptoBulkAll elems + uptoBulkAll spare + 1
  | .agg parts => uptoBulkAll parts + 1
  | .iface _ d => uptoBulk d + 1
  | .map entries => uptoBulkEntries entries + 1
  | .held _ => 1
def uptoBulkAll {H : Type} : List (DataW H) → Nat
  | [] => 0
  | d :: r => uptoBulk d + uptoBulkAll r
def uptoBulkEntries {H : Type} : List (Lit × DataW H) → Nat
  | [] => 0
  | x :: r => uptoBulkEntry x + uptoBulkEntries r
def uptoBulkEntry {H : Type} : Lit × DataW H → Nat
  | (.string bytes, d) => bytes.length + uptoBulk d + 1
  | (_, d) => uptoBulk d + 1
 end
def uptoSmall : (H : Type) → List (DataW H) → Bool := fun _ ds => decide (uptoBulkAll ds ≤ 1048576)
def OpenSpec.upto (s : _root_.Go.ChangeSpec) : _root_.Go.OpenSpec := { _root_.Go.OpenSpec.ofChange s with cond := some uptoSmall }

/-- 'laws.FnExactBestByBins', WHERE WHAT IT READS IS OF BULK AT MOST 1048576: true; the input reads as it did. -/
def fnExactBestByBinsUptoRow : OpenClaim := { program := "ytcjipmpccmppiab", sum := "54727fc12eb8143ddb484ce2e7642bfdf03183722c84745ecc1b5a689493cd17", func := "loop.example/g01026/laws.FnExactBestByBins", spec := "fnExactBestByBins", unfollowed := true, recurses := true, apart := false, narrowed := true }
def FnExactBestByBinsUptoSaid : Prop := fnExactBestByBinsUptoRow.holds Try.pinned (OpenSpec.upto fnExactBestByBinsSpec)

/-- 'laws.FnExactVertexTime', WHERE WHAT IT READS IS OF BULK AT MOST 1048576: true; the input reads as it did. -/
def fnExactVertexTimeUptoRow : OpenClaim := { program := "ytcjipmpccmppiab", sum := "54727fc12eb8143ddb484ce2e7642bfdf03183722c84745ecc1b5a689493cd17", func := "loop.example/g01026/laws.FnExactVertexTime", spec := "fnExactVertexTime", unfollowed := true, recurses := true, apart := false, narrowed := true }
def FnExactVertexTimeUptoSaid : Prop := fnExactVertexTimeUptoRow.holds Try.pinned (OpenSpec.upto fnExactVertexTimeSpec)

/-- 'laws.FnExactVertexMag', WHERE WHAT IT READS IS OF BULK AT MOST 1048576: true; the input reads as it did. -/
def fnExactVertexMagUptoRow : OpenClaim := { program := "ytcjipmpccmppiab", sum := "54727fc12eb8143ddb484ce2e7642bfdf03183722c84745ecc1b5a689493cd17", func := "loop.example/g01026/laws.FnExactVertexMag", spec := "fnExactVertexMag", unfollowed := true, recurses := true, named := ["math/bits.divideError", "math/bits.overflowError"], apart := false, narrowed := true }
def FnExactVertexMagUptoSaid : Prop := fnExactVertexMagUptoRow.holds Try.pinned (OpenSpec.upto fnExactVertexMagSpec)

/-- 'laws.FnExactExtremaOf', WHERE WHAT IT READS IS OF BULK AT MOST 1048576: true; the input reads as it did. -/
def fnExactExtremaOfUptoRow : OpenClaim := { program := "ytcjipmpccmppiab", sum := "54727fc12eb8143ddb484ce2e7642bfdf03183722c84745ecc1b5a689493cd17", func := "loop.example/g01026/laws.FnExactExtremaOf", spec := "fnExactExtremaOf", unfollowed := true, recurses := true, apart := false, narrowed := true }
def FnExactExtremaOfUptoSaid : Prop := fnExactExtremaOfUptoRow.holds Try.pinned (OpenSpec.upto fnExactExtremaOfSpec)

/-- 'laws.FnExactDeepEnough', WHERE WHAT IT READS IS OF BULK AT MOST 1048576: true; the input reads as it did. -/
def fnExactDeepEnoughUptoRow : OpenClaim := { program := "ytcjipmpccmppiab", sum := "54727fc12eb8143ddb484ce2e7642bfdf03183722c84745ecc1b5a689493cd17", func := "loop.example/g01026/laws.FnExactDeepEnough", spec := "fnExactDeepEnough", unfollowed := true, recurses := true, apart := false, narrowed := true }
def FnExactDeepEnoughUptoSaid : Prop := fnExactDeepEnoughUptoRow.holds Try.pinned (OpenSpec.upto fnExactDeepEnoughSpec)

/-- 'laws.FnExactCrossingsOf', WHERE WHAT IT READS IS OF BULK AT MOST 1048576: true; the input reads as it did. -/
def fnExactCrossingsOfUptoRow : OpenClaim := { program := "ytcjipmpccmppiab", sum := "54727fc12eb8143ddb484ce2e7642bfdf03183722c84745ecc1b5a689493cd17", func := "loop.example/g01026/laws.FnExactCrossingsOf", spec := "fnExactCrossingsOf", unfollowed := true, recurses := true, apart := false, narrowed := true }
def FnExactCrossingsOfUptoSaid : Prop := fnExactCrossingsOfUptoRow.holds Try.pinned (OpenSpec.upto fnExactCrossingsOfSpec)

/-- 'laws.FnExactChordMiddles', WHERE WHAT IT READS IS OF BULK AT MOST 1048576: true; the input reads as it did. -/
def fnExactChordMiddlesUptoRow : OpenClaim := { program := "ytcjipmpccmppiab", sum := "54727fc12eb8143ddb484ce2e7642bfdf03183722c84745ecc1b5a689493cd17", func := "loop.example/g01026/laws.FnExactChordMiddles", spec := "fnExactChordMiddles", unfollowed := true, recurses := true, apart := false, narrowed := true }
def FnExactChordMiddlesUptoSaid : Prop := fnExactChordMiddlesUptoRow.holds Try.pinned (OpenSpec.upto fnExactChordMiddlesSpec)

/-- 'laws.FnExactRiseTimes', WHERE WHAT IT READS IS OF BULK AT MOST 1048576: true; the input reads as it did. -/
def fnExactRiseTimesUptoRow : OpenClaim := { program := "ytcjipmpccmppiab", sum := "54727fc12eb8143ddb484ce2e7642bfdf03183722c84745ecc1b5a689493cd17", func := "loop.example/g01026/laws.FnExactRiseTimes", spec := "fnExactRiseTimes", unfollowed := true, recurses := true, apart := false, narrowed := true }
def FnExactRiseTimesUptoSaid : Prop := fnExactRiseTimesUptoRow.holds Try.pinned (OpenSpec.upto fnExactRiseTimesSpec)

/-- 'laws.FnExactMeanCycle', WHERE WHAT IT READS IS OF BULK AT MOST 1048576: true; the input reads as it did. -/
def fnExactMeanCycleUptoRow : OpenClaim := { program := "ytcjipmpccmppiab", sum := "54727fc12eb8143ddb484ce2e7642bfdf03183722c84745ecc1b5a689493cd17", func := "loop.example/g01026/laws.FnExactMeanCycle", spec := "fnExactMeanCycle", unfollowed := true, recurses := true, apart := false, narrowed := true }
def FnExactMeanCycleUptoSaid : Prop := fnExactMeanCycleUptoRow.holds Try.pinned (OpenSpec.upto fnExactMeanCycleSpec)

/-- 'laws.FnExactRefineExtremum', WHERE WHAT IT READS IS OF BULK AT MOST 1048576: true; the input reads as it did. -/
def fnExactRefineExtremumUptoRow : OpenClaim := { program := "ytcjipmpccmppiab", sum := "54727fc12eb8143ddb484ce2e7642bfdf03183722c84745ecc1b5a689493cd17", func := "loop.example/g01026/laws.FnExactRefineExtremum", spec := "fnExactRefineExtremum", unfollowed := true, recurses := true, apart := false, narrowed := true }
def FnExactRefineExtremumUptoSaid : Prop := fnExactRefineExtremumUptoRow.holds Try.pinned (OpenSpec.upto fnExactRefineExtremumSpec)

end Rows
end Go.Proofs.Ytcjipmpccmppiab
