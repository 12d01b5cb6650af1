/-
  No cell of these rows narrows 'for every input' (looked for: loops, veiled, ifaces, maps, wideKeys, modest, calm, conditions, laid).
  DERIVED. THE GIVEN ROWS OF THIS SEAT. 10 by the template 'for every input the law returns true; each argument reads behind the call as it read before'; 0 by the template 'total and deterministic' (their statements: YtiogffjhhhpolabTotals.lean).
  GIVEN WITH THE SEED: the statements are not yours to turn. If you find one false, say at which input.
  Laid BY PROGRAM, IN A SANDBOX (cutbox-rows.mjs): the forced cells as the released guide's own fill.sh prints them over the translation 976723accaffcaca… (all of the seat's roots in one cut). By AI agents, Wed Nov 11 2026. No macro, syntax, notation, axiom, sorry.
-/
import Derived.Test.YtiogffjhhhpolabChecked
import GoSem.Claim
import GoSem.ClaimJoined
import GoSem.ClaimMapViews
import Derived.JoinedTies
import Derived.KernelRfl
namespace Go.Proofs.Ytiogffjhhhpolab
/- THE CELL 'sum', in the pinned program and in every row, IS THE sha256 OF THE DUMP (.gsa) THAT YtiogffjhhhpolabProg.lean LOADS. Nothing in Lean hashes anything: it is a label: what it is worth is what the hold of that sum in a sandbox is worth. -/
noncomputable def Try.pinned : Pinned := { name := "ytiogffjhhhpolab", sum := "976723accaffcaca18d27d051effc836d4684d665de460d026b28ceb51062a84", checked := Try.checked }
namespace Rows
def none {H : Type} : Left H := { results := [], args := [] }

/-- 'laws.FnExactAmplitudeOf': WHATEVER THE INPUT: true; the input reads as it did. -/
def fnExactAmplitudeOfSpec : ChangeSpec := { name := "fnExactAmplitudeOf", fn := fun _ => fun
  | [d] => { results := [.lit (.bool true)], args := [d] }
  | _ => none }
def fnExactAmplitudeOfRow : OpenClaim := { program := "ytiogffjhhhpolab", sum := "976723accaffcaca18d27d051effc836d4684d665de460d026b28ceb51062a84", func := "loop.example/g01026/laws.FnExactAmplitudeOf", spec := "fnExactAmplitudeOf", unfollowed := true, recurses := true, apart := false }
def FnExactAmplitudeOfSaid : Prop := fnExactAmplitudeOfRow.holds Try.pinned (OpenSpec.ofChange fnExactAmplitudeOfSpec)

/-- ITS FALSE NEIGHBOUR: 'it returns false'. Refute it at one input. -/
def fnExactAmplitudeOfWrong : ChangeSpec := { name := "fnExactAmplitudeOf", fn := fun _ => fun
  | [d] => { results := [.lit (.bool false)], args := [d] }
  | _ => none }
def FnExactAmplitudeOfWrongFalsely : Prop := fnExactAmplitudeOfRow.holds Try.pinned (OpenSpec.ofChange fnExactAmplitudeOfWrong)

/-- 'laws.FnExactPathOf': WHATEVER THE INPUT: true; the input reads as it did. -/
def fnExactPathOfSpec : ChangeSpec := { name := "fnExactPathOf", fn := fun _ => fun
  | [d] => { results := [.lit (.bool true)], args := [d] }
  | _ => none }
def fnExactPathOfRow : OpenClaim := { program := "ytiogffjhhhpolab", sum := "976723accaffcaca18d27d051effc836d4684d665de460d026b28ceb51062a84", func := "loop.example/g01026/laws.FnExactPathOf", spec := "fnExactPathOf", unfollowed := true, recurses := true, apart := false }
def FnExactPathOfSaid : Prop := fnExactPathOfRow.holds Try.pinned (OpenSpec.ofChange fnExactPathOfSpec)

/-- ITS FALSE NEIGHBOUR: 'it returns false'. Refute it at one input. -/
def fnExactPathOfWrong : ChangeSpec := { name := "fnExactPathOf", fn := fun _ => fun
  | [d] => { results := [.lit (.bool false)], args := [d] }
  | _ => none }
def FnExactPathOfWrongFalsely : Prop := fnExactPathOfRow.holds Try.pinned (OpenSpec.ofChange fnExactPathOfWrong)

/-- 'laws.FnExactSlopeOf': WHATEVER THE INPUT: true; the input reads as it did. -/
def fnExactSlopeOfSpec : ChangeSpec := { name := "fnExactSlopeOf", fn := fun _ => fun
  | [d] => { results := [.lit (.bool true)], args := [d] }
  | _ => none }
def fnExactSlopeOfRow : OpenClaim := { program := "ytiogffjhhhpolab", sum := "976723accaffcaca18d27d051effc836d4684d665de460d026b28ceb51062a84", func := "loop.example/g01026/laws.FnExactSlopeOf", spec := "fnExactSlopeOf", unfollowed := true, recurses := true, apart := false }
def FnExactSlopeOfSaid : Prop := fnExactSlopeOfRow.holds Try.pinned (OpenSpec.ofChange fnExactSlopeOfSpec)

/-- ITS FALSE NEIGHBOUR: 'it returns false'. Refute it at one input. -/
def fnExactSlopeOfWrong : ChangeSpec := { name := "fnExactSlopeOf", fn := fun _ => fun
  | [d] => { results := [.lit (.bool false)], args := [d] }
  | _ => none }
def FnExactSlopeOfWrongFalsely : Prop := fnExactSlopeOfRow.holds Try.pinned (OpenSpec.ofChange fnExactSlopeOfWrong)

/-- 'laws.FnExactPairFor': WHATEVER THE INPUT: true; the input reads as it did. -/
def fnExactPairForSpec : ChangeSpec := { name := "fnExactPairFor", fn := fun _ => fun
  | [d1, d2] => { results := [.lit (.bool true)], args := [d1, d2] }
  | _ => none }
def fnExactPairForRow : OpenClaim := { program := "ytiogffjhhhpolab", sum := "976723accaffcaca18d27d051effc836d4684d665de460d026b28ceb51062a84", func := "loop.example/g01026/laws.FnExactPairFor", spec := "fnExactPairFor", unfollowed := true, recurses := true, apart := false }
def FnExactPairForSaid : Prop := fnExactPairForRow.holds Try.pinned (OpenSpec.ofChange fnExactPairForSpec)

/-- ITS FALSE NEIGHBOUR: 'it returns false'. Refute it at one input. -/
def fnExactPairForWrong : ChangeSpec := { name := "fnExactPairFor", fn := fun _ => fun
  | [d1, d2] => { results := [.lit (.bool false)], args := [d1, d2] }
  | _ => none }
def FnExactPairForWrongFalsely : Prop := fnExactPairForRow.holds Try.pinned (OpenSpec.ofChange fnExactPairForWrong)

/-- 'laws.FnExactMagGaps': WHATEVER THE INPUT: true; the input reads as it did. -/
def fnExactMagGapsSpec : ChangeSpec := { name := "fnExactMagGaps", fn := fun _ => fun
  | [d1, d2] => { results := [.lit (.bool true)], args := [d1, d2] }
  | _ => none }
def fnExactMagGapsRow : OpenClaim := { program := "ytiogffjhhhpolab", sum := "976723accaffcaca18d27d051effc836d4684d665de460d026b28ceb51062a84", func := "loop.example/g01026/laws.FnExactMagGaps", spec := "fnExactMagGaps", unfollowed := true, recurses := true, apart := false }
def FnExactMagGapsSaid : Prop := fnExactMagGapsRow.holds Try.pinned (OpenSpec.ofChange fnExactMagGapsSpec)

/-- ITS FALSE NEIGHBOUR: 'it returns false'. Refute it at one input. -/
def fnExactMagGapsWrong : ChangeSpec := { name := "fnExactMagGaps", fn := fun _ => fun
  | [d1, d2] => { results := [.lit (.bool false)], args := [d1, d2] }
  | _ => none }
def FnExactMagGapsWrongFalsely : Prop := fnExactMagGapsRow.holds Try.pinned (OpenSpec.ofChange fnExactMagGapsWrong)

/-- 'laws.FnExactBetweenStars': WHATEVER THE INPUT: true; the input reads as it did. -/
def fnExactBetweenStarsSpec : ChangeSpec := { name := "fnExactBetweenStars", fn := fun _ => fun
  | [d1, d2, d3, d4] => { results := [.lit (.bool true)], args := [d1, d2, d3, d4] }
  | _ => none }
def fnExactBetweenStarsRow : OpenClaim := { program := "ytiogffjhhhpolab", sum := "976723accaffcaca18d27d051effc836d4684d665de460d026b28ceb51062a84", func := "loop.example/g01026/laws.FnExactBetweenStars", spec := "fnExactBetweenStars", apart := false }
def FnExactBetweenStarsSaid : Prop := fnExactBetweenStarsRow.holds Try.pinned (OpenSpec.ofChange fnExactBetweenStarsSpec)

/-- ITS FALSE NEIGHBOUR: 'it returns false'. Refute it at one input. -/
def fnExactBetweenStarsWrong : ChangeSpec := { name := "fnExactBetweenStars", fn := fun _ => fun
  | [d1, d2, d3, d4] => { results := [.lit (.bool false)], args := [d1, d2, d3, d4] }
  | _ => none }
def FnExactBetweenStarsWrongFalsely : Prop := fnExactBetweenStarsRow.holds Try.pinned (OpenSpec.ofChange fnExactBetweenStarsWrong)

/-- 'laws.FnExactInBox': WHATEVER THE INPUT: true; the input reads as it did. -/
def fnExactInBoxSpec : ChangeSpec := { name := "fnExactInBox", fn := fun _ => fun
  | [d1, d2] => { results := [.lit (.bool true)], args := [d1, d2] }
  | _ => none }
def fnExactInBoxRow : OpenClaim := { program := "ytiogffjhhhpolab", sum := "976723accaffcaca18d27d051effc836d4684d665de460d026b28ceb51062a84", func := "loop.example/g01026/laws.FnExactInBox", spec := "fnExactInBox", inPlace := ["internal/bytealg.abigen_runtime_cmpstring"], unfollowed := true, recurses := true, apart := false }
def FnExactInBoxSaid : Prop := fnExactInBoxRow.holds Try.pinned (OpenSpec.ofChange fnExactInBoxSpec)

/-- ITS FALSE NEIGHBOUR: 'it returns false'. Refute it at one input. -/
def fnExactInBoxWrong : ChangeSpec := { name := "fnExactInBox", fn := fun _ => fun
  | [d1, d2] => { results := [.lit (.bool false)], args := [d1, d2] }
  | _ => none }
def FnExactInBoxWrongFalsely : Prop := fnExactInBoxRow.holds Try.pinned (OpenSpec.ofChange fnExactInBoxWrong)

/-- 'laws.FnExactByAmplitude': WHATEVER THE INPUT: true; the input reads as it did. -/
def fnExactByAmplitudeSpec : ChangeSpec := { name := "fnExactByAmplitude", fn := fun _ => fun
  | [d] => { results := [.lit (.bool true)], args := [d] }
  | _ => none }
def fnExactByAmplitudeRow : OpenClaim := { program := "ytiogffjhhhpolab", sum := "976723accaffcaca18d27d051effc836d4684d665de460d026b28ceb51062a84", func := "loop.example/g01026/laws.FnExactByAmplitude", spec := "fnExactByAmplitude", inPlace := ["internal/bytealg.abigen_runtime_cmpstring"], unfollowed := true, recurses := true, apart := false }
def FnExactByAmplitudeSaid : Prop := fnExactByAmplitudeRow.holds Try.pinned (OpenSpec.ofChange fnExactByAmplitudeSpec)

/-- ITS FALSE NEIGHBOUR: 'it returns false'. Refute it at one input. -/
def fnExactByAmplitudeWrong : ChangeSpec := { name := "fnExactByAmplitude", fn := fun _ => fun
  | [d] => { results := [.lit (.bool false)], args := [d] }
  | _ => none }
def FnExactByAmplitudeWrongFalsely : Prop := fnExactByAmplitudeRow.holds Try.pinned (OpenSpec.ofChange fnExactByAmplitudeWrong)

/-- 'laws.FnExactVisibleAt': WHATEVER THE INPUT: true; the input reads as it did. -/
def fnExactVisibleAtSpec : ChangeSpec := { name := "fnExactVisibleAt", fn := fun _ => fun
  | [d1, d2] => { results := [.lit (.bool true)], args := [d1, d2] }
  | _ => none }
def fnExactVisibleAtRow : OpenClaim := { program := "ytiogffjhhhpolab", sum := "976723accaffcaca18d27d051effc836d4684d665de460d026b28ceb51062a84", func := "loop.example/g01026/laws.FnExactVisibleAt", spec := "fnExactVisibleAt", inPlace := ["internal/bytealg.abigen_runtime_cmpstring"], unfollowed := true, recurses := true, apart := false }
def FnExactVisibleAtSaid : Prop := fnExactVisibleAtRow.holds Try.pinned (OpenSpec.ofChange fnExactVisibleAtSpec)

/-- ITS FALSE NEIGHBOUR: 'it returns false'. Refute it at one input. -/
def fnExactVisibleAtWrong : ChangeSpec := { name := "fnExactVisibleAt", fn := fun _ => fun
  | [d1, d2] => { results := [.lit (.bool false)], args := [d1, d2] }
  | _ => none }
def FnExactVisibleAtWrongFalsely : Prop := fnExactVisibleAtRow.holds Try.pinned (OpenSpec.ofChange fnExactVisibleAtWrong)

/-- 'laws.FnSkies': WHATEVER THE INPUT: true; the input reads as it did. -/
def fnSkiesSpec : ChangeSpec := { name := "fnSkies", fn := fun _ => fun
  | [d1, d2] => { results := [.lit (.bool true)], args := [d1, d2] }
  | _ => none }
def fnSkiesRow : OpenClaim := { program := "ytiogffjhhhpolab", sum := "976723accaffcaca18d27d051effc836d4684d665de460d026b28ceb51062a84", func := "loop.example/g01026/laws.FnSkies", spec := "fnSkies", inPlace := ["internal/bytealg.abigen_runtime_cmpstring"], unfollowed := true, recurses := true, apart := false }
def FnSkiesSaid : Prop := fnSkiesRow.holds Try.pinned (OpenSpec.ofChange fnSkiesSpec)

/-- ITS FALSE NEIGHBOUR: 'it returns false'. Refute it at one input. -/
def fnSkiesWrong : ChangeSpec := { name := "fnSkies", fn := fun _ => fun
  | [d1, d2] => { results := [.lit (.bool false)], args := [d1, d2] }
  | _ => none }
def FnSkiesWrongFalsely : Prop := fnSkiesRow.holds Try.pinned (OpenSpec.ofChange fnSkiesWrong)

/- THE SECOND FORM. 'bulk': how many values and letters a reading holds, each counted each time it is reached (what is shared counts as often as it is met; a slice's spare places count too). A statement '..UptoSaid' is the law's where the arguments, and the package variables that the reading takes, are together of bulk at most 1048576: NARROWER than '..Said'. Prove '..Said' where nothing that the law and all that it calls make is longer than what came in: it says more and counts as full. Else prove '..UptoSaid'. A law counts once. -/
mutual
def uptoBulk {H : Type} : DataW H → Nat
  | .lit (.string bytes) => bytes.length + 1
  | .lit _ => 1
  | .nil => 1
  | .ptr d => uptoBulk d + 1
  | .slice elems spare => uptoBulkAll elems + uptoBulkAll spare + 1
  | .agg parts => uptoBulkAll parts + 1
  | .iface _ d => uptoBulk d + 1
  | .map entries => uptoBulkEntries entries + 1
  | .held _ => 1
def uptoBulkAll {H : Type} : List (DataW H) → Nat
  | [] => 0
  | d :: r => uptoBulk d + uptoBulkAll r
def uptoBulkEntries {H : Type} : List (Lit × DataW H) → Nat
  | [] => 0
  | x :: r => uptoBulkEntry x + uptoBulkEntries r
def uptoBulkEntry {H : Type} : Lit × DataW H → Nat
  | (.string bytes, d) => bytes.length + uptoBulk d + 1
  | (_, d) => uptoBulk d + 1
 end
def uptoSmall : (H : Type) → List (DataW H) → Bool := fun _ ds => decide (uptoBulkAll ds ≤ 1048576)
def OpenSpec.upto (s : _root_.Go.ChangeSpec) : _root_.Go.OpenSpec := { _root_.Go.OpenSpec.ofChange s with cond := some uptoSmall }

/-- 'laws.FnExactAmplitudeOf', WHERE WHAT IT READS IS OF BULK AT MOST 1048576: true; the input reads as it did. -/
def fnExactAmplitudeOfUptoRow : OpenClaim := { program := "ytiogffjhhhpolab", sum := "976723accaffcaca18d27d051effc836d4684d665de460d026b28ceb51062a84", func := "loop.example/g01026/laws.FnExactAmplitudeOf", spec := "fnExactAmplitudeOf", unfollowed := true, recurses := true, apart := false, narrowed := true }
def FnExactAmplitudeOfUptoSaid : Prop := fnExactAmplitudeOfUptoRow.holds Try.pinned (OpenSpec.upto fnExactAmplitudeOfSpec)

/-- 'laws.FnExactPathOf', WHERE WHAT IT READS IS OF BULK AT MOST 1048576: true; the input reads as it did. -/
def fnExactPathOfUptoRow : OpenClaim := { program := "ytiogffjhhhpolab", sum := "976723accaffcaca18d27d051effc836d4684d665de460d026b28ceb51062a84", func := "loop.example/g01026/laws.FnExactPathOf", spec := "fnExactPathOf", unfollowed := true, recurses := true, apart := false, narrowed := true }
def FnExactPathOfUptoSaid : Prop := fnExactPathOfUptoRow.holds Try.pinned (OpenSpec.upto fnExactPathOfSpec)

/-- 'laws.FnExactSlopeOf', WHERE WHAT IT READS IS OF BULK AT MOST 1048576: true; the input reads as it did. -/
def fnExactSlopeOfUptoRow : OpenClaim := { program := "ytiogffjhhhpolab", sum := "976723accaffcaca18d27d051effc836d4684d665de460d026b28ceb51062a84", func := "loop.example/g01026/laws.FnExactSlopeOf", spec := "fnExactSlopeOf", unfollowed := true, recurses := true, apart := false, narrowed := true }
def FnExactSlopeOfUptoSaid : Prop := fnExactSlopeOfUptoRow.holds Try.pinned (OpenSpec.upto fnExactSlopeOfSpec)

/-- 'laws.FnExactPairFor', WHERE WHAT IT READS IS OF BULK AT MOST 1048576: true; the input reads as it did. -/
def fnExactPairForUptoRow : OpenClaim := { program := "ytiogffjhhhpolab", sum := "976723accaffcaca18d27d051effc836d4684d665de460d026b28ceb51062a84", func := "loop.example/g01026/laws.FnExactPairFor", spec := "fnExactPairFor", unfollowed := true, recurses := true, apart := false, narrowed := true }
def FnExactPairForUptoSaid : Prop := fnExactPairForUptoRow.holds Try.pinned (OpenSpec.upto fnExactPairForSpec)

/-- 'laws.FnExactMagGaps', WHERE WHAT IT READS IS OF BULK AT MOST 1048576: true; the input reads as it did. -/
def fnExactMagGapsUptoRow : OpenClaim := { program := "ytiogffjhhhpolab", sum := "976723accaffcaca18d27d051effc836d4684d665de460d026b28ceb51062a84", func := "loop.example/g01026/laws.FnExactMagGaps", spec := "fnExactMagGaps", unfollowed := true, recurses := true, apart := false, narrowed := true }
def FnExactMagGapsUptoSaid : Prop := fnExactMagGapsUptoRow.holds Try.pinned (OpenSpec.upto fnExactMagGapsSpec)

/-- 'laws.FnExactBetweenStars', WHERE WHAT IT READS IS OF BULK AT MOST 1048576: true; the input reads as it did. -/
def fnExactBetweenStarsUptoRow : OpenClaim := { program := "ytiogffjhhhpolab", sum := "976723accaffcaca18d27d051effc836d4684d665de460d026b28ceb51062a84", func := "loop.example/g01026/laws.FnExactBetweenStars", spec := "fnExactBetweenStars", apart := false, narrowed := true }
def FnExactBetweenStarsUptoSaid : Prop := fnExactBetweenStarsUptoRow.holds Try.pinned (OpenSpec.upto fnExactBetweenStarsSpec)

/-- 'laws.FnExactInBox', WHERE WHAT IT READS IS OF BULK AT MOST 1048576: true; the input reads as it did. -/
def fnExactInBoxUptoRow : OpenClaim := { program := "ytiogffjhhhpolab", sum := "976723accaffcaca18d27d051effc836d4684d665de460d026b28ceb51062a84", func := "loop.example/g01026/laws.FnExactInBox", spec := "fnExactInBox", inPlace := ["internal/bytealg.abigen_runtime_cmpstring"], unfollowed := true, recurses := true, apart := false, narrowed := true }
def FnExactInBoxUptoSaid : Prop := fnExactInBoxUptoRow.holds Try.pinned (OpenSpec.upto fnExactInBoxSpec)

/-- 'laws.FnExactByAmplitude', WHERE WHAT IT READS IS OF BULK AT MOST 1048576: true; the input reads as it did. -/
def fnExactByAmplitudeUptoRow : OpenClaim := { program := "ytiogffjhhhpolab", sum := "976723accaffcaca18d27d051effc836d4684d665de460d026b28ceb51062a84", func := "loop.example/g01026/laws.FnExactByAmplitude", spec := "fnExactByAmplitude", inPlace := ["internal/bytealg.abigen_runtime_cmpstring"], unfollowed := true, recurses := true, apart := false, narrowed := true }
def FnExactByAmplitudeUptoSaid : Prop := fnExactByAmplitudeUptoRow.holds Try.pinned (OpenSpec.upto fnExactByAmplitudeSpec)

/-- 'laws.FnExactVisibleAt', WHERE WHAT IT READS IS OF BULK AT MOST 1048576: true; the input reads as it did. -/
def fnExactVisibleAtUptoRow : OpenClaim := { program := "ytiogffjhhhpolab", sum := "976723accaffcaca18d27d051effc836d4684d665de460d026b28ceb51062a84", func := "loop.example/g01026/laws.FnExactVisibleAt", spec := "fnExactVisibleAt", inPlace := ["internal/bytealg.abigen_runtime_cmpstring"], unfollowed := true, recurses := true, apart := false, narrowed := true }
def FnExactVisibleAtUptoSaid : Prop := fnExactVisibleAtUptoRow.holds Try.pinned (OpenSpec.upto fnExactVisibleAtSpec)

/-- 'laws.FnSkies', WHERE WHAT IT READS IS OF BULK AT MOST 1048576: true; the input reads as it did. -/
def fnSkiesUptoRow : OpenClaim := { program := "ytiogffjhhhpolab", sum := "976723accaffcaca18d27d051effc836d4684d665de460d026b28ceb51062a84", func := "loop.example/g01026/laws.FnSkies", spec := "fnSkies", inPlace := ["internal/bytealg.abigen_runtime_cmpstring"], unfollowed := true, recurses := true, apart := false, narrowed := true }
def FnSkiesUptoSaid : Prop := fnSkiesUptoRow.holds Try.pinned (OpenSpec.upto fnSkiesSpec)

end Rows
end Go.Proofs.Ytiogffjhhhpolab
