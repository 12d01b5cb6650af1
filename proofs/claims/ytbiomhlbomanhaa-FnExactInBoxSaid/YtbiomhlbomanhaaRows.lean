/-
  No cell of these rows narrows 'for every input' (looked for: loops, veiled, ifaces, maps, wideKeys, modest, calm, conditions, laid).
  DERIVED. THE GIVEN ROWS OF THIS SEAT. 10 by the template 'for every input the law returns true; each argument reads behind the call as it read before'; 0 by the template 'total and deterministic' (their statements: YtbiomhlbomanhaaTotals.lean).
  GIVEN WITH THE SEED: the statements are not yours to turn. If you find one false, say at which input.
  Laid BY PROGRAM, IN A SANDBOX (cutbox-rows.mjs): the forced cells as the released guide's own fill.sh prints them over the translation 65285b87b6ec93bf… (all of the seat's roots in one cut). By AI agents, Wed Nov 11 2026. No macro, syntax, notation, axiom, sorry.
-/
import Derived.Test.YtbiomhlbomanhaaChecked
import GoSem.Claim
import GoSem.ClaimJoined
import GoSem.ClaimMapViews
import Derived.JoinedTies
import Derived.KernelRfl
namespace Go.Proofs.Ytbiomhlbomanhaa
/- THE CELL 'sum', in the pinned program and in every row, IS THE sha256 OF THE DUMP (.gsa) THAT YtbiomhlbomanhaaProg.lean LOADS. Nothing in Lean hashes anything: it is a label: what it is worth is what the hold of that sum in a sandbox is worth. -/
noncomputable def Try.pinned : Pinned := { name := "ytbiomhlbomanhaa", sum := "65285b87b6ec93bf9b605380162a61d5cc301a0735f56cf07d1be154371d61fa", checked := Try.checked }
namespace Rows
def none {H : Type} : Left H := { results := [], args := [] }

/-- 'laws.FnExactValidStars': WHATEVER THE INPUT: true; the input reads as it did. -/
def fnExactValidStarsSpec : ChangeSpec := { name := "fnExactValidStars", fn := fun _ => fun
  | [d] => { results := [.lit (.bool true)], args := [d] }
  | _ => none }
def fnExactValidStarsRow : OpenClaim := { program := "ytbiomhlbomanhaa", sum := "65285b87b6ec93bf9b605380162a61d5cc301a0735f56cf07d1be154371d61fa", func := "loop.example/g01026/laws.FnExactValidStars", spec := "fnExactValidStars", apart := false }
def FnExactValidStarsSaid : Prop := fnExactValidStarsRow.holds Try.pinned (OpenSpec.ofChange fnExactValidStarsSpec)

/-- ITS FALSE NEIGHBOUR: 'it returns false'. Refute it at one input. -/
def fnExactValidStarsWrong : ChangeSpec := { name := "fnExactValidStars", fn := fun _ => fun
  | [d] => { results := [.lit (.bool false)], args := [d] }
  | _ => none }
def FnExactValidStarsWrongFalsely : Prop := fnExactValidStarsRow.holds Try.pinned (OpenSpec.ofChange fnExactValidStarsWrong)

/-- 'laws.FnExactSameStars': WHATEVER THE INPUT: true; the input reads as it did. -/
def fnExactSameStarsSpec : ChangeSpec := { name := "fnExactSameStars", fn := fun _ => fun
  | [d1, d2] => { results := [.lit (.bool true)], args := [d1, d2] }
  | _ => none }
def fnExactSameStarsRow : OpenClaim := { program := "ytbiomhlbomanhaa", sum := "65285b87b6ec93bf9b605380162a61d5cc301a0735f56cf07d1be154371d61fa", func := "loop.example/g01026/laws.FnExactSameStars", spec := "fnExactSameStars", apart := false }
def FnExactSameStarsSaid : Prop := fnExactSameStarsRow.holds Try.pinned (OpenSpec.ofChange fnExactSameStarsSpec)

/-- ITS FALSE NEIGHBOUR: 'it returns false'. Refute it at one input. -/
def fnExactSameStarsWrong : ChangeSpec := { name := "fnExactSameStars", fn := fun _ => fun
  | [d1, d2] => { results := [.lit (.bool false)], args := [d1, d2] }
  | _ => none }
def FnExactSameStarsWrongFalsely : Prop := fnExactSameStarsRow.holds Try.pinned (OpenSpec.ofChange fnExactSameStarsWrong)

/-- 'laws.FnExactAscensionApart': WHATEVER THE INPUT: true; the input reads as it did. -/
def fnExactAscensionApartSpec : ChangeSpec := { name := "fnExactAscensionApart", fn := fun _ => fun
  | [d1, d2] => { results := [.lit (.bool true)], args := [d1, d2] }
  | _ => none }
def fnExactAscensionApartRow : OpenClaim := { program := "ytbiomhlbomanhaa", sum := "65285b87b6ec93bf9b605380162a61d5cc301a0735f56cf07d1be154371d61fa", func := "loop.example/g01026/laws.FnExactAscensionApart", spec := "fnExactAscensionApart", apart := false }
def FnExactAscensionApartSaid : Prop := fnExactAscensionApartRow.holds Try.pinned (OpenSpec.ofChange fnExactAscensionApartSpec)

/-- ITS FALSE NEIGHBOUR: 'it returns false'. Refute it at one input. -/
def fnExactAscensionApartWrong : ChangeSpec := { name := "fnExactAscensionApart", fn := fun _ => fun
  | [d1, d2] => { results := [.lit (.bool false)], args := [d1, d2] }
  | _ => none }
def FnExactAscensionApartWrongFalsely : Prop := fnExactAscensionApartRow.holds Try.pinned (OpenSpec.ofChange fnExactAscensionApartWrong)

/-- 'laws.FnExactBoxAround': WHATEVER THE INPUT: true; the input reads as it did. -/
def fnExactBoxAroundSpec : ChangeSpec := { name := "fnExactBoxAround", fn := fun _ => fun
  | [d1, d2] => { results := [.lit (.bool true)], args := [d1, d2] }
  | _ => none }
def fnExactBoxAroundRow : OpenClaim := { program := "ytbiomhlbomanhaa", sum := "65285b87b6ec93bf9b605380162a61d5cc301a0735f56cf07d1be154371d61fa", func := "loop.example/g01026/laws.FnExactBoxAround", spec := "fnExactBoxAround", apart := false }
def FnExactBoxAroundSaid : Prop := fnExactBoxAroundRow.holds Try.pinned (OpenSpec.ofChange fnExactBoxAroundSpec)

/-- ITS FALSE NEIGHBOUR: 'it returns false'. Refute it at one input. -/
def fnExactBoxAroundWrong : ChangeSpec := { name := "fnExactBoxAround", fn := fun _ => fun
  | [d1, d2] => { results := [.lit (.bool false)], args := [d1, d2] }
  | _ => none }
def FnExactBoxAroundWrongFalsely : Prop := fnExactBoxAroundRow.holds Try.pinned (OpenSpec.ofChange fnExactBoxAroundWrong)

/-- 'laws.FnExactVisibleAt': WHATEVER THE INPUT: true; the input reads as it did. -/
def fnExactVisibleAtSpec : ChangeSpec := { name := "fnExactVisibleAt", fn := fun _ => fun
  | [d1, d2] => { results := [.lit (.bool true)], args := [d1, d2] }
  | _ => none }
def fnExactVisibleAtRow : OpenClaim := { program := "ytbiomhlbomanhaa", sum := "65285b87b6ec93bf9b605380162a61d5cc301a0735f56cf07d1be154371d61fa", func := "loop.example/g01026/laws.FnExactVisibleAt", spec := "fnExactVisibleAt", unfollowed := true, recurses := true, apart := false }
def FnExactVisibleAtSaid : Prop := fnExactVisibleAtRow.holds Try.pinned (OpenSpec.ofChange fnExactVisibleAtSpec)

/-- ITS FALSE NEIGHBOUR: 'it returns false'. Refute it at one input. -/
def fnExactVisibleAtWrong : ChangeSpec := { name := "fnExactVisibleAt", fn := fun _ => fun
  | [d1, d2] => { results := [.lit (.bool false)], args := [d1, d2] }
  | _ => none }
def FnExactVisibleAtWrongFalsely : Prop := fnExactVisibleAtRow.holds Try.pinned (OpenSpec.ofChange fnExactVisibleAtWrong)

/-- 'laws.FnExactInBox': WHATEVER THE INPUT: true; the input reads as it did. -/
def fnExactInBoxSpec : ChangeSpec := { name := "fnExactInBox", fn := fun _ => fun
  | [d1, d2] => { results := [.lit (.bool true)], args := [d1, d2] }
  | _ => none }
def fnExactInBoxRow : OpenClaim := { program := "ytbiomhlbomanhaa", sum := "65285b87b6ec93bf9b605380162a61d5cc301a0735f56cf07d1be154371d61fa", func := "loop.example/g01026/laws.FnExactInBox", spec := "fnExactInBox", unfollowed := true, recurses := true, apart := false }
def FnExactInBoxSaid : Prop := fnExactInBoxRow.holds Try.pinned (OpenSpec.ofChange fnExactInBoxSpec)

/-- ITS FALSE NEIGHBOUR: 'it returns false'. Refute it at one input. -/
def fnExactInBoxWrong : ChangeSpec := { name := "fnExactInBox", fn := fun _ => fun
  | [d1, d2] => { results := [.lit (.bool false)], args := [d1, d2] }
  | _ => none }
def FnExactInBoxWrongFalsely : Prop := fnExactInBoxRow.holds Try.pinned (OpenSpec.ofChange fnExactInBoxWrong)

/-- 'laws.FnExactStarNamed': WHATEVER THE INPUT: true; the input reads as it did. -/
def fnExactStarNamedSpec : ChangeSpec := { name := "fnExactStarNamed", fn := fun _ => fun
  | [d1, d2] => { results := [.lit (.bool true)], args := [d1, d2] }
  | _ => none }
def fnExactStarNamedRow : OpenClaim := { program := "ytbiomhlbomanhaa", sum := "65285b87b6ec93bf9b605380162a61d5cc301a0735f56cf07d1be154371d61fa", func := "loop.example/g01026/laws.FnExactStarNamed", spec := "fnExactStarNamed", apart := false }
def FnExactStarNamedSaid : Prop := fnExactStarNamedRow.holds Try.pinned (OpenSpec.ofChange fnExactStarNamedSpec)

/-- ITS FALSE NEIGHBOUR: 'it returns false'. Refute it at one input. -/
def fnExactStarNamedWrong : ChangeSpec := { name := "fnExactStarNamed", fn := fun _ => fun
  | [d1, d2] => { results := [.lit (.bool false)], args := [d1, d2] }
  | _ => none }
def FnExactStarNamedWrongFalsely : Prop := fnExactStarNamedRow.holds Try.pinned (OpenSpec.ofChange fnExactStarNamedWrong)

/-- 'laws.FnExactAddStar': WHATEVER THE INPUT: true; the input reads as it did. -/
def fnExactAddStarSpec : ChangeSpec := { name := "fnExactAddStar", fn := fun _ => fun
  | [d1, d2] => { results := [.lit (.bool true)], args := [d1, d2] }
  | _ => none }
def fnExactAddStarRow : OpenClaim := { program := "ytbiomhlbomanhaa", sum := "65285b87b6ec93bf9b605380162a61d5cc301a0735f56cf07d1be154371d61fa", func := "loop.example/g01026/laws.FnExactAddStar", spec := "fnExactAddStar", inPlace := ["internal/bytealg.abigen_runtime_cmpstring"], unfollowed := true, recurses := true, apart := false }
def FnExactAddStarSaid : Prop := fnExactAddStarRow.holds Try.pinned (OpenSpec.ofChange fnExactAddStarSpec)

/-- ITS FALSE NEIGHBOUR: 'it returns false'. Refute it at one input. -/
def fnExactAddStarWrong : ChangeSpec := { name := "fnExactAddStar", fn := fun _ => fun
  | [d1, d2] => { results := [.lit (.bool false)], args := [d1, d2] }
  | _ => none }
def FnExactAddStarWrongFalsely : Prop := fnExactAddStarRow.holds Try.pinned (OpenSpec.ofChange fnExactAddStarWrong)

/-- 'laws.FnExactByAmplitude': WHATEVER THE INPUT: true; the input reads as it did. -/
def fnExactByAmplitudeSpec : ChangeSpec := { name := "fnExactByAmplitude", fn := fun _ => fun
  | [d] => { results := [.lit (.bool true)], args := [d] }
  | _ => none }
def fnExactByAmplitudeRow : OpenClaim := { program := "ytbiomhlbomanhaa", sum := "65285b87b6ec93bf9b605380162a61d5cc301a0735f56cf07d1be154371d61fa", func := "loop.example/g01026/laws.FnExactByAmplitude", spec := "fnExactByAmplitude", unfollowed := true, recurses := true, apart := false }
def FnExactByAmplitudeSaid : Prop := fnExactByAmplitudeRow.holds Try.pinned (OpenSpec.ofChange fnExactByAmplitudeSpec)

/-- ITS FALSE NEIGHBOUR: 'it returns false'. Refute it at one input. -/
def fnExactByAmplitudeWrong : ChangeSpec := { name := "fnExactByAmplitude", fn := fun _ => fun
  | [d] => { results := [.lit (.bool false)], args := [d] }
  | _ => none }
def FnExactByAmplitudeWrongFalsely : Prop := fnExactByAmplitudeRow.holds Try.pinned (OpenSpec.ofChange fnExactByAmplitudeWrong)

/-- 'laws.FnSkies': WHATEVER THE INPUT: true; the input reads as it did. -/
def fnSkiesSpec : ChangeSpec := { name := "fnSkies", fn := fun _ => fun
  | [d1, d2] => { results := [.lit (.bool true)], args := [d1, d2] }
  | _ => none }
def fnSkiesRow : OpenClaim := { program := "ytbiomhlbomanhaa", sum := "65285b87b6ec93bf9b605380162a61d5cc301a0735f56cf07d1be154371d61fa", func := "loop.example/g01026/laws.FnSkies", spec := "fnSkies", unfollowed := true, recurses := true, apart := false }
def FnSkiesSaid : Prop := fnSkiesRow.holds Try.pinned (OpenSpec.ofChange fnSkiesSpec)

/-- ITS FALSE NEIGHBOUR: 'it returns false'. Refute it at one input. -/
def fnSkiesWrong : ChangeSpec := { name := "fnSkies", fn := fun _ => fun
  | [d1, d2] => { results := [.lit (.bool false)], args := [d1, d2] }
  | _ => none }
def FnSkiesWrongFalsely : Prop := fnSkiesRow.holds Try.pinned (OpenSpec.ofChange fnSkiesWrong)

/- THE SECOND FORM. 'bulk': how many values and letters a reading holds, each counted each time it is reached (what is shared counts as often as it is met; a slice's spare places count too). A statement '..UptoSaid' is the law's where the arguments, and the package variables that the reading takes, are together of bulk at most 1048576: NARROWER than '..Said'. Prove '..Said' where nothing that the law and all that it calls make is longer than what came in: it says more and counts as full. Else prove '..UptoSaid'. A law counts once. -/
mutual
def uptoBulk {H : Type} : DataW H → Nat
  | .lit (.string bytes) => bytes.length + 1
  | .lit _ => 1
  | .nil => 1
  | .ptr d => uptoBulk d + 1
  | .slice elems spare => uptoBulkAll elems + uptoBulkAll spare + 1
  | .agg parts => uptoBulkAll parts + 1
  | .iface _ d => uptoBulk d + 1
  | .map entries => uptoBulkEntries entries + 1
  | .held _ => 1
def uptoBulkAll {H : Type} : List (DataW H) → Nat
  | [] => 0
  | d :: r => uptoBulk d + uptoBulkAll r
def uptoBulkEntries {H : Type} : List (Lit × DataW H) → Nat
  | [] => 0
  | x :: r => uptoBulkEntry x + uptoBulkEntries r
def uptoBulkEntry {H : Type} : Lit × DataW H → Nat
  | (.string bytes, d) => bytes.length + uptoBulk d + 1
  | (_, d) => uptoBulk d + 1
 end
def uptoSmall : (H : Type) → List (DataW H) → Bool := fun _ ds => decide (uptoBulkAll ds ≤ 1048576)
def OpenSpec.upto (s : _root_.Go.ChangeSpec) : _root_.Go.OpenSpec := { _root_.Go.OpenSpec.ofChange s with cond := some uptoSmall }

/-- 'laws.FnExactValidStars', WHERE WHAT IT READS IS OF BULK AT MOST 1048576: true; the input reads as it did. -/
def fnExactValidStarsUptoRow : OpenClaim := { program := "ytbiomhlbomanhaa", sum := "65285b87b6ec93bf9b605380162a61d5cc301a0735f56cf07d1be154371d61fa", func := "loop.example/g01026/laws.FnExactValidStars", spec := "fnExactValidStars", apart := false, narrowed := true }
def FnExactValidStarsUptoSaid : Prop := fnExactValidStarsUptoRow.holds Try.pinned (OpenSpec.upto fnExactValidStarsSpec)

/-- 'laws.FnExactSameStars', WHERE WHAT IT READS IS OF BULK AT MOST 1048576: true; the input reads as it did. -/
def fnExactSameStarsUptoRow : OpenClaim := { program := "ytbiomhlbomanhaa", sum := "65285b87b6ec93bf9b605380162a61d5cc301a0735f56cf07d1be154371d61fa", func := "loop.example/g01026/laws.FnExactSameStars", spec := "fnExactSameStars", apart := false, narrowed := true }
def FnExactSameStarsUptoSaid : Prop := fnExactSameStarsUptoRow.holds Try.pinned (OpenSpec.upto fnExactSameStarsSpec)

/-- 'laws.FnExactAscensionApart', WHERE WHAT IT READS IS OF BULK AT MOST 1048576: true; the input reads as it did. -/
def fnExactAscensionApartUptoRow : OpenClaim := { program := "ytbiomhlbomanhaa", sum := "65285b87b6ec93bf9b605380162a61d5cc301a0735f56cf07d1be154371d61fa", func := "loop.example/g01026/laws.FnExactAscensionApart", spec := "fnExactAscensionApart", apart := false, narrowed := true }
def FnExactAscensionApartUptoSaid : Prop := fnExactAscensionApartUptoRow.holds Try.pinned (OpenSpec.upto fnExactAscensionApartSpec)

/-- 'laws.FnExactBoxAround', WHERE WHAT IT READS IS OF BULK AT MOST 1048576: true; the input reads as it did. -/
def fnExactBoxAroundUptoRow : OpenClaim := { program := "ytbiomhlbomanhaa", sum := "65285b87b6ec93bf9b605380162a61d5cc301a0735f56cf07d1be154371d61fa", func := "loop.example/g01026/laws.FnExactBoxAround", spec := "fnExactBoxAround", apart := false, narrowed := true }
def FnExactBoxAroundUptoSaid : Prop := fnExactBoxAroundUptoRow.holds Try.pinned (OpenSpec.upto fnExactBoxAroundSpec)

/-- 'laws.FnExactVisibleAt', WHERE WHAT IT READS IS OF BULK AT MOST 1048576: true; the input reads as it did. -/
def fnExactVisibleAtUptoRow : OpenClaim := { program := "ytbiomhlbomanhaa", sum := "65285b87b6ec93bf9b605380162a61d5cc301a0735f56cf07d1be154371d61fa", func := "loop.example/g01026/laws.FnExactVisibleAt", spec := "fnExactVisibleAt", unfollowed := true, recurses := true, apart := false, narrowed := true }
def FnExactVisibleAtUptoSaid : Prop := fnExactVisibleAtUptoRow.holds Try.pinned (OpenSpec.upto fnExactVisibleAtSpec)

/-- 'laws.FnExactInBox', WHERE WHAT IT READS IS OF BULK AT MOST 1048576: true; the input reads as it did. -/
def fnExactInBoxUptoRow : OpenClaim := { program := "ytbiomhlbomanhaa", sum := "65285b87b6ec93bf9b605380162a61d5cc301a0735f56cf07d1be154371d61fa", func := "loop.example/g01026/laws.FnExactInBox", spec := "fnExactInBox", unfollowed := true, recurses := true, apart := false, narrowed := true }
def FnExactInBoxUptoSaid : Prop := fnExactInBoxUptoRow.holds Try.pinned (OpenSpec.upto fnExactInBoxSpec)

/-- 'laws.FnExactStarNamed', WHERE WHAT IT READS IS OF BULK AT MOST 1048576: true; the input reads as it did. -/
def fnExactStarNamedUptoRow : OpenClaim := { program := "ytbiomhlbomanhaa", sum := "65285b87b6ec93bf9b605380162a61d5cc301a0735f56cf07d1be154371d61fa", func := "loop.example/g01026/laws.FnExactStarNamed", spec := "fnExactStarNamed", apart := false, narrowed := true }
def FnExactStarNamedUptoSaid : Prop := fnExactStarNamedUptoRow.holds Try.pinned (OpenSpec.upto fnExactStarNamedSpec)

/-- 'laws.FnExactAddStar', WHERE WHAT IT READS IS OF BULK AT MOST 1048576: true; the input reads as it did. -/
def fnExactAddStarUptoRow : OpenClaim := { program := "ytbiomhlbomanhaa", sum := "65285b87b6ec93bf9b605380162a61d5cc301a0735f56cf07d1be154371d61fa", func := "loop.example/g01026/laws.FnExactAddStar", spec := "fnExactAddStar", inPlace := ["internal/bytealg.abigen_runtime_cmpstring"], unfollowed := true, recurses := true, apart := false, narrowed := true }
def FnExactAddStarUptoSaid : Prop := fnExactAddStarUptoRow.holds Try.pinned (OpenSpec.upto fnExactAddStarSpec)

/-- 'laws.FnExactByAmplitude', WHERE WHAT IT READS IS OF BULK AT MOST 1048576: true; the input reads as it did. -/
def fnExactByAmplitudeUptoRow : OpenClaim := { program := "ytbiomhlbomanhaa", sum := "65285b87b6ec93bf9b605380162a61d5cc301a0735f56cf07d1be154371d61fa", func := "loop.example/g01026/laws.FnExactByAmplitude", spec := "fnExactByAmplitude", unfollowed := true, recurses := true, apart := false, narrowed := true }
def FnExactByAmplitudeUptoSaid : Prop := fnExactByAmplitudeUptoRow.holds Try.pinned (OpenSpec.upto fnExactByAmplitudeSpec)

/-- 'laws.FnSkies', WHERE WHAT IT READS IS OF BULK AT MOST 1048576: true; the input reads as it did. -/
def fnSkiesUptoRow : OpenClaim := { program := "ytbiomhlbomanhaa", sum := "65285b87b6ec93bf9b605380162a61d5cc301a0735f56cf07d1be154371d61fa", func := "loop.example/g01026/laws.FnSkies", spec := "fnSkies", unfollowed := true, recurses := true, apart := false, narrowed := true }
def FnSkiesUptoSaid : Prop := fnSkiesUptoRow.holds Try.pinned (OpenSpec.upto fnSkiesSpec)

end Rows
end Go.Proofs.Ytbiomhlbomanhaa
