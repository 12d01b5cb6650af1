/-
  DERIVED. GIVEN WITH THE SEED: THE CARDS: each row of YtfnjndbnogeddaaDoorRows.lean that lists a variable, with what it lists TIED to the program's text (the seventh form; the later family's looks); each row that meets fmt, with fmt's text TOLD by the authors' own Lean function (tested against real Go, not proved from fmt's source: count such statements apart). THE CARD IS WHAT COUNTS. Prove the row's statement (the work); the ties are given (YtfnjndbnogeddaaDoorTie.lean); close each card by the builder's one call (the guide's Derived/Test/ToyasCard.lean, 'card_holds'). Laid BY PROGRAM, IN A SANDBOX (cutbox-door.mjs). By AI agents, Wed Nov 11 2026. No macro, syntax, notation, axiom, sorry.
-/
import Derived.Test.YtfnjndbnogeddaaDoorRows
import GoSem.ClaimSeven
namespace Go.Proofs.YtfnjndbnogeddaaDoor
namespace Rows

/-- THE TIED CARD OF 'laws.FnExactEstimatesText'. -/
def fnExactEstimatesTextCard : Claim7 := { stood := { row := fnExactEstimatesTextRow, standIns := [], harness := (true, "43e5521aca393ba4979cb165e0ef29a39c09d106e2626e9bd0a8b1d7a7494305"), looks := true }, kinds := [], alts := [], laidByText := true, laidKinds := [.data, .data, .data], laidTests := true, laidLooks := .later }
def FnExactEstimatesTextCardSaid : Prop := Claim7.holds Tryd.pinned (.plain (OpenSpec.ofChange fnExactEstimatesTextSpec)) fnExactEstimatesTextCard

/-- THE TIED CARD OF 'laws.FnExactMergeEstimates'. -/
def fnExactMergeEstimatesCard : Claim7 := { stood := { row := fnExactMergeEstimatesRow, standIns := [], harness := (true, "43e5521aca393ba4979cb165e0ef29a39c09d106e2626e9bd0a8b1d7a7494305"), looks := true }, kinds := [], alts := [], laidByText := true, laidKinds := [.sentinel], laidTests := true, laidLooks := .later }
def FnExactMergeEstimatesCardSaid : Prop := Claim7.holds Tryd.pinned (.plain (OpenSpec.ofChange fnExactMergeEstimatesSpec)) fnExactMergeEstimatesCard

/-- THE SECOND FORM's CARD OF 'laws.FnExactEstimatesText'. -/
def fnExactEstimatesTextUptoCard : Claim7 := { stood := { row := fnExactEstimatesTextUptoRow, standIns := [], harness := (true, "43e5521aca393ba4979cb165e0ef29a39c09d106e2626e9bd0a8b1d7a7494305"), looks := true }, kinds := [], alts := [], laidByText := true, laidKinds := [.data, .data, .data], laidTests := true, laidLooks := .later }
def FnExactEstimatesTextUptoCardSaid : Prop := Claim7.holds Tryd.pinned (.plain (OpenSpec.upto fnExactEstimatesTextSpec)) fnExactEstimatesTextUptoCard

/-- THE SECOND FORM's CARD OF 'laws.FnExactMergeEstimates'. -/
def fnExactMergeEstimatesUptoCard : Claim7 := { stood := { row := fnExactMergeEstimatesUptoRow, standIns := [], harness := (true, "43e5521aca393ba4979cb165e0ef29a39c09d106e2626e9bd0a8b1d7a7494305"), looks := true }, kinds := [], alts := [], laidByText := true, laidKinds := [.sentinel], laidTests := true, laidLooks := .later }
def FnExactMergeEstimatesUptoCardSaid : Prop := Claim7.holds Tryd.pinned (.plain (OpenSpec.upto fnExactMergeEstimatesSpec)) fnExactMergeEstimatesUptoCard
end Rows
end Go.Proofs.YtfnjndbnogeddaaDoor
