/-
  DERIVED. GIVEN WITH THE SEED: THE CARDS: each row of YtfabpcdeppfmdaaDoorRows.lean that lists a variable, with what it lists TIED to the program's text (the seventh form; the later family's looks); each row that meets fmt, with fmt's text TOLD by the authors' own Lean function (tested against real Go, not proved from fmt's source: count such statements apart). THE CARD IS WHAT COUNTS. Prove the row's statement (the work); the ties are given (YtfabpcdeppfmdaaDoorTie.lean); close each card by the builder's one call (the guide's Derived/Test/ToyasCard.lean, 'card_holds'). Laid BY PROGRAM, IN A SANDBOX (cutbox-door.mjs). By AI agents, Wed Nov 11 2026. No macro, syntax, notation, axiom, sorry.
-/
import Derived.Test.YtfabpcdeppfmdaaDoorRows
import GoSem.ClaimSeven
namespace Go.Proofs.YtfabpcdeppfmdaaDoor
namespace Rows

/-- THE TIED CARD OF 'laws.FnLabels'. -/
def fnLabelsCard : Claim7 := { stood := { row := fnLabelsRow, standIns := [], harness := (true, "918f494a87d6a56ddc85981946a6f6c6b6c4427246cca2a99ea99c9bd4c51e72"), looks := false }, kinds := [], alts := [], laidByText := true, laidKinds := [.data, .data, .data, .data], laidTests := true, laidLooks := .later }
def FnLabelsCardSaid : Prop := Claim7.holds Tryd.pinned (.plain (OpenSpec.ofChange fnLabelsSpec)) fnLabelsCard

/-- THE TIED CARD OF 'laws.FnExactLabelOf'. -/
def fnExactLabelOfCard : Claim7 := { stood := { row := fnExactLabelOfRow, standIns := [], harness := (true, "918f494a87d6a56ddc85981946a6f6c6b6c4427246cca2a99ea99c9bd4c51e72"), looks := false }, kinds := [], alts := [], laidByText := true, laidKinds := [.data, .data, .data], laidTests := true, laidLooks := .later }
def FnExactLabelOfCardSaid : Prop := Claim7.holds Tryd.pinned (.plain (OpenSpec.ofChange fnExactLabelOfSpec)) fnExactLabelOfCard

/-- THE TIED CARD OF 'laws.FnExactLabelBox'. -/
def fnExactLabelBoxCard : Claim7 := { stood := { row := fnExactLabelBoxRow, standIns := [], harness := (true, "918f494a87d6a56ddc85981946a6f6c6b6c4427246cca2a99ea99c9bd4c51e72"), looks := false }, kinds := [], alts := [], laidByText := true, laidKinds := [.data, .data, .data, .data], laidTests := true, laidLooks := .later }
def FnExactLabelBoxCardSaid : Prop := Claim7.holds Tryd.pinned (.plain (OpenSpec.ofChange fnExactLabelBoxSpec)) fnExactLabelBoxCard

/-- THE TIED CARD OF 'laws.FnExactLabelClashes'. -/
def fnExactLabelClashesCard : Claim7 := { stood := { row := fnExactLabelClashesRow, standIns := [], harness := (true, "918f494a87d6a56ddc85981946a6f6c6b6c4427246cca2a99ea99c9bd4c51e72"), looks := false }, kinds := [], alts := [], laidByText := true, laidKinds := [.data, .data, .data, .data], laidTests := true, laidLooks := .later }
def FnExactLabelClashesCardSaid : Prop := Claim7.holds Tryd.pinned (.plain (OpenSpec.ofChange fnExactLabelClashesSpec)) fnExactLabelClashesCard

/-- THE TIED CARD OF 'laws.FnExactPutLabels'. -/
def fnExactPutLabelsCard : Claim7 := { stood := { row := fnExactPutLabelsRow, standIns := [], harness := (true, "918f494a87d6a56ddc85981946a6f6c6b6c4427246cca2a99ea99c9bd4c51e72"), looks := false }, kinds := [], alts := [], laidByText := true, laidKinds := [.data, .data, .data, .data], laidTests := true, laidLooks := .later }
def FnExactPutLabelsCardSaid : Prop := Claim7.holds Tryd.pinned (.plain (OpenSpec.ofChange fnExactPutLabelsSpec)) fnExactPutLabelsCard

/-- THE SECOND FORM's CARD OF 'laws.FnLabels'. -/
def fnLabelsUptoCard : Claim7 := { stood := { row := fnLabelsUptoRow, standIns := [], harness := (true, "918f494a87d6a56ddc85981946a6f6c6b6c4427246cca2a99ea99c9bd4c51e72"), looks := false }, kinds := [], alts := [], laidByText := true, laidKinds := [.data, .data, .data, .data], laidTests := true, laidLooks := .later }
def FnLabelsUptoCardSaid : Prop := Claim7.holds Tryd.pinned (.plain (OpenSpec.upto fnLabelsSpec)) fnLabelsUptoCard

/-- THE SECOND FORM's CARD OF 'laws.FnExactLabelOf'. -/
def fnExactLabelOfUptoCard : Claim7 := { stood := { row := fnExactLabelOfUptoRow, standIns := [], harness := (true, "918f494a87d6a56ddc85981946a6f6c6b6c4427246cca2a99ea99c9bd4c51e72"), looks := false }, kinds := [], alts := [], laidByText := true, laidKinds := [.data, .data, .data], laidTests := true, laidLooks := .later }
def FnExactLabelOfUptoCardSaid : Prop := Claim7.holds Tryd.pinned (.plain (OpenSpec.upto fnExactLabelOfSpec)) fnExactLabelOfUptoCard

/-- THE SECOND FORM's CARD OF 'laws.FnExactLabelBox'. -/
def fnExactLabelBoxUptoCard : Claim7 := { stood := { row := fnExactLabelBoxUptoRow, standIns := [], harness := (true, "918f494a87d6a56ddc85981946a6f6c6b6c4427246cca2a99ea99c9bd4c51e72"), looks := false }, kinds := [], alts := [], laidByText := true, laidKinds := [.data, .data, .data, .data], laidTests := true, laidLooks := .later }
def FnExactLabelBoxUptoCardSaid : Prop := Claim7.holds Tryd.pinned (.plain (OpenSpec.upto fnExactLabelBoxSpec)) fnExactLabelBoxUptoCard

/-- THE SECOND FORM's CARD OF 'laws.FnExactLabelClashes'. -/
def fnExactLabelClashesUptoCard : Claim7 := { stood := { row := fnExactLabelClashesUptoRow, standIns := [], harness := (true, "918f494a87d6a56ddc85981946a6f6c6b6c4427246cca2a99ea99c9bd4c51e72"), looks := false }, kinds := [], alts := [], laidByText := true, laidKinds := [.data, .data, .data, .data], laidTests := true, laidLooks := .later }
def FnExactLabelClashesUptoCardSaid : Prop := Claim7.holds Tryd.pinned (.plain (OpenSpec.upto fnExactLabelClashesSpec)) fnExactLabelClashesUptoCard

/-- THE SECOND FORM's CARD OF 'laws.FnExactPutLabels'. -/
def fnExactPutLabelsUptoCard : Claim7 := { stood := { row := fnExactPutLabelsUptoRow, standIns := [], harness := (true, "918f494a87d6a56ddc85981946a6f6c6b6c4427246cca2a99ea99c9bd4c51e72"), looks := false }, kinds := [], alts := [], laidByText := true, laidKinds := [.data, .data, .data, .data], laidTests := true, laidLooks := .later }
def FnExactPutLabelsUptoCardSaid : Prop := Claim7.holds Tryd.pinned (.plain (OpenSpec.upto fnExactPutLabelsSpec)) fnExactPutLabelsUptoCard
end Rows
end Go.Proofs.YtfabpcdeppfmdaaDoor
