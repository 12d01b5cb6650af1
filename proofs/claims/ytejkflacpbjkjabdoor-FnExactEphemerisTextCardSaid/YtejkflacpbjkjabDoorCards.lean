/-
  DERIVED. GIVEN WITH THE SEED: THE CARDS: each row of YtejkflacpbjkjabDoorRows.lean that lists a variable, with what it lists TIED to the program's text (the seventh form; the later family's looks); each row that meets fmt, with fmt's text TOLD by the authors' own Lean function (tested against real Go, not proved from fmt's source: count such statements apart). THE CARD IS WHAT COUNTS. Prove the row's statement (the work); the ties are given (YtejkflacpbjkjabDoorTie.lean); close each card by the builder's one call (the guide's Derived/Test/ToyasCard.lean, 'card_holds'). Laid BY PROGRAM, IN A SANDBOX (cutbox-door.mjs). By AI agents, Wed Nov 11 2026. No macro, syntax, notation, axiom, sorry.
-/
import Derived.Test.YtejkflacpbjkjabDoorRows
import GoSem.ClaimSeven
namespace Go.Proofs.YtejkflacpbjkjabDoor
namespace Rows

/-- THE TIED CARD OF 'laws.FnExactEphemerisText'. -/
def fnExactEphemerisTextCard : Claim7 := { stood := { row := fnExactEphemerisTextRow, standIns := [], harness := (true, "c973e16cb38ab431b37115c93d4e1c5278b971f82116db49e2cf0ba9079a187a"), looks := true }, kinds := [], alts := [], laidByText := true, laidKinds := [.data, .data, .data], laidTests := true, laidLooks := .later }
def FnExactEphemerisTextCardSaid : Prop := Claim7.holds Tryd.pinned (.plain (OpenSpec.ofChange fnExactEphemerisTextSpec)) fnExactEphemerisTextCard

/-- THE TIED CARD OF 'laws.FnExactMergeEstimates'. -/
def fnExactMergeEstimatesCard : Claim7 := { stood := { row := fnExactMergeEstimatesRow, standIns := [], harness := (true, "c973e16cb38ab431b37115c93d4e1c5278b971f82116db49e2cf0ba9079a187a"), looks := true }, kinds := [], alts := [], laidByText := true, laidKinds := [.sentinel], laidTests := true, laidLooks := .later }
def FnExactMergeEstimatesCardSaid : Prop := Claim7.holds Tryd.pinned (.plain (OpenSpec.ofChange fnExactMergeEstimatesSpec)) fnExactMergeEstimatesCard

/-- THE TIED CARD OF 'laws.FnExactEstimatesText'. -/
def fnExactEstimatesTextCard : Claim7 := { stood := { row := fnExactEstimatesTextRow, standIns := [], harness := (true, "c973e16cb38ab431b37115c93d4e1c5278b971f82116db49e2cf0ba9079a187a"), looks := true }, kinds := [], alts := [], laidByText := true, laidKinds := [.data, .data, .data], laidTests := true, laidLooks := .later }
def FnExactEstimatesTextCardSaid : Prop := Claim7.holds Tryd.pinned (.plain (OpenSpec.ofChange fnExactEstimatesTextSpec)) fnExactEstimatesTextCard

/-- THE SECOND FORM's CARD OF 'laws.FnExactEphemerisText'. -/
def fnExactEphemerisTextUptoCard : Claim7 := { stood := { row := fnExactEphemerisTextUptoRow, standIns := [], harness := (true, "c973e16cb38ab431b37115c93d4e1c5278b971f82116db49e2cf0ba9079a187a"), looks := true }, kinds := [], alts := [], laidByText := true, laidKinds := [.data, .data, .data], laidTests := true, laidLooks := .later }
def FnExactEphemerisTextUptoCardSaid : Prop := Claim7.holds Tryd.pinned (.plain (OpenSpec.upto fnExactEphemerisTextSpec)) fnExactEphemerisTextUptoCard

/-- THE SECOND FORM's CARD OF 'laws.FnExactMergeEstimates'. -/
def fnExactMergeEstimatesUptoCard : Claim7 := { stood := { row := fnExactMergeEstimatesUptoRow, standIns := [], harness := (true, "c973e16cb38ab431b37115c93d4e1c5278b971f82116db49e2cf0ba9079a187a"), looks := true }, kinds := [], alts := [], laidByText := true, laidKinds := [.sentinel], laidTests := true, laidLooks := .later }
def FnExactMergeEstimatesUptoCardSaid : Prop := Claim7.holds Tryd.pinned (.plain (OpenSpec.upto fnExactMergeEstimatesSpec)) fnExactMergeEstimatesUptoCard

/-- THE SECOND FORM's CARD OF 'laws.FnExactEstimatesText'. -/
def fnExactEstimatesTextUptoCard : Claim7 := { stood := { row := fnExactEstimatesTextUptoRow, standIns := [], harness := (true, "c973e16cb38ab431b37115c93d4e1c5278b971f82116db49e2cf0ba9079a187a"), looks := true }, kinds := [], alts := [], laidByText := true, laidKinds := [.data, .data, .data], laidTests := true, laidLooks := .later }
def FnExactEstimatesTextUptoCardSaid : Prop := Claim7.holds Tryd.pinned (.plain (OpenSpec.upto fnExactEstimatesTextSpec)) fnExactEstimatesTextUptoCard
end Rows
end Go.Proofs.YtejkflacpbjkjabDoor
