/-
  DERIVED. GIVEN WITH THE SEED: THE CARDS: each row of YtbjflgohahmjgaaDoorRows.lean that lists a variable, with what it lists TIED to the program's text (the seventh form; the later family's looks); each row that meets fmt, with fmt's text TOLD by the authors' own Lean function (tested against real Go, not proved from fmt's source: count such statements apart). THE CARD IS WHAT COUNTS. Prove the row's statement (the work); the ties are given (YtbjflgohahmjgaaDoorTie.lean); close each card by the builder's one call (the guide's Derived/Test/ToyasCard.lean, 'card_holds'). Laid BY PROGRAM, IN A SANDBOX (cutbox-door.mjs). By AI agents, Wed Nov 11 2026. No macro, syntax, notation, axiom, sorry.
-/
import Derived.Test.YtbjflgohahmjgaaDoorRows
import GoSem.ClaimSeven
namespace Go.Proofs.YtbjflgohahmjgaaDoor
namespace Rows

/-- THE TIED CARD OF 'laws.FnFits'. -/
def fnFitsCard : Claim7 := { stood := { row := fnFitsRow, standIns := [], harness := (true, "cab759835b247ffd616675f052e070d2583c0c598da6578e85171714fe0ebece"), looks := true }, kinds := [], alts := [], laidByText := true, laidKinds := [.handle], laidTests := true, laidLooks := .later }
def FnFitsCardSaid : Prop := Claim7.holds Tryd.pinned (.plain (OpenSpec.ofChange fnFitsSpec)) fnFitsCard

/-- THE TIED CARD OF 'laws.FnResiduals'. -/
def fnResidualsCard : Claim7 := { stood := { row := fnResidualsRow, standIns := [], harness := (true, "cab759835b247ffd616675f052e070d2583c0c598da6578e85171714fe0ebece"), looks := true }, kinds := [], alts := [], laidByText := true, laidKinds := [.handle], laidTests := true, laidLooks := .later }
def FnResidualsCardSaid : Prop := Claim7.holds Tryd.pinned (.plain (OpenSpec.ofChange fnResidualsSpec)) fnResidualsCard

/-- THE TIED CARD OF 'laws.FnShifts'. -/
def fnShiftsCard : Claim7 := { stood := { row := fnShiftsRow, standIns := [], harness := (true, "cab759835b247ffd616675f052e070d2583c0c598da6578e85171714fe0ebece"), looks := true }, kinds := [], alts := [], laidByText := true, laidKinds := [.handle], laidTests := true, laidLooks := .later }
def FnShiftsCardSaid : Prop := Claim7.holds Tryd.pinned (.plain (OpenSpec.ofChange fnShiftsSpec)) fnShiftsCard

/-- THE TIED CARD OF 'laws.FnExactFitMinima'. -/
def fnExactFitMinimaCard : Claim7 := { stood := { row := fnExactFitMinimaRow, standIns := [], harness := (true, "cab759835b247ffd616675f052e070d2583c0c598da6578e85171714fe0ebece"), looks := true }, kinds := [], alts := [], laidByText := true, laidKinds := [.handle], laidTests := true, laidLooks := .later }
def FnExactFitMinimaCardSaid : Prop := Claim7.holds Tryd.pinned (.plain (OpenSpec.ofChange fnExactFitMinimaSpec)) fnExactFitMinimaCard

/-- THE TIED CARD OF 'laws.FnExactRoundedFit'. -/
def fnExactRoundedFitCard : Claim7 := { stood := { row := fnExactRoundedFitRow, standIns := [], harness := (true, "cab759835b247ffd616675f052e070d2583c0c598da6578e85171714fe0ebece"), looks := true }, kinds := [], alts := [], laidByText := true, laidKinds := [.handle], laidTests := true, laidLooks := .later }
def FnExactRoundedFitCardSaid : Prop := Claim7.holds Tryd.pinned (.plain (OpenSpec.ofChange fnExactRoundedFitSpec)) fnExactRoundedFitCard

/-- THE TIED CARD OF 'laws.FnExactAssignCycles'. -/
def fnExactAssignCyclesCard : Claim7 := { stood := { row := fnExactAssignCyclesRow, standIns := [], harness := (true, "cab759835b247ffd616675f052e070d2583c0c598da6578e85171714fe0ebece"), looks := true }, kinds := [], alts := [], laidByText := true, laidKinds := [.handle], laidTests := true, laidLooks := .later }
def FnExactAssignCyclesCardSaid : Prop := Claim7.holds Tryd.pinned (.plain (OpenSpec.ofChange fnExactAssignCyclesSpec)) fnExactAssignCyclesCard

/-- THE SECOND FORM's CARD OF 'laws.FnFits'. -/
def fnFitsUptoCard : Claim7 := { stood := { row := fnFitsUptoRow, standIns := [], harness := (true, "cab759835b247ffd616675f052e070d2583c0c598da6578e85171714fe0ebece"), looks := true }, kinds := [], alts := [], laidByText := true, laidKinds := [.handle], laidTests := true, laidLooks := .later }
def FnFitsUptoCardSaid : Prop := Claim7.holds Tryd.pinned (.plain (OpenSpec.upto fnFitsSpec)) fnFitsUptoCard

/-- THE SECOND FORM's CARD OF 'laws.FnResiduals'. -/
def fnResidualsUptoCard : Claim7 := { stood := { row := fnResidualsUptoRow, standIns := [], harness := (true, "cab759835b247ffd616675f052e070d2583c0c598da6578e85171714fe0ebece"), looks := true }, kinds := [], alts := [], laidByText := true, laidKinds := [.handle], laidTests := true, laidLooks := .later }
def FnResidualsUptoCardSaid : Prop := Claim7.holds Tryd.pinned (.plain (OpenSpec.upto fnResidualsSpec)) fnResidualsUptoCard

/-- THE SECOND FORM's CARD OF 'laws.FnShifts'. -/
def fnShiftsUptoCard : Claim7 := { stood := { row := fnShiftsUptoRow, standIns := [], harness := (true, "cab759835b247ffd616675f052e070d2583c0c598da6578e85171714fe0ebece"), looks := true }, kinds := [], alts := [], laidByText := true, laidKinds := [.handle], laidTests := true, laidLooks := .later }
def FnShiftsUptoCardSaid : Prop := Claim7.holds Tryd.pinned (.plain (OpenSpec.upto fnShiftsSpec)) fnShiftsUptoCard

/-- THE SECOND FORM's CARD OF 'laws.FnExactFitMinima'. -/
def fnExactFitMinimaUptoCard : Claim7 := { stood := { row := fnExactFitMinimaUptoRow, standIns := [], harness := (true, "cab759835b247ffd616675f052e070d2583c0c598da6578e85171714fe0ebece"), looks := true }, kinds := [], alts := [], laidByText := true, laidKinds := [.handle], laidTests := true, laidLooks := .later }
def FnExactFitMinimaUptoCardSaid : Prop := Claim7.holds Tryd.pinned (.plain (OpenSpec.upto fnExactFitMinimaSpec)) fnExactFitMinimaUptoCard

/-- THE SECOND FORM's CARD OF 'laws.FnExactRoundedFit'. -/
def fnExactRoundedFitUptoCard : Claim7 := { stood := { row := fnExactRoundedFitUptoRow, standIns := [], harness := (true, "cab759835b247ffd616675f052e070d2583c0c598da6578e85171714fe0ebece"), looks := true }, kinds := [], alts := [], laidByText := true, laidKinds := [.handle], laidTests := true, laidLooks := .later }
def FnExactRoundedFitUptoCardSaid : Prop := Claim7.holds Tryd.pinned (.plain (OpenSpec.upto fnExactRoundedFitSpec)) fnExactRoundedFitUptoCard

/-- THE SECOND FORM's CARD OF 'laws.FnExactAssignCycles'. -/
def fnExactAssignCyclesUptoCard : Claim7 := { stood := { row := fnExactAssignCyclesUptoRow, standIns := [], harness := (true, "cab759835b247ffd616675f052e070d2583c0c598da6578e85171714fe0ebece"), looks := true }, kinds := [], alts := [], laidByText := true, laidKinds := [.handle], laidTests := true, laidLooks := .later }
def FnExactAssignCyclesUptoCardSaid : Prop := Claim7.holds Tryd.pinned (.plain (OpenSpec.upto fnExactAssignCyclesSpec)) fnExactAssignCyclesUptoCard
end Rows
end Go.Proofs.YtbjflgohahmjgaaDoor
