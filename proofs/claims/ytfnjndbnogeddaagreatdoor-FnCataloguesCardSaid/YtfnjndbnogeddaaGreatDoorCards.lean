/-
  DERIVED. GIVEN WITH THE SEED: THE CARDS: each row of YtfnjndbnogeddaaGreatDoorRows.lean that lists a variable, with what it lists TIED to the program's text (the seventh form; the later family's looks); each row that meets fmt, with fmt's text TOLD by the authors' own Lean function (tested against real Go, not proved from fmt's source: count such statements apart). THE CARD IS WHAT COUNTS. Prove the row's statement (the work); the ties are given (YtfnjndbnogeddaaGreatDoorTie.lean); close each card by the builder's one call (the guide's Derived/Test/ToyasCard.lean, 'card_holds'). Laid BY PROGRAM, IN A SANDBOX (cutbox-door.mjs). By AI agents, Wed Nov 11 2026. No macro, syntax, notation, axiom, sorry.
-/
import Derived.Test.YtfnjndbnogeddaaGreatDoorRows
import GoSem.ClaimSeven
namespace Go.Proofs.YtfnjndbnogeddaaGreatDoor
namespace Rows

/-- THE TIED CARD OF 'laws.FnCatalogues'. -/
def fnCataloguesCard : Claim7 := { stood := { row := fnCataloguesRow, standIns := [], harness := (true, "6299daf36ed02022f81438a9c194420cff9cc2e98232e2e2954f9820469127c9"), looks := true }, kinds := [], alts := [], laidByText := true, laidKinds := [.data, .data, .data, .sentinel], laidTests := true, laidLooks := .later }
def FnCataloguesCardSaid : Prop := Claim7.holds Tryz.pinned (.plain (OpenSpec.ofChange fnCataloguesSpec)) fnCataloguesCard

/-- THE TIED CARD OF 'laws.FnMags'. -/
def fnMagsCard : Claim7 := { stood := { row := fnMagsRow, standIns := [], harness := (true, "6299daf36ed02022f81438a9c194420cff9cc2e98232e2e2954f9820469127c9"), looks := true }, kinds := [], alts := [], laidByText := true, laidKinds := [.data, .data, .data, .data, .sentinel, .sentinel, .pinned], laidTests := true, laidLooks := .later }
def FnMagsCardSaid : Prop := Claim7.holds Tryz.pinned (.plain (OpenSpec.ofChange fnMagsSpec)) fnMagsCard

/-- THE SECOND FORM's CARD OF 'laws.FnCatalogues'. -/
def fnCataloguesUptoCard : Claim7 := { stood := { row := fnCataloguesUptoRow, standIns := [], harness := (true, "6299daf36ed02022f81438a9c194420cff9cc2e98232e2e2954f9820469127c9"), looks := true }, kinds := [], alts := [], laidByText := true, laidKinds := [.data, .data, .data, .sentinel], laidTests := true, laidLooks := .later }
def FnCataloguesUptoCardSaid : Prop := Claim7.holds Tryz.pinned (.plain (OpenSpec.upto fnCataloguesSpec)) fnCataloguesUptoCard

/-- THE SECOND FORM's CARD OF 'laws.FnMags'. -/
def fnMagsUptoCard : Claim7 := { stood := { row := fnMagsUptoRow, standIns := [], harness := (true, "6299daf36ed02022f81438a9c194420cff9cc2e98232e2e2954f9820469127c9"), looks := true }, kinds := [], alts := [], laidByText := true, laidKinds := [.data, .data, .data, .data, .sentinel, .sentinel, .pinned], laidTests := true, laidLooks := .later }
def FnMagsUptoCardSaid : Prop := Claim7.holds Tryz.pinned (.plain (OpenSpec.upto fnMagsSpec)) fnMagsUptoCard
end Rows
end Go.Proofs.YtfnjndbnogeddaaGreatDoor
