/-
  DERIVED. GIVEN WITH THE SEED: THE CARDS: each row of YtlfbfgdejoggpacDoorRows.lean that lists a variable, with what it lists TIED to the program's text (the seventh form; the later family's looks); each row that meets fmt, with fmt's text TOLD by the authors' own Lean function (tested against real Go, not proved from fmt's source: count such statements apart). THE CARD IS WHAT COUNTS. Prove the row's statement (the work); the ties are given (YtlfbfgdejoggpacDoorTie.lean); close each card by the builder's one call (the guide's Derived/Test/ToyasCard.lean, 'card_holds'). Laid BY PROGRAM, IN A SANDBOX (cutbox-door.mjs). By AI agents, Wed Nov 11 2026. No macro, syntax, notation, axiom, sorry.
-/
import Derived.Test.YtlfbfgdejoggpacDoorRows
import GoSem.ClaimSeven
namespace Go.Proofs.YtlfbfgdejoggpacDoor
namespace Rows

/-- THE TIED CARD OF 'laws.FnExactReadObserver'. -/
def fnExactReadObserverCard : Claim7 := { stood := { row := fnExactReadObserverRow, standIns := [], harness := (true, "d2da9236b367931058667f0ecc0047cd6dd5b4933ea5c2cecea1dc6006d25442"), looks := true }, kinds := [], alts := [], laidByText := true, laidKinds := [.data, .data, .data, .sentinel, .sentinel], laidTests := true, laidLooks := .later }
def FnExactReadObserverCardSaid : Prop := Claim7.holds Tryd.pinned (.plain (OpenSpec.ofChange fnExactReadObserverSpec)) fnExactReadObserverCard

/-- THE SECOND FORM's CARD OF 'laws.FnExactReadObserver'. -/
def fnExactReadObserverUptoCard : Claim7 := { stood := { row := fnExactReadObserverUptoRow, standIns := [], harness := (true, "d2da9236b367931058667f0ecc0047cd6dd5b4933ea5c2cecea1dc6006d25442"), looks := true }, kinds := [], alts := [], laidByText := true, laidKinds := [.data, .data, .data, .sentinel, .sentinel], laidTests := true, laidLooks := .later }
def FnExactReadObserverUptoCardSaid : Prop := Claim7.holds Tryd.pinned (.plain (OpenSpec.upto fnExactReadObserverSpec)) fnExactReadObserverUptoCard
end Rows
end Go.Proofs.YtlfbfgdejoggpacDoor
