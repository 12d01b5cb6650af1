/-
  DERIVED. GIVEN WITH THE SEED: THE CARDS: each row of YtlfbfgdejoggpabDoorRows.lean that lists a variable, with what it lists TIED to the program's text (the seventh form; the later family's looks); each row that meets fmt, with fmt's text TOLD by the authors' own Lean function (tested against real Go, not proved from fmt's source: count such statements apart). THE CARD IS WHAT COUNTS. Prove the row's statement (the work); the ties are given (YtlfbfgdejoggpabDoorTie.lean); close each card by the builder's one call (the guide's Derived/Test/ToyasCard.lean, 'card_holds'). Laid BY PROGRAM, IN A SANDBOX (cutbox-door.mjs). By AI agents, Wed Nov 11 2026. No macro, syntax, notation, axiom, sorry.
-/
import Derived.Test.YtlfbfgdejoggpabDoorRows
import GoSem.ClaimSeven
namespace Go.Proofs.YtlfbfgdejoggpabDoor
namespace Rows

/-- THE TIED CARD OF 'laws.FnExactObserverText'. -/
def fnExactObserverTextCard : Claim7 := { stood := { row := fnExactObserverTextRow, standIns := [], harness := (true, "cb22ecb42268a2dae1591a2064a4c823e098bbed11e6405803fa09d173928419"), looks := false }, kinds := [], alts := [], laidByText := true, laidKinds := [.data, .data, .data], laidTests := true, laidLooks := .later }
def FnExactObserverTextCardSaid : Prop := Claim7.holds Tryd.pinned (.plain (OpenSpec.ofChange fnExactObserverTextSpec)) fnExactObserverTextCard

/-- THE SECOND FORM's CARD OF 'laws.FnExactObserverText'. -/
def fnExactObserverTextUptoCard : Claim7 := { stood := { row := fnExactObserverTextUptoRow, standIns := [], harness := (true, "cb22ecb42268a2dae1591a2064a4c823e098bbed11e6405803fa09d173928419"), looks := false }, kinds := [], alts := [], laidByText := true, laidKinds := [.data, .data, .data], laidTests := true, laidLooks := .later }
def FnExactObserverTextUptoCardSaid : Prop := Claim7.holds Tryd.pinned (.plain (OpenSpec.upto fnExactObserverTextSpec)) fnExactObserverTextUptoCard
end Rows
end Go.Proofs.YtlfbfgdejoggpabDoor
