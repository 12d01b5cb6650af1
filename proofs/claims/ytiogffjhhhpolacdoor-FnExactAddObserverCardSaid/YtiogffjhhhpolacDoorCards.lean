/-
  DERIVED. GIVEN WITH THE SEED: THE CARDS: each row of YtiogffjhhhpolacDoorRows.lean that lists a variable, with what it lists TIED to the program's text (the seventh form; the later family's looks); each row that meets fmt, with fmt's text TOLD by the authors' own Lean function (tested against real Go, not proved from fmt's source: count such statements apart). THE CARD IS WHAT COUNTS. Prove the row's statement (the work); the ties are given (YtiogffjhhhpolacDoorTie.lean); close each card by the builder's one call (the guide's Derived/Test/ToyasCard.lean, 'card_holds'). Laid BY PROGRAM, IN A SANDBOX (cutbox-door.mjs). By AI agents, Wed Nov 11 2026. No macro, syntax, notation, axiom, sorry.
-/
import Derived.Test.YtiogffjhhhpolacDoorRows
import GoSem.ClaimSeven
namespace Go.Proofs.YtiogffjhhhpolacDoor
namespace Rows

/-- THE TIED CARD OF 'laws.FnExactAddObserver'. -/
def fnExactAddObserverCard : Claim7 := { stood := { row := fnExactAddObserverRow, standIns := [], harness := (true, "8afc60f60f4f5d7ae85146b9357646c4067cbc2f75a0579450bb18aa03e3c0d1"), looks := true }, kinds := [], alts := [], laidByText := true, laidKinds := [.sentinel], laidTests := true, laidLooks := .later }
def FnExactAddObserverCardSaid : Prop := Claim7.holds Tryd.pinned (.plain (OpenSpec.ofChange fnExactAddObserverSpec)) fnExactAddObserverCard

/-- THE TIED CARD OF 'laws.FnExactObserverNamed'. -/
def fnExactObserverNamedCard : Claim7 := { stood := { row := fnExactObserverNamedRow, standIns := [], harness := (true, "8afc60f60f4f5d7ae85146b9357646c4067cbc2f75a0579450bb18aa03e3c0d1"), looks := true }, kinds := [], alts := [], laidByText := true, laidKinds := [.sentinel], laidTests := true, laidLooks := .later }
def FnExactObserverNamedCardSaid : Prop := Claim7.holds Tryd.pinned (.plain (OpenSpec.ofChange fnExactObserverNamedSpec)) fnExactObserverNamedCard

/-- THE TIED CARD OF 'laws.FnExactCorrectMag'. -/
def fnExactCorrectMagCard : Claim7 := { stood := { row := fnExactCorrectMagRow, standIns := [], harness := (true, "8afc60f60f4f5d7ae85146b9357646c4067cbc2f75a0579450bb18aa03e3c0d1"), looks := true }, kinds := [], alts := [], laidByText := true, laidKinds := [.sentinel], laidTests := true, laidLooks := .later }
def FnExactCorrectMagCardSaid : Prop := Claim7.holds Tryd.pinned (.plain (OpenSpec.ofChange fnExactCorrectMagSpec)) fnExactCorrectMagCard

/-- THE SECOND FORM's CARD OF 'laws.FnExactAddObserver'. -/
def fnExactAddObserverUptoCard : Claim7 := { stood := { row := fnExactAddObserverUptoRow, standIns := [], harness := (true, "8afc60f60f4f5d7ae85146b9357646c4067cbc2f75a0579450bb18aa03e3c0d1"), looks := true }, kinds := [], alts := [], laidByText := true, laidKinds := [.sentinel], laidTests := true, laidLooks := .later }
def FnExactAddObserverUptoCardSaid : Prop := Claim7.holds Tryd.pinned (.plain (OpenSpec.upto fnExactAddObserverSpec)) fnExactAddObserverUptoCard

/-- THE SECOND FORM's CARD OF 'laws.FnExactObserverNamed'. -/
def fnExactObserverNamedUptoCard : Claim7 := { stood := { row := fnExactObserverNamedUptoRow, standIns := [], harness := (true, "8afc60f60f4f5d7ae85146b9357646c4067cbc2f75a0579450bb18aa03e3c0d1"), looks := true }, kinds := [], alts := [], laidByText := true, laidKinds := [.sentinel], laidTests := true, laidLooks := .later }
def FnExactObserverNamedUptoCardSaid : Prop := Claim7.holds Tryd.pinned (.plain (OpenSpec.upto fnExactObserverNamedSpec)) fnExactObserverNamedUptoCard

/-- THE SECOND FORM's CARD OF 'laws.FnExactCorrectMag'. -/
def fnExactCorrectMagUptoCard : Claim7 := { stood := { row := fnExactCorrectMagUptoRow, standIns := [], harness := (true, "8afc60f60f4f5d7ae85146b9357646c4067cbc2f75a0579450bb18aa03e3c0d1"), looks := true }, kinds := [], alts := [], laidByText := true, laidKinds := [.sentinel], laidTests := true, laidLooks := .later }
def FnExactCorrectMagUptoCardSaid : Prop := Claim7.holds Tryd.pinned (.plain (OpenSpec.upto fnExactCorrectMagSpec)) fnExactCorrectMagUptoCard
end Rows
end Go.Proofs.YtiogffjhhhpolacDoor
