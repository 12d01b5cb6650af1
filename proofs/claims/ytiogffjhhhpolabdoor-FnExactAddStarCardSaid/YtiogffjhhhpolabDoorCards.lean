/-
  DERIVED. GIVEN WITH THE SEED: THE CARDS: each row of YtiogffjhhhpolabDoorRows.lean that lists a variable, with what it lists TIED to the program's text (the seventh form; the later family's looks); each row that meets fmt, with fmt's text TOLD by the authors' own Lean function (tested against real Go, not proved from fmt's source: count such statements apart). THE CARD IS WHAT COUNTS. Prove the row's statement (the work); the ties are given (YtiogffjhhhpolabDoorTie.lean); close each card by the builder's one call (the guide's Derived/Test/ToyasCard.lean, 'card_holds'). Laid BY PROGRAM, IN A SANDBOX (cutbox-door.mjs). By AI agents, Wed Nov 11 2026. No macro, syntax, notation, axiom, sorry.
-/
import Derived.Test.YtiogffjhhhpolabDoorRows
import GoSem.ClaimSeven
namespace Go.Proofs.YtiogffjhhhpolabDoor
namespace Rows

/-- THE TIED CARD OF 'laws.FnExactAddStar'. -/
def fnExactAddStarCard : Claim7 := { stood := { row := fnExactAddStarRow, standIns := [], harness := (true, "4697f92d47e13fe2a27f51ffa73b1913c6ea9cf202b30205a3c979c62e643e8c"), looks := true }, kinds := [], alts := [], laidByText := true, laidKinds := [.sentinel], laidTests := true, laidLooks := .later }
def FnExactAddStarCardSaid : Prop := Claim7.holds Tryd.pinned (.plain (OpenSpec.ofChange fnExactAddStarSpec)) fnExactAddStarCard

/-- THE TIED CARD OF 'laws.FnExactStarNamed'. -/
def fnExactStarNamedCard : Claim7 := { stood := { row := fnExactStarNamedRow, standIns := [], harness := (true, "4697f92d47e13fe2a27f51ffa73b1913c6ea9cf202b30205a3c979c62e643e8c"), looks := true }, kinds := [], alts := [], laidByText := true, laidKinds := [.sentinel], laidTests := true, laidLooks := .later }
def FnExactStarNamedCardSaid : Prop := Claim7.holds Tryd.pinned (.plain (OpenSpec.ofChange fnExactStarNamedSpec)) fnExactStarNamedCard

/-- THE SECOND FORM's CARD OF 'laws.FnExactAddStar'. -/
def fnExactAddStarUptoCard : Claim7 := { stood := { row := fnExactAddStarUptoRow, standIns := [], harness := (true, "4697f92d47e13fe2a27f51ffa73b1913c6ea9cf202b30205a3c979c62e643e8c"), looks := true }, kinds := [], alts := [], laidByText := true, laidKinds := [.sentinel], laidTests := true, laidLooks := .later }
def FnExactAddStarUptoCardSaid : Prop := Claim7.holds Tryd.pinned (.plain (OpenSpec.upto fnExactAddStarSpec)) fnExactAddStarUptoCard

/-- THE SECOND FORM's CARD OF 'laws.FnExactStarNamed'. -/
def fnExactStarNamedUptoCard : Claim7 := { stood := { row := fnExactStarNamedUptoRow, standIns := [], harness := (true, "4697f92d47e13fe2a27f51ffa73b1913c6ea9cf202b30205a3c979c62e643e8c"), looks := true }, kinds := [], alts := [], laidByText := true, laidKinds := [.sentinel], laidTests := true, laidLooks := .later }
def FnExactStarNamedUptoCardSaid : Prop := Claim7.holds Tryd.pinned (.plain (OpenSpec.upto fnExactStarNamedSpec)) fnExactStarNamedUptoCard
end Rows
end Go.Proofs.YtiogffjhhhpolabDoor
