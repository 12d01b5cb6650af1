/-
  DERIVED. GIVEN WITH THE SEED: THE CARDS: each row of YtfebellnmdfpiaaDoorRows.lean that lists a variable, with what it lists TIED to the program's text (the seventh form; the later family's looks); each row that meets fmt, with fmt's text TOLD by the authors' own Lean function (tested against real Go, not proved from fmt's source: count such statements apart). THE CARD IS WHAT COUNTS. Prove the row's statement (the work); the ties are given (YtfebellnmdfpiaaDoorTie.lean); close each card by the builder's one call (the guide's Derived/Test/ToyasCard.lean, 'card_holds'). Laid BY PROGRAM, IN A SANDBOX (cutbox-door.mjs). By AI agents, Wed Nov 11 2026. No macro, syntax, notation, axiom, sorry.
-/
import Derived.Test.YtfebellnmdfpiaaDoorRows
import GoSem.ClaimSeven
namespace Go.Proofs.YtfebellnmdfpiaaDoor
namespace Rows

/-- THE TIED CARD OF 'laws.FnExactValidDate'. -/
def fnExactValidDateCard : Claim7 := { stood := { row := fnExactValidDateRow, standIns := [], harness := (true, "601a4e52f9ba9bc898a739eddae05c399f9ca8634f05794f3e39fd3f18ba94c8"), looks := false }, kinds := [], alts := [], laidByText := true, laidKinds := [.data], laidTests := true, laidLooks := .later }
def FnExactValidDateCardSaid : Prop := Claim7.holds Tryd.pinned (.plain (OpenSpec.ofChange fnExactValidDateSpec)) fnExactValidDateCard

/-- THE TIED CARD OF 'laws.FnExactDateOf'. -/
def fnExactDateOfCard : Claim7 := { stood := { row := fnExactDateOfRow, standIns := [], harness := (true, "601a4e52f9ba9bc898a739eddae05c399f9ca8634f05794f3e39fd3f18ba94c8"), looks := false }, kinds := [], alts := [], laidByText := true, laidKinds := [.data], laidTests := true, laidLooks := .later }
def FnExactDateOfCardSaid : Prop := Claim7.holds Tryd.pinned (.plain (OpenSpec.ofChange fnExactDateOfSpec)) fnExactDateOfCard

/-- THE TIED CARD OF 'laws.FnExactDayNumber'. -/
def fnExactDayNumberCard : Claim7 := { stood := { row := fnExactDayNumberRow, standIns := [], harness := (true, "601a4e52f9ba9bc898a739eddae05c399f9ca8634f05794f3e39fd3f18ba94c8"), looks := false }, kinds := [], alts := [], laidByText := true, laidKinds := [.data], laidTests := true, laidLooks := .later }
def FnExactDayNumberCardSaid : Prop := Claim7.holds Tryd.pinned (.plain (OpenSpec.ofChange fnExactDayNumberSpec)) fnExactDayNumberCard

/-- THE SECOND FORM's CARD OF 'laws.FnExactValidDate'. -/
def fnExactValidDateUptoCard : Claim7 := { stood := { row := fnExactValidDateUptoRow, standIns := [], harness := (true, "601a4e52f9ba9bc898a739eddae05c399f9ca8634f05794f3e39fd3f18ba94c8"), looks := false }, kinds := [], alts := [], laidByText := true, laidKinds := [.data], laidTests := true, laidLooks := .later }
def FnExactValidDateUptoCardSaid : Prop := Claim7.holds Tryd.pinned (.plain (OpenSpec.upto fnExactValidDateSpec)) fnExactValidDateUptoCard

/-- THE SECOND FORM's CARD OF 'laws.FnExactDateOf'. -/
def fnExactDateOfUptoCard : Claim7 := { stood := { row := fnExactDateOfUptoRow, standIns := [], harness := (true, "601a4e52f9ba9bc898a739eddae05c399f9ca8634f05794f3e39fd3f18ba94c8"), looks := false }, kinds := [], alts := [], laidByText := true, laidKinds := [.data], laidTests := true, laidLooks := .later }
def FnExactDateOfUptoCardSaid : Prop := Claim7.holds Tryd.pinned (.plain (OpenSpec.upto fnExactDateOfSpec)) fnExactDateOfUptoCard

/-- THE SECOND FORM's CARD OF 'laws.FnExactDayNumber'. -/
def fnExactDayNumberUptoCard : Claim7 := { stood := { row := fnExactDayNumberUptoRow, standIns := [], harness := (true, "601a4e52f9ba9bc898a739eddae05c399f9ca8634f05794f3e39fd3f18ba94c8"), looks := false }, kinds := [], alts := [], laidByText := true, laidKinds := [.data], laidTests := true, laidLooks := .later }
def FnExactDayNumberUptoCardSaid : Prop := Claim7.holds Tryd.pinned (.plain (OpenSpec.upto fnExactDayNumberSpec)) fnExactDayNumberUptoCard
end Rows
end Go.Proofs.YtfebellnmdfpiaaDoor
