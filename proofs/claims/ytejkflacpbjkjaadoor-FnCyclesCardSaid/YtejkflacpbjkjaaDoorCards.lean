/-
  DERIVED. GIVEN WITH THE SEED: THE CARDS: each row of YtejkflacpbjkjaaDoorRows.lean that lists a variable, with what it lists TIED to the program's text (the seventh form; the later family's looks); each row that meets fmt, with fmt's text TOLD by the authors' own Lean function (tested against real Go, not proved from fmt's source: count such statements apart). THE CARD IS WHAT COUNTS. Prove the row's statement (the work); the ties are given (YtejkflacpbjkjaaDoorTie.lean); close each card by the builder's one call (the guide's Derived/Test/ToyasCard.lean, 'card_holds'). Laid BY PROGRAM, IN A SANDBOX (cutbox-door.mjs). By AI agents, Wed Nov 11 2026. No macro, syntax, notation, axiom, sorry.
-/
import Derived.Test.YtejkflacpbjkjaaDoorRows
import GoSem.ClaimSeven
namespace Go.Proofs.YtejkflacpbjkjaaDoor
namespace Rows

/-- THE TIED CARD OF 'laws.FnCycles'. -/
def fnCyclesCard : Claim7 := { stood := { row := fnCyclesRow, standIns := [], harness := (true, "306ab3dd078919bf628644f4c755f0bb4b0ceef4070654d937bbfc6042f34d71"), looks := false }, kinds := [], alts := [], laidByText := true, laidKinds := [.data, .data, .data], laidTests := true, laidLooks := .later }
def FnCyclesCardSaid : Prop := Claim7.holds Tryd.pinned (.plain (OpenSpec.ofChange fnCyclesSpec)) fnCyclesCard

/-- THE TIED CARD OF 'laws.FnExactPhaseText'. -/
def fnExactPhaseTextCard : Claim7 := { stood := { row := fnExactPhaseTextRow, standIns := [], harness := (true, "306ab3dd078919bf628644f4c755f0bb4b0ceef4070654d937bbfc6042f34d71"), looks := false }, kinds := [], alts := [], laidByText := true, laidKinds := [.data, .data, .data], laidTests := true, laidLooks := .later }
def FnExactPhaseTextCardSaid : Prop := Claim7.holds Tryd.pinned (.plain (OpenSpec.ofChange fnExactPhaseTextSpec)) fnExactPhaseTextCard

/-- THE SECOND FORM's CARD OF 'laws.FnCycles'. -/
def fnCyclesUptoCard : Claim7 := { stood := { row := fnCyclesUptoRow, standIns := [], harness := (true, "306ab3dd078919bf628644f4c755f0bb4b0ceef4070654d937bbfc6042f34d71"), looks := false }, kinds := [], alts := [], laidByText := true, laidKinds := [.data, .data, .data], laidTests := true, laidLooks := .later }
def FnCyclesUptoCardSaid : Prop := Claim7.holds Tryd.pinned (.plain (OpenSpec.upto fnCyclesSpec)) fnCyclesUptoCard

/-- THE SECOND FORM's CARD OF 'laws.FnExactPhaseText'. -/
def fnExactPhaseTextUptoCard : Claim7 := { stood := { row := fnExactPhaseTextUptoRow, standIns := [], harness := (true, "306ab3dd078919bf628644f4c755f0bb4b0ceef4070654d937bbfc6042f34d71"), looks := false }, kinds := [], alts := [], laidByText := true, laidKinds := [.data, .data, .data], laidTests := true, laidLooks := .later }
def FnExactPhaseTextUptoCardSaid : Prop := Claim7.holds Tryd.pinned (.plain (OpenSpec.upto fnExactPhaseTextSpec)) fnExactPhaseTextUptoCard
end Rows
end Go.Proofs.YtejkflacpbjkjaaDoor
