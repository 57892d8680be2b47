/-
  DERIVED. GIVEN WITH THE SEED: THE CARDS: each row of YteefniagebcagaaGreatDoorRows.lean that lists a variable, with what it lists TIED to the program's text (the seventh form; the later family's looks); each row that meets fmt, with fmt's text TOLD by the authors' own Lean function (tested against real Go, not proved from fmt's source: count such statements apart). THE CARD IS WHAT COUNTS. Prove the row's statement (the work); the ties are given (YteefniagebcagaaGreatDoorTie.lean); close each card by the builder's one call (the guide's Derived/Test/ToyasCard.lean, 'card_holds'). Laid BY PROGRAM, IN A SANDBOX (cutbox-door.mjs). By AI agents, Wed Nov 11 2026. No macro, syntax, notation, axiom, sorry.
-/
import Derived.Test.YteefniagebcagaaGreatDoorRows
import GoSem.ClaimSeven
namespace Go.Proofs.YteefniagebcagaaGreatDoor
namespace Rows

/-- THE TIED CARD OF 'suretylaw03.LinearReckons'. -/
def linearReckonsCard : Claim7 := { stood := { row := linearReckonsRow, standIns := [], harness := (true, "0a3bf52a56732cf515a24ed0ffb6ee84a75e3ed0eb547decbf6804346e374746"), looks := false }, kinds := [], alts := [], laidByText := true, laidKinds := [.data, .data, .data], laidTests := true, laidLooks := .later }
def LinearReckonsCardSaid : Prop := Claim7.holds Tryz.pinned (.plain (OpenSpec.ofChange linearReckonsSpec)) linearReckonsCard

/-- THE TIED CARD OF 'suretylaw03.LinearTells'. -/
def linearTellsCard : Claim7 := { stood := { row := linearTellsRow, standIns := [], harness := (true, "0a3bf52a56732cf515a24ed0ffb6ee84a75e3ed0eb547decbf6804346e374746"), looks := false }, kinds := [], alts := [], laidByText := true, laidKinds := [.data, .data, .data], laidTests := true, laidLooks := .later }
def LinearTellsCardSaid : Prop := Claim7.holds Tryz.pinned (.plain (OpenSpec.ofChange linearTellsSpec)) linearTellsCard

/-- THE TIED CARD OF 'suretylaw03.LinearValues'. -/
def linearValuesCard : Claim7 := { stood := { row := linearValuesRow, standIns := [], harness := (true, "0a3bf52a56732cf515a24ed0ffb6ee84a75e3ed0eb547decbf6804346e374746"), looks := false }, kinds := [], alts := [], laidByText := true, laidKinds := [.data, .data, .data], laidTests := true, laidLooks := .later }
def LinearValuesCardSaid : Prop := Claim7.holds Tryz.pinned (.plain (OpenSpec.ofChange linearValuesSpec)) linearValuesCard

/-- THE TIED CARD OF 'suretylaw03.LinearRows'. -/
def linearRowsCard : Claim7 := { stood := { row := linearRowsRow, standIns := [], harness := (true, "0a3bf52a56732cf515a24ed0ffb6ee84a75e3ed0eb547decbf6804346e374746"), looks := false }, kinds := [], alts := [], laidByText := true, laidKinds := [.data, .data, .data], laidTests := true, laidLooks := .later }
def LinearRowsCardSaid : Prop := Claim7.holds Tryz.pinned (.plain (OpenSpec.ofChange linearRowsSpec)) linearRowsCard

/-- THE TIED CARD OF 'suretylaw03.LinearHolds'. -/
def linearHoldsCard : Claim7 := { stood := { row := linearHoldsRow, standIns := [], harness := (true, "0a3bf52a56732cf515a24ed0ffb6ee84a75e3ed0eb547decbf6804346e374746"), looks := false }, kinds := [], alts := [], laidByText := true, laidKinds := [.data, .data, .data], laidTests := true, laidLooks := .later }
def LinearHoldsCardSaid : Prop := Claim7.holds Tryz.pinned (.plain (OpenSpec.ofChange linearHoldsSpec)) linearHoldsCard

/-- THE TIED CARD OF 'suretylaw03.LinearThrough'. -/
def linearThroughCard : Claim7 := { stood := { row := linearThroughRow, standIns := [], harness := (true, "0a3bf52a56732cf515a24ed0ffb6ee84a75e3ed0eb547decbf6804346e374746"), looks := false }, kinds := [], alts := [], laidByText := true, laidKinds := [.data, .data, .data], laidTests := true, laidLooks := .later }
def LinearThroughCardSaid : Prop := Claim7.holds Tryz.pinned (.plain (OpenSpec.ofChange linearThroughSpec)) linearThroughCard

/-- THE SECOND FORM's CARD OF 'suretylaw03.LinearReckons'. -/
def linearReckonsUptoCard : Claim7 := { stood := { row := linearReckonsUptoRow, standIns := [], harness := (true, "0a3bf52a56732cf515a24ed0ffb6ee84a75e3ed0eb547decbf6804346e374746"), looks := false }, kinds := [], alts := [], laidByText := true, laidKinds := [.data, .data, .data], laidTests := true, laidLooks := .later }
def LinearReckonsUptoCardSaid : Prop := Claim7.holds Tryz.pinned (.plain (OpenSpec.upto linearReckonsSpec)) linearReckonsUptoCard

/-- THE SECOND FORM's CARD OF 'suretylaw03.LinearTells'. -/
def linearTellsUptoCard : Claim7 := { stood := { row := linearTellsUptoRow, standIns := [], harness := (true, "0a3bf52a56732cf515a24ed0ffb6ee84a75e3ed0eb547decbf6804346e374746"), looks := false }, kinds := [], alts := [], laidByText := true, laidKinds := [.data, .data, .data], laidTests := true, laidLooks := .later }
def LinearTellsUptoCardSaid : Prop := Claim7.holds Tryz.pinned (.plain (OpenSpec.upto linearTellsSpec)) linearTellsUptoCard

/-- THE SECOND FORM's CARD OF 'suretylaw03.LinearValues'. -/
def linearValuesUptoCard : Claim7 := { stood := { row := linearValuesUptoRow, standIns := [], harness := (true, "0a3bf52a56732cf515a24ed0ffb6ee84a75e3ed0eb547decbf6804346e374746"), looks := false }, kinds := [], alts := [], laidByText := true, laidKinds := [.data, .data, .data], laidTests := true, laidLooks := .later }
def LinearValuesUptoCardSaid : Prop := Claim7.holds Tryz.pinned (.plain (OpenSpec.upto linearValuesSpec)) linearValuesUptoCard

/-- THE SECOND FORM's CARD OF 'suretylaw03.LinearRows'. -/
def linearRowsUptoCard : Claim7 := { stood := { row := linearRowsUptoRow, standIns := [], harness := (true, "0a3bf52a56732cf515a24ed0ffb6ee84a75e3ed0eb547decbf6804346e374746"), looks := false }, kinds := [], alts := [], laidByText := true, laidKinds := [.data, .data, .data], laidTests := true, laidLooks := .later }
def LinearRowsUptoCardSaid : Prop := Claim7.holds Tryz.pinned (.plain (OpenSpec.upto linearRowsSpec)) linearRowsUptoCard

/-- THE SECOND FORM's CARD OF 'suretylaw03.LinearHolds'. -/
def linearHoldsUptoCard : Claim7 := { stood := { row := linearHoldsUptoRow, standIns := [], harness := (true, "0a3bf52a56732cf515a24ed0ffb6ee84a75e3ed0eb547decbf6804346e374746"), looks := false }, kinds := [], alts := [], laidByText := true, laidKinds := [.data, .data, .data], laidTests := true, laidLooks := .later }
def LinearHoldsUptoCardSaid : Prop := Claim7.holds Tryz.pinned (.plain (OpenSpec.upto linearHoldsSpec)) linearHoldsUptoCard

/-- THE SECOND FORM's CARD OF 'suretylaw03.LinearThrough'. -/
def linearThroughUptoCard : Claim7 := { stood := { row := linearThroughUptoRow, standIns := [], harness := (true, "0a3bf52a56732cf515a24ed0ffb6ee84a75e3ed0eb547decbf6804346e374746"), looks := false }, kinds := [], alts := [], laidByText := true, laidKinds := [.data, .data, .data], laidTests := true, laidLooks := .later }
def LinearThroughUptoCardSaid : Prop := Claim7.holds Tryz.pinned (.plain (OpenSpec.upto linearThroughSpec)) linearThroughUptoCard
end Rows
end Go.Proofs.YteefniagebcagaaGreatDoor
