/-
  DERIVED. GIVEN WITH THE SEED: THE CARDS: each row of YteefniagebcagabGreatDoorRows.lean that lists a variable, with what it lists TIED to the program's text (the seventh form; the later family's looks); each row that meets fmt, with fmt's text TOLD by the authors' own Lean function (tested against real Go, not proved from fmt's source: count such statements apart). THE CARD IS WHAT COUNTS. Prove the row's statement (the work); the ties are given (YteefniagebcagabGreatDoorTie.lean); close each card by the builder's one call (the guide's Derived/Test/ToyasCard.lean, 'card_holds'). Laid BY PROGRAM, IN A SANDBOX (cutbox-door.mjs). By AI agents, Wed Nov 11 2026. No macro, syntax, notation, axiom, sorry.
-/
import Derived.Test.YteefniagebcagabGreatDoorRows
import GoSem.ClaimSeven
namespace Go.Proofs.YteefniagebcagabGreatDoor
namespace Rows

/-- THE TIED CARD OF 'suretylaw03.LinearAtMost'. -/
def linearAtMostCard : Claim7 := { stood := { row := linearAtMostRow, standIns := [], harness := (true, "e9bcb8016addddc647c6c7a7e308c05bcdd7fb008e1d295d29f85d4c029f481f"), looks := false }, kinds := [], alts := [], laidByText := true, laidKinds := [.data, .data, .data], laidTests := true, laidLooks := .later }
def LinearAtMostCardSaid : Prop := Claim7.holds Tryz.pinned (.plain (OpenSpec.ofChange linearAtMostSpec)) linearAtMostCard

/-- THE TIED CARD OF 'suretylaw03.LinearBack'. -/
def linearBackCard : Claim7 := { stood := { row := linearBackRow, standIns := [], harness := (true, "e9bcb8016addddc647c6c7a7e308c05bcdd7fb008e1d295d29f85d4c029f481f"), looks := false }, kinds := [], alts := [], laidByText := true, laidKinds := [.data, .data, .data], laidTests := true, laidLooks := .later }
def LinearBackCardSaid : Prop := Claim7.holds Tryz.pinned (.plain (OpenSpec.ofChange linearBackSpec)) linearBackCard

/-- THE TIED CARD OF 'suretylaw03.LinearCancels'. -/
def linearCancelsCard : Claim7 := { stood := { row := linearCancelsRow, standIns := [], harness := (true, "e9bcb8016addddc647c6c7a7e308c05bcdd7fb008e1d295d29f85d4c029f481f"), looks := false }, kinds := [], alts := [], laidByText := true, laidKinds := [.data, .data, .data], laidTests := true, laidLooks := .later }
def LinearCancelsCardSaid : Prop := Claim7.holds Tryz.pinned (.plain (OpenSpec.ofChange linearCancelsSpec)) linearCancelsCard

/-- THE TIED CARD OF 'suretylaw03.LinearTights'. -/
def linearTightsCard : Claim7 := { stood := { row := linearTightsRow, standIns := [], harness := (true, "e9bcb8016addddc647c6c7a7e308c05bcdd7fb008e1d295d29f85d4c029f481f"), looks := false }, kinds := [], alts := [], laidByText := true, laidKinds := [.data, .data, .data], laidTests := true, laidLooks := .later }
def LinearTightsCardSaid : Prop := Claim7.holds Tryz.pinned (.plain (OpenSpec.ofChange linearTightsSpec)) linearTightsCard

/-- THE SECOND FORM's CARD OF 'suretylaw03.LinearAtMost'. -/
def linearAtMostUptoCard : Claim7 := { stood := { row := linearAtMostUptoRow, standIns := [], harness := (true, "e9bcb8016addddc647c6c7a7e308c05bcdd7fb008e1d295d29f85d4c029f481f"), looks := false }, kinds := [], alts := [], laidByText := true, laidKinds := [.data, .data, .data], laidTests := true, laidLooks := .later }
def LinearAtMostUptoCardSaid : Prop := Claim7.holds Tryz.pinned (.plain (OpenSpec.upto linearAtMostSpec)) linearAtMostUptoCard

/-- THE SECOND FORM's CARD OF 'suretylaw03.LinearBack'. -/
def linearBackUptoCard : Claim7 := { stood := { row := linearBackUptoRow, standIns := [], harness := (true, "e9bcb8016addddc647c6c7a7e308c05bcdd7fb008e1d295d29f85d4c029f481f"), looks := false }, kinds := [], alts := [], laidByText := true, laidKinds := [.data, .data, .data], laidTests := true, laidLooks := .later }
def LinearBackUptoCardSaid : Prop := Claim7.holds Tryz.pinned (.plain (OpenSpec.upto linearBackSpec)) linearBackUptoCard

/-- THE SECOND FORM's CARD OF 'suretylaw03.LinearCancels'. -/
def linearCancelsUptoCard : Claim7 := { stood := { row := linearCancelsUptoRow, standIns := [], harness := (true, "e9bcb8016addddc647c6c7a7e308c05bcdd7fb008e1d295d29f85d4c029f481f"), looks := false }, kinds := [], alts := [], laidByText := true, laidKinds := [.data, .data, .data], laidTests := true, laidLooks := .later }
def LinearCancelsUptoCardSaid : Prop := Claim7.holds Tryz.pinned (.plain (OpenSpec.upto linearCancelsSpec)) linearCancelsUptoCard

/-- THE SECOND FORM's CARD OF 'suretylaw03.LinearTights'. -/
def linearTightsUptoCard : Claim7 := { stood := { row := linearTightsUptoRow, standIns := [], harness := (true, "e9bcb8016addddc647c6c7a7e308c05bcdd7fb008e1d295d29f85d4c029f481f"), looks := false }, kinds := [], alts := [], laidByText := true, laidKinds := [.data, .data, .data], laidTests := true, laidLooks := .later }
def LinearTightsUptoCardSaid : Prop := Claim7.holds Tryz.pinned (.plain (OpenSpec.upto linearTightsSpec)) linearTightsUptoCard
end Rows
end Go.Proofs.YteefniagebcagabGreatDoor
