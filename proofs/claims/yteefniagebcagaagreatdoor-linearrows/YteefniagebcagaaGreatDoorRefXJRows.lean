/- Contracts of suretyref03 in the form that the laws' walks use; they prove no statement of the seat. -/
import Derived.Test.YteefniagebcagaaGreatDoorRefSJRows
import Derived.Test.YteefniagebcagaaGreatDoorLinHxJRows
import Derived.Test.YteefniagebcagaaGreatDoorShowsJRows
namespace Go.Proofs.YteefniagebcagaaGreatDoor
open Go.RowKit
set_option linter.unusedVariables false

theorem rshow_h (v : Value) (z : Int) (L : Nat) (w : World) (hv : RNum w v z L) (hL : L ≤ 20000) :
    Calls Tryz.prog 32 #[v] w fun e w' => e = .returned (.string (nT z)) ∧ Below w.heap.size w w' := by
  refine (show_a v z L w hv hL).mono ?_
  rintro e w' ⟨S, rfl, h, hb⟩
  rw [h.nT]
  exact ⟨rfl, hb⟩
end Go.Proofs.YteefniagebcagaaGreatDoor
