/- suretyref01.Show by its number's value; it proves no statement of the seat. -/
import Derived.Test.YteefniagebcagaaGreatDoorJoin9Tells
import Derived.Test.YteefniagebcagaaGreatDoorRShowJTells
namespace Go.Proofs.YteefniagebcagaaGreatDoor
open Go.RowKit

theorem show_a (v : Value) (z : Int) (L : Nat) (w : World) (hv : RNum w v z L) (hL : L ≤ 20000) :
    Calls Tryz.prog 32 #[v] w fun e w' => ∃ S, e = .returned (.string S) ∧ TextOf S z ∧ Below w.heap.size w w' := by
  obtain ⟨neg, ds, h1, h2, h3⟩ := hv
  rw [h2]
  exact show_any v neg ds w h1 (by omega)

end Go.Proofs.YteefniagebcagaaGreatDoor
