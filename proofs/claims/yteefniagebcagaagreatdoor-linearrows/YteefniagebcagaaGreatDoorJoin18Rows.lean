/- Joined: LinI, LinJ, LinK, LinN: words and contracts; no statement of the seat is proved here. -/
import Derived.Test.YteefniagebcagaaGreatDoorJoin17Rows
import Derived.Lib.AppendZeros
/- Contracts of linear's place and Coef; they prove no statement of the seat. -/
namespace Go.Proofs.YteefniagebcagaaGreatDoor
open Go.RowKit
set_option linter.unusedVariables false

/-- Is the variable there? -/
def there (l : List (Nat × Int)) (v : Int) : Prop := ∃ p ∈ l, (p.1 : Int) = v
end Go.Proofs.YteefniagebcagaaGreatDoor
/- Contracts of slices.Grow and Concat for parts; they prove no statement of the seat. -/
namespace Go.Proofs.YteefniagebcagaaGreatDoor
open Go.RowKit
set_option linter.unusedVariables false

end Go.Proofs.YteefniagebcagaaGreatDoor
/- Contracts of slices.Concat for parts and linear's without; they prove no statement of the seat. -/
namespace Go.Proofs.YteefniagebcagaaGreatDoor
open Go.RowKit
set_option linter.unusedVariables false

end Go.Proofs.YteefniagebcagaaGreatDoor
/- Contracts of linear's without and Put; they prove no statement of the seat. -/
namespace Go.Proofs.YteefniagebcagaaGreatDoor
open Go.RowKit
set_option linter.unusedVariables false

theorem PTS.below {w w' : World} {v : Value} {ps : List (Nat × Int)} (h : PTS ps v w) (hb : Below w.heap.size w w') : PTS ps v w' := mp_pts _ _ _ (KeepP.below hb) h

end Go.Proofs.YteefniagebcagaaGreatDoor
