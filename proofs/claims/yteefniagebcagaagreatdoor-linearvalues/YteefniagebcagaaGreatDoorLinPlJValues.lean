/- Contract of linear's Plain; they prove no statement of the seat. -/
import Derived.Test.YteefniagebcagaaGreatDoorJoin23Values
namespace Go.Proofs.YteefniagebcagaaGreatDoor
open Go.RowKit
set_option linter.unusedVariables false

end Go.Proofs.YteefniagebcagaaGreatDoor
