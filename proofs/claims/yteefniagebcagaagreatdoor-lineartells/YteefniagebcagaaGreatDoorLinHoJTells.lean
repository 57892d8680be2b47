/- The walk of suretylaw03.LinearHolds; they prove no statement of the seat. -/
import Derived.Test.YteefniagebcagaaGreatDoorJoin24Tells
namespace Go.Proofs.YteefniagebcagaaGreatDoor
open Go.RowKit
set_option linter.unusedVariables false

end Go.Proofs.YteefniagebcagaaGreatDoor
