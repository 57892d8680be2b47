/- Contract of suretyref03's Sum; they prove no statement of the seat. -/
import Derived.Test.YteefniagebcagaaGreatDoorJoin26Rows
namespace Go.Proofs.YteefniagebcagaaGreatDoor
open Go.RowKit
set_option linter.unusedVariables false

end Go.Proofs.YteefniagebcagaaGreatDoor
