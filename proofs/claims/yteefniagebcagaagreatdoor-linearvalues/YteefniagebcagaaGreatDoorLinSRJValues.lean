/- Contract of suretyref03's SameRow; they prove no statement of the seat. -/
import Derived.Laws.StructEq
import Derived.Test.YteefniagebcagaaGreatDoorLinPlJValues
namespace Go.Proofs.YteefniagebcagaaGreatDoor
open Go.RowKit
set_option linter.unusedVariables false

end Go.Proofs.YteefniagebcagaaGreatDoor
