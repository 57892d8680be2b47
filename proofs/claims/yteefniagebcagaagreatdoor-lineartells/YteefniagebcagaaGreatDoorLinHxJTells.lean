/- Contracts of linear in the form that the laws' walks use; they prove no statement of the seat. -/
import Derived.Test.YteefniagebcagaaGreatDoorJoin25Tells
import Derived.Test.YteefniagebcagaaGreatDoorLinZJTells
namespace Go.Proofs.YteefniagebcagaaGreatDoor
open Go.RowKit
set_option linter.unusedVariables false

end Go.Proofs.YteefniagebcagaaGreatDoor
