/- Words for a list of one's own that lies in a struct's field while a region puts a part behind it; no statement of the seat is proved here. -/
import Derived.Test.YteefniagebcagaaGreatDoorRefAJTells
namespace Go.Proofs.YteefniagebcagaaGreatDoor
open Go.RowKit
set_option linter.unusedVariables false

end Go.Proofs.YteefniagebcagaaGreatDoor
