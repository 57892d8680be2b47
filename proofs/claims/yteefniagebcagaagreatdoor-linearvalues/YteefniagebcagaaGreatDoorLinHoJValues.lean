/- The walk of suretylaw03.LinearHolds; they prove no statement of the seat. -/
import Derived.Test.YteefniagebcagaaGreatDoorLinVlJValues
namespace Go.Proofs.YteefniagebcagaaGreatDoor
open Go.RowKit
set_option linter.unusedVariables false

theorem valZ_len (ss : List ByteArray) : (valZ ss).length ≤ 12 := by unfold valZ; rw [List.length_map, List.length_take]; omega

end Go.Proofs.YteefniagebcagaaGreatDoor
