/- Plain facts on sums and rows: values go through sums, tight rows, texts that are read again; no statement of the seat is proved here. -/
import Derived.Test.YteefniagebcagaaGreatDoorLinHoJTells
import Derived.Test.YteefniagebcagaaGreatDoorJoin25Tells
namespace Go.Proofs.YteefniagebcagaaGreatDoor
set_option linter.unusedVariables false

end Go.Proofs.YteefniagebcagaaGreatDoor
