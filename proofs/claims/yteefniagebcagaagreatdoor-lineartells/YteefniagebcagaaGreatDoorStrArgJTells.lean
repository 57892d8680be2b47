/- A list of texts that was handed in: what it holds, and that it reads as it did while its memory stays; no statement of the seat is proved here. -/
import Derived.Test.YteefniagebcagaaGreatDoorJoin17Tells
import Derived.Deep.Strs
import Derived.ProofKit
import Derived.OpenShut
namespace Go.Proofs.YteefniagebcagaaGreatDoor
open Go.ChangeShapes Go.WideShapes Go.ChangeAt Go.RowKit Go.Deep

end Go.Proofs.YteefniagebcagaaGreatDoor
