/- Contract of suretyref01's From; it proves no statement of the seat. -/
import Derived.Test.YteefniagebcagabGreatDoorRInts1JBack
namespace Go.Proofs.YteefniagebcagabGreatDoor
open Go.RowKit

theorem from_word (n : Int) (h1 : -9223372036854775808 ≤ n) (h2 : n < 0) : IntKind.u64.wrap (-IntKind.u64.wrap n) = ((n.natAbs : Nat) : Int) := by
  simp only [IntKind.wrap, IntKind.bits, IntKind.signed]
  simp
  omega

end Go.Proofs.YteefniagebcagabGreatDoor
