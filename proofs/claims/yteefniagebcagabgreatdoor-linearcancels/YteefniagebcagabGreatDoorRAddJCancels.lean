/- Contracts of suretyref01's Add and Sub; they prove no statement of the seat. -/
import Derived.Test.YteefniagebcagabGreatDoorJoin19Cancels
import Derived.Test.YteefniagebcagabGreatDoorRInts1JCancels
import Derived.Test.YteefniagebcagabGreatDoorJoin12Cancels
import Derived.Test.YteefniagebcagabGreatDoorRPowJCancels
namespace Go.Proofs.YteefniagebcagabGreatDoor
open Go.RowKit

theorem own_seg {k : IntKind} {e : TypeId} {base : Nat} {w : World} {v : Value} {zs : List Nat} (h : Own k e base w v zs) : ∃ ao cap, v = .slice ao zs.length cap ∧ zs.length ≤ cap ∧ cap ≤ maxLen ∧ Seg k w ao zs := by
  obtain ⟨ao, cap, h1, h2, h3, h4, _⟩ := h.open
  exact ⟨ao, cap, h1, h2, h3, h4⟩
theorem cmpL_ge {xs ys : List Nat} (hx : Digs 10 xs) (hy : Digs 10 ys) (nx : Norm xs) (ny : Norm ys) : 0 ≤ cmpL 10 xs ys ↔ val 10 ys ≤ val 10 xs := by
  have := cmpL_neg (by decide) hx hy nx ny
  omega

end Go.Proofs.YteefniagebcagabGreatDoor
