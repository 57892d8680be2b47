/- Contract of suretyref01's Show; it proves no statement of the seat. -/
import Derived.Test.YtidpbdhhbeaijabOwnCJFolds
namespace Go.Proofs.Ytidpbdhhbeaijab
open Go.RowKit

theorem grown_bounds (w : World) (n : Nat) (e : TypeId) (h : n ≤ 10) : n ≤ grownCap w n 0 e ∧ grownCap w n 0 e ≤ maxLen :=
  ⟨grownCap_ge w n 0 e, grownCap_le_maxLen w n 0 e (by unfold maxLen; omega)⟩

end Go.Proofs.Ytidpbdhhbeaijab
