/- Contracts of suretyref02's Show, Neg, Cmp, Floor, Lowest and Of; they prove no statement of the seat. -/
import Derived.Test.YtidpbdhhbeaijabR1JFolds
import Derived.Test.YtidpbdhhbeaijabQ6JFolds
import Derived.Test.YtidpbdhhbeaijabRDivJFolds
import Derived.Test.YtidpbdhhbeaijabRMulJFolds
import Derived.Test.YtidpbdhhbeaijabShowsJFolds
namespace Go.Proofs.Ytidpbdhhbeaijab
open Go.RowKit

theorem rnum_neg {w : World} {s : Bool} {a : Option Addr} {n c L : Nat} {z : Int} (h : RNum w (.agg #[.bool s, .slice a n c]) z L) : s = decide (z < 0) := by
  obtain ⟨neg, ds, ⟨ao, cap, he, h1, h2, h3, h4, h5, h6, h7⟩, hz, _⟩ := h
  cases he
  cases s with
  | false => rw [hz]; simp [sv]
  | true =>
    have hp : 0 < val 10 ds := sv_pos10 h6 h7 rfl
    rw [hz]
    simp [sv]
    omega

end Go.Proofs.Ytidpbdhhbeaijab
