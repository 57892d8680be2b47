/- The walk of suretylaw02.RatioFolds: it answers true at every list of texts and every number. -/
import Derived.Test.YtidpbdhhbeaijabRFoldssnJFolds
import Derived.Test.YtidpbdhhbeaijabRFoldsspJFolds
import Derived.Test.YtidpbdhhbeaijabRFoldslnJFolds
import Derived.Test.YtidpbdhhbeaijabRFoldslpJFolds
namespace Go.Proofs.Ytidpbdhhbeaijab
open Go.RowKit
theorem ratioFolds_any (ao : Option Addr) (n cap : Nat) (Sx : Nat → ByteArray) (t : Int) (w : World) (hS : Strs w ao n Sx) (hn' : n ≤ maxLen) :
    Calls Try.prog 4 #[.slice ao n cap, .int .i64 t] w fun e w' => e = .returned (.bool true) ∧ Below w.heap.size w w' := by
  by_cases hA : n ≤ 12
  · by_cases hB : 0 ≤ t
    · exact ratioFolds_sp ao n cap Sx t w hS hn' hA hB
    · exact ratioFolds_sn ao n cap Sx t w hS hn' hA hB
  · by_cases hB : 0 ≤ t
    · exact ratioFolds_lp ao n cap Sx t w hS hn' (show 12 < n by omega) hB
    · exact ratioFolds_ln ao n cap Sx t w hS hn' (show 12 < n by omega) hB
end Go.Proofs.Ytidpbdhhbeaijab
