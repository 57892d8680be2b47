/- Contract of suretyref01.Div; it proves no statement of the seat. -/
import Derived.Test.YtidpbdhhbeaijabRTwoJFolds
namespace Go.Proofs.Ytidpbdhhbeaijab
open Go.RowKit

end Go.Proofs.Ytidpbdhhbeaijab
