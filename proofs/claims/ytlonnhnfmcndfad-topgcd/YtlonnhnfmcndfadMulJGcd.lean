/- Contract of arith.mulLimbs; it proves no statement of the seat. -/
import Derived.Test.YtlonnhnfmcndfadSubJGcd
namespace Go.Proofs.Ytlonnhnfmcndfad
open Go.RowKit

end Go.Proofs.Ytlonnhnfmcndfad
