/- Contract of arith.scaleLimbs; it proves no statement of the seat. -/
import Derived.Test.YtlonnhnfmcndfadSignJGcd
namespace Go.Proofs.Ytlonnhnfmcndfad
open Go.RowKit

end Go.Proofs.Ytlonnhnfmcndfad
