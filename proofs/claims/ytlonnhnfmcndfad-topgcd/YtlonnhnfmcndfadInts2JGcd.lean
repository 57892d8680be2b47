/- Contract of arith.Mul; it proves no statement of the seat. -/
import Derived.Test.YtlonnhnfmcndfadInts1JGcd
import Derived.Deep.RegionHeld3
namespace Go.Proofs.Ytlonnhnfmcndfad
open Go.RowKit

end Go.Proofs.Ytlonnhnfmcndfad
