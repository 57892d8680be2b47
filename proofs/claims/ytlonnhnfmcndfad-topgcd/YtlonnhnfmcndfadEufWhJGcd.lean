/- All blocks of the graph, and what the calls make of them; no statement of the seat is proved here. -/
import Derived.Test.YtlonnhnfmcndfadEufYJGcd
namespace Go.Proofs.Ytlonnhnfmcndfad
open Go.RowKit
set_option linter.unusedVariables false
namespace Euf
section
variable {w w' : World} {g : Nat} {d d' : Gd}
end
end Euf
end Go.Proofs.Ytlonnhnfmcndfad
