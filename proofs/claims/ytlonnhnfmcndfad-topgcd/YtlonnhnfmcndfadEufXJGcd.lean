/- The contract of Same, what holds of the graph; it proves no statement of the seat. -/
import Derived.Test.YtlonnhnfmcndfadEufVJGcd
namespace Go.Proofs.Ytlonnhnfmcndfad
open Go.RowKit
set_option linter.unusedVariables false
namespace Euf
end Euf
end Go.Proofs.Ytlonnhnfmcndfad
