/- Contracts of New, Equal and Same; they prove no statement of the seat. -/
import Derived.Test.YtlonnhnfmcndfadEufUJGcd
namespace Go.Proofs.Ytlonnhnfmcndfad
open Go.RowKit
set_option linter.unusedVariables false
namespace Euf
end Euf
end Go.Proofs.Ytlonnhnfmcndfad
