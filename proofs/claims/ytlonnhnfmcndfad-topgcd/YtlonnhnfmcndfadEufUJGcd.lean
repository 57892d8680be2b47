/- For the contracts of New, Equal and Same; it proves no statement of the seat. -/
import Derived.Test.YtlonnhnfmcndfadEufQJGcd
namespace Go.Proofs.Ytlonnhnfmcndfad
open Go.RowKit
set_option linter.unusedVariables false
namespace Euf
end Euf
end Go.Proofs.Ytlonnhnfmcndfad
