/- For the contract of Node; it proves no statement of the seat. -/
import Derived.Test.YtlonnhnfmcndfadEufLJGcd
namespace Go.Proofs.Ytlonnhnfmcndfad
open Go.RowKit
set_option linter.unusedVariables false
namespace Euf
end Euf
end Go.Proofs.Ytlonnhnfmcndfad
