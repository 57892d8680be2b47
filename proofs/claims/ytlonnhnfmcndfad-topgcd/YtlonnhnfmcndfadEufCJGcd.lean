/- Contracts of copied and keep; they prove no statement of the seat. -/
import Derived.Test.YtlonnhnfmcndfadJoin3Gcd
import Derived.Test.YtlonnhnfmcndfadBaseJGcd
namespace Go.Proofs.Ytlonnhnfmcndfad
open Go.RowKit
set_option linter.unusedVariables false
namespace Euf
end Euf
end Go.Proofs.Ytlonnhnfmcndfad
