/- Joined: EufJ, EufP, EufT, EufI: words and contracts; no statement of the seat is proved here. -/
import Derived.Test.YtlonnhnfmcndfadJoin2Gcd
/- The contract of join; it proves no statement of the seat. -/
namespace Go.Proofs.Ytlonnhnfmcndfad
open Go.RowKit
set_option linter.unusedVariables false
namespace Euf
end Euf
end Go.Proofs.Ytlonnhnfmcndfad
/- The contract of place; it proves no statement of the seat. -/
namespace Go.Proofs.Ytlonnhnfmcndfad
open Go.RowKit
set_option linter.unusedVariables false
namespace Euf
end Euf
end Go.Proofs.Ytlonnhnfmcndfad
/- Contracts of placeTo and settle; they prove no statement of the seat. -/
namespace Go.Proofs.Ytlonnhnfmcndfad
open Go.RowKit
set_option linter.unusedVariables false
namespace Euf
end Euf
end Go.Proofs.Ytlonnhnfmcndfad
/- Contracts of isNode, copied and keep; they prove no statement of the seat. -/
namespace Go.Proofs.Ytlonnhnfmcndfad
open Go.RowKit
set_option linter.unusedVariables false
namespace Euf
end Euf
end Go.Proofs.Ytlonnhnfmcndfad
