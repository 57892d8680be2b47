/- Joined: EufR, EufS, EufK, EufE: words and contracts; no statement of the seat is proved here. -/
import Derived.Test.YtlonnhnfmcndfadJoin0Gcd
import Derived.BigRegion
import Derived.RegionTactic
import Derived.DeepKeys4
import Derived.Deep.RegionLaw
/- The contract of rename; it proves no statement of the seat. -/
namespace Go.Proofs.Ytlonnhnfmcndfad
open Go.RowKit
set_option linter.unusedVariables false
namespace Euf

end Euf
end Go.Proofs.Ytlonnhnfmcndfad
/- Contracts of signature, weight and classOf; they prove no statement of the seat. -/
namespace Go.Proofs.Ytlonnhnfmcndfad
open Go.RowKit
set_option linter.unusedVariables false
namespace Euf

end Euf
end Go.Proofs.Ytlonnhnfmcndfad
/- Keys that are pairs of ints; no statement of the seat is proved here. -/
namespace Go.Proofs.Ytlonnhnfmcndfad
open Go.RowKit
set_option linter.unusedVariables false
namespace Euf
end Euf
end Go.Proofs.Ytlonnhnfmcndfad
/- The contract of enrol; it proves no statement of the seat. -/
namespace Go.Proofs.Ytlonnhnfmcndfad
open Go.RowKit
set_option linter.unusedVariables false
namespace Euf
end Euf
end Go.Proofs.Ytlonnhnfmcndfad
