/- The document's closing of equations; no statement of the seat is proved here. -/
import Derived.Test.YtlonnhnfmcndfacEufLiJTerms
import Derived.Test.YtlonnhnfmcndfacJoin4Terms
import Derived.Test.YtlonnhnfmcndfacJoin7Terms
import Derived.Test.YtlonnhnfmcndfacEufT2JTerms
import Derived.Test.YtlonnhnfmcndfacReg6JTerms
import Derived.Deep.DeepCutAuto
namespace Go.Proofs.Ytlonnhnfmcndfac
open Go.RowKit
set_option linter.unusedVariables false
namespace Euf
section
variable {w wr w' : World} {b1 bC nn cap : Nat} {vN vE : Value} {c c' : Nat → Nat}
end
end Euf
end Go.Proofs.Ytlonnhnfmcndfac
