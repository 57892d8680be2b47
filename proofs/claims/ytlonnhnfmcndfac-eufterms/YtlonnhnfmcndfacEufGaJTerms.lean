/- Calls of the laws' walks at any numbers; no statement of the seat is proved here. -/
import Derived.Test.YtlonnhnfmcndfacEufLwJTerms
import Derived.Test.YtlonnhnfmcndfacJoin6Terms
import Derived.Test.YtlonnhnfmcndfacEufFdJTerms
namespace Go.Proofs.Ytlonnhnfmcndfac
open Go.RowKit
set_option linter.unusedVariables false
namespace Euf
section
variable {w0 wr : World} {g : Nat} {d d0 : Gd} {vN vE : Value} {rg : Nat → Value} {bW : Nat} {vL : Value} {k : Nat} {lf : Nat → Nat}
end
end Euf
end Go.Proofs.Ytlonnhnfmcndfac
