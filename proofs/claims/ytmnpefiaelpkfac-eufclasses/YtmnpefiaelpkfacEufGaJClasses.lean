/- Calls of the laws' walks at any numbers; no statement of the seat is proved here. -/
import Derived.Test.YtmnpefiaelpkfacEufLwJClasses
import Derived.Test.YtmnpefiaelpkfacJoin6Classes
import Derived.Test.YtmnpefiaelpkfacEufFdJClasses
namespace Go.Proofs.Ytmnpefiaelpkfac
open Go.RowKit
set_option linter.unusedVariables false
namespace Euf
section
variable {w0 wr : World} {g : Nat} {d d0 : Gd} {vN vE : Value} {rg : Nat → Value} {bW : Nat} {vL : Value} {k : Nat} {lf : Nat → Nat}
end
end Euf
end Go.Proofs.Ytmnpefiaelpkfac
