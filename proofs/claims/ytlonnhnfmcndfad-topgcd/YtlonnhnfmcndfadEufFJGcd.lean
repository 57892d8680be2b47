/- The contract of add; it proves no statement of the seat. -/
import Derived.Test.YtlonnhnfmcndfadEufDJGcd
namespace Go.Proofs.Ytlonnhnfmcndfad
open Go.RowKit
set_option linter.unusedVariables false
namespace Euf
section
variable {g : Nat} {d D : Gd} {s : ByteArray} {l : List Nat} {k at_ : Nat} {w wr wr' : World}
end
end Euf
end Go.Proofs.Ytlonnhnfmcndfad
