/- A chain of one function with two circles: what follows is what the greatest common divisor says; no statement of the seat is proved here. -/
import Derived.Test.YtlonnhnfmcndfadEufYJGcd
namespace Go.Proofs.Ytlonnhnfmcndfad
open Go.RowKit
set_option linter.unusedVariables false
namespace Euf
section
variable {nn : Nat} {N : Nat → ByteArray × List Nat} {E : Nat → Nat → Prop} {sa sf : ByteArray}
end
end Euf
end Go.Proofs.Ytlonnhnfmcndfad
