/- What the classes mean: two nodes are the same just if that follows from the equations; no statement of the seat is proved here. -/
import Derived.Test.YtlonnhnfmcndfadEufXJGcd
import Derived.Test.YtlonnhnfmcndfadEufHiJGcd
namespace Go.Proofs.Ytlonnhnfmcndfad
open Go.RowKit
set_option linter.unusedVariables false
namespace Euf
section
variable {f : Fx} {t : Tx} {E : Nat → Nat → Prop}
end
end Euf
end Go.Proofs.Ytlonnhnfmcndfad
