/- A chain of nodes beside the list of their numbers: what the calls make of it; no statement of the seat is proved here. -/
import Derived.Test.YtlonnhnfmcndfadEufWhJGcd
import Derived.Test.YtlonnhnfmcndfadEufZJGcd
namespace Go.Proofs.Ytlonnhnfmcndfad
open Go.RowKit
set_option linter.unusedVariables false
namespace Euf
section
variable {w0 w w1 w2 : World} {g : Nat} {d : Gd} {vC : Value} {n k : Nat} {es : List (Nat × Nat)}
end
end Euf
end Go.Proofs.Ytlonnhnfmcndfad
