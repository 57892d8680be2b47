/- Why parts are the same: the trees' edges, in the order in which they were made; no statement of the seat is proved here. -/
import Derived.Test.YtlonnhnfmcndfadJoin3Gcd
namespace Go.Proofs.Ytlonnhnfmcndfad
open Go.RowKit
set_option linter.unusedVariables false
namespace Euf
section
variable {np m ns : Nat} {f : Fx} {S : Nat → Spot} {sg : Nat × Nat → Option Nat} {cl H : List Claim} {out : List Nat}
end
end Euf
end Go.Proofs.Ytlonnhnfmcndfad
