/- A refuted solver, its proof laid or not: what a clause more and asking it again leave; it proves no statement of the seat. -/
import Derived.Test.YtbmkkhpoaicclacGreatSatYoJStays
import Derived.Test.YtbmkkhpoaicclacGreatJoin23Stays
namespace Go.Proofs.YtbmkkhpoaicclacGreat
open Go Go.RowKit
set_option linter.unusedVariables false
namespace Sat
open Euf (OL App)
section
variable {w:World} {g nv ad:Nat} {st:Int} {T:List Chn→Prop}
end
section
variable {N g nv ad:Nat} {T:List Chn→Prop} {w0 w:World}
end
end Sat
end Go.Proofs.YtbmkkhpoaicclacGreat
