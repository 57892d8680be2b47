/- The contracts of Holds, All and Models; it proves no statement of the seat. -/
import Derived.Test.YtbmkkhpoaicclacGreatSatLs2JStays
import Derived.Laws.Shifts
namespace Go.Proofs.YtbmkkhpoaicclacGreat
open Go Go.RowKit
set_option linter.unusedVariables false
namespace Sat
open Euf (OL App)
def bM (n v:Nat):Bool:=decide (n / 2 ^ (v - 1) % 2=1)
end Sat
end Go.Proofs.YtbmkkhpoaicclacGreat
