/- SatResolves walked: it answers true; it proves no statement of the seat. -/
import Derived.Test.YtbmkkhpoaicclaaGreatSatAkJProofs
import Derived.Test.YtbmkkhpoaicclaaGreatSatOqJProofs
import Derived.Test.YtbmkkhpoaicclaaGreatSatHdJProofs
import Derived.Test.YtbmkkhpoaicclaaGreatSatRhJProofs
namespace Go.Proofs.YtbmkkhpoaicclaaGreat
open Go Go.RowKit
set_option linter.unusedVariables false
namespace Sat
open Euf (OL App)
end Sat
end Go.Proofs.YtbmkkhpoaicclaaGreat
