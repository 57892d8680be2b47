/- The document's join of two classes; no statement of the seat is proved here. -/
import Derived.Test.YtlonnhnfmcndfacJoin7Terms
import Derived.BigRegion
import Derived.Deep.DeepCutAuto
namespace Go.Proofs.Ytlonnhnfmcndfac
open Go.RowKit
set_option linter.unusedVariables false
namespace Euf
def OneB (bC b : Nat) : Prop := b = bC
end Euf
end Go.Proofs.Ytlonnhnfmcndfac
