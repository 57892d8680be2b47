/- The document's like: one function, and arguments of one class; no statement of the seat is proved here. -/
import Derived.Test.YtlonnhnfmcndfacEufJoJTerms
import Derived.Test.YtlonnhnfmcndfacEufReJTerms
namespace Go.Proofs.Ytlonnhnfmcndfac
open Go.RowKit
set_option linter.unusedVariables false
namespace Euf
end Euf
end Go.Proofs.Ytlonnhnfmcndfac
