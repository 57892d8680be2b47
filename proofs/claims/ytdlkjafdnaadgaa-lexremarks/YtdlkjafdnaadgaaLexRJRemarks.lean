/- The walk of LexCuts. No statement of the seat is proved here. -/
import Derived.Test.YtdlkjafdnaadgaaLexOJRemarks
import Derived.Deep.DeepCutAuto
namespace Go.Proofs.Ytdlkjafdnaadgaa
open Go Go.RowKit
set_option linter.unusedVariables false
set_option linter.unusedSimpArgs false
namespace Lex
open Euf (OL App Stop wpList_push)

end Lex
end Go.Proofs.Ytdlkjafdnaadgaa
