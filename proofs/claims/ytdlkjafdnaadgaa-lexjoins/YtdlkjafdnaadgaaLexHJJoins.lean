/- The document's skip, words, signs, names; and names in lex. No statement of the seat is proved here. -/
import Derived.Test.YtdlkjafdnaadgaaLexGJJoins
namespace Go.Proofs.Ytdlkjafdnaadgaa
open Go.RowKit
set_option linter.unusedVariables false
set_option linter.unusedSimpArgs false
namespace Lex
open Euf (OL App Stop wpList_push)

end Lex
end Go.Proofs.Ytdlkjafdnaadgaa
