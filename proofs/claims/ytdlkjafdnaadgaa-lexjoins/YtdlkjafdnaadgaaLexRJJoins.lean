/- The walk of LexCuts. No statement of the seat is proved here. -/
import Derived.Test.YtdlkjafdnaadgaaLexOJJoins
import Derived.Deep.DeepCutAuto
namespace Go.Proofs.Ytdlkjafdnaadgaa
open Go Go.RowKit
set_option linter.unusedVariables false
set_option linter.unusedSimpArgs false
namespace Lex
open Euf (OL App Stop wpList_push)

theorem tx_size (x : List UInt8) : (tx x).size = x.length := by rw [← bs_length, bs_tx]
end Lex
end Go.Proofs.Ytdlkjafdnaadgaa
