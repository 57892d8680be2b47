/- The document's small functions: a list of texts, spans, what is passed over, signs. No statement of the seat is proved here. -/
import Derived.Test.YtdlkjafdnaadgaaLexFJJoins
namespace Go.Proofs.Ytdlkjafdnaadgaa
open Go.RowKit
set_option linter.unusedVariables false
set_option linter.unusedSimpArgs false
namespace Lex
open Euf (OL App Stop wpList_push)

/-- A list of texts. -/
def sC (xs : List (List UInt8)) (i : Nat) : List Value := [.string (tx (xs.getD i []))]
def SL (w : World) (v : Value) (xs : List (List UInt8)) : Prop := OL 1 9 w v xs.length (sC xs)
end Lex
end Go.Proofs.Ytdlkjafdnaadgaa
