/- The document's skip, words, signs, names; and names in lex. No statement of the seat is proved here. -/
import Derived.Test.YtdlkjafdnaadgaaLexGJRemarks
namespace Go.Proofs.Ytdlkjafdnaadgaa
open Go.RowKit
set_option linter.unusedVariables false
set_option linter.unusedSimpArgs false
namespace Lex
open Euf (OL App Stop wpList_push)

theorem beq10 (n : Nat) (b : Bool) (h : decide (n = 10) = b) : ((n : Int) == 10) = b := by
  subst h
  by_cases h : n = 10
  · subst h; rfl
  · rw [decide_eq_false h, beq_eq_false_iff_ne]; omega
theorem ln_cons {c : UInt8} {r : List UInt8} (h : ¬ c.toNat = 10) : ln (c :: r) = ln r + 1 := by simp [ln, h]
end Lex
end Go.Proofs.Ytdlkjafdnaadgaa
