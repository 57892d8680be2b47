/- The walk of LexTokens. No statement of the seat is proved here. -/
import Derived.Test.YtdlkjafdnaadgaaLexNJJoins
namespace Go.Proofs.Ytdlkjafdnaadgaa
open Go.RowKit
set_option linter.unusedVariables false
set_option linter.unusedSimpArgs false
namespace Lex
open Euf (OL App Stop wpList_push)

theorem Lx.count {l : List UInt8} {p : Nat} {ts : List T} {c a : Nat} (h : Lx l p ts c a) : ts.length ≤ l.length := by
  induction h with
  | done _ => simp
  | bad _ _ => simp
  | @tok l p k n c a ts h1 h2 h3 ih =>
    have := (tk_ok h2).1
    rw [List.length_drop] at ih
    rw [List.length_cons]; omega
theorem Out.count {s : List UInt8} {ts : List T} {c a : Nat} (h : Out s ts c a) : ts.length ≤ 65536 := by
  rcases h with ⟨_, rfl, _⟩ | ⟨h0, u, h, rfl⟩
  · simp
  · have := h.count
    split
    · omega
    · simp
end Lex
end Go.Proofs.Ytdlkjafdnaadgaa
