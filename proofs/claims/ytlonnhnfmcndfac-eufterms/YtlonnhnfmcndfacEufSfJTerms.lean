/- Same, Find and Explain of what is no node; no statement of the seat is proved here. -/
import Derived.Test.YtlonnhnfmcndfacEufRaJTerms
import Derived.Test.YtlonnhnfmcndfacEufLwJTerms
namespace Go.Proofs.Ytlonnhnfmcndfac
open Go.RowKit
set_option linter.unusedVariables false
namespace Euf
theorem ai_single {w : World} {b : Nat} {a : Int} (h : w.heap[b]? = some (.cells #[.int .i64 a] 3 (0, 0))) (cap : Nat) : AI w (.slice (some ⟨b, 0, none⟩) 1 cap) [a] := by
  refine ⟨_, cap, rfl, by simp, Or.inr ⟨b, 0, rfl, (Array.getElem?_eq_some_iff.1 h).1, fun i hi => ?_⟩⟩
  have : i = 0 := by simpa using hi
  subst this
  exact cell_of_row w b 0 _ 3 (0, 0) h
section
variable {w0 wr : World} {g : Nat} {d d0 : Gd} {vN vE : Value} {rg : Nat → Value} {bW : Nat}
end
end Euf
end Go.Proofs.Ytlonnhnfmcndfac
