/- The walk of EufTerms, whole; no statement of the seat is proved here. -/
import Derived.Test.YtlonnhnfmcndfacEufTeJTerms
import Derived.Test.YtlonnhnfmcndfacEufPlJTerms
import Derived.Test.YtlonnhnfmcndfacEufOsJTerms
namespace Go.Proofs.Ytlonnhnfmcndfac
open Go.RowKit
theorem eufTerms_any (aS : Option Addr) (cS : Nat) (ops : List Euf.OpS) (a : Int) (w : World) (hS : Euf.Scr w aS ops) (hl : ops.length ≤ maxLen) (_ : (Lit.int .i64 a).wf = true) :
    Calls Try.prog 4 #[.slice aS ops.length cS, .int .i64 a] w fun e w' => e = .returned (.bool true) ∧ Below w.heap.size w w' :=
  Euf.eufTerms_by Euf.played_any aS cS ops a w hS hl
end Go.Proofs.Ytlonnhnfmcndfac
