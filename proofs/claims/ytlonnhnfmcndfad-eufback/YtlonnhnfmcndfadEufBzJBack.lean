/- The walk of EufBack, whole; no statement of the seat is proved here. -/
import Derived.Test.YtlonnhnfmcndfadEufBwJBack
import Derived.Test.YtlonnhnfmcndfadEufPlJBack
import Derived.Test.YtlonnhnfmcndfadEufOsJBack
namespace Go.Proofs.Ytlonnhnfmcndfad
open Go.RowKit
theorem eufBack_any (aS : Option Addr) (cS : Nat) (ops : List Euf.OpS) (n : Int) (w : World) (hS : Euf.Scr w aS ops) (hl : ops.length ≤ maxLen) (_ : (Lit.int .i64 n).wf = true) :
    Calls Try.prog 4 #[.slice aS ops.length cS, .int .i64 n] w fun e w' => e = .returned (.bool true) ∧ Below w.heap.size w w' :=
  Euf.eufBack_by Euf.played_any aS cS ops n w hS hl
end Go.Proofs.Ytlonnhnfmcndfad
