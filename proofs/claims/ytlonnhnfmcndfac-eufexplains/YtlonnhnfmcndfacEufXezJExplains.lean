/- The walk of EufExplains, whole; no statement of the seat is proved here. -/
import Derived.Test.YtlonnhnfmcndfacEufXeJExplains
import Derived.Test.YtlonnhnfmcndfacEufPlJExplains
import Derived.Test.YtlonnhnfmcndfacEufOsJExplains
namespace Go.Proofs.Ytlonnhnfmcndfac
open Go.RowKit
theorem eufExplains_any (aS : Option Addr) (cS : Nat) (ops : List Euf.OpS) (a b : Int) (w : World) (hS : Euf.Scr w aS ops) (hl : ops.length ≤ maxLen) (_ : (Lit.int .i64 a).wf = true) (_ : (Lit.int .i64 b).wf = true) :
    Calls Try.prog 5 #[.slice aS ops.length cS, .int .i64 a, .int .i64 b] w fun e w' => e = .returned (.bool true) ∧ Below w.heap.size w w' :=
  Euf.eufExplains_by Euf.played_any aS cS ops a b w hS hl
end Go.Proofs.Ytlonnhnfmcndfac
