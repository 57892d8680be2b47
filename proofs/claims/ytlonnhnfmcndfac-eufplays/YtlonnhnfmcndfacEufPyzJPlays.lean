/- The walk of EufPlays, whole; no statement of the seat is proved here. -/
import Derived.Test.YtlonnhnfmcndfacEufPyJPlays
import Derived.Test.YtlonnhnfmcndfacEufPlJPlays
import Derived.Test.YtlonnhnfmcndfacEufOsJPlays
namespace Go.Proofs.Ytlonnhnfmcndfac
open Go.RowKit
theorem eufPlays_any (aS : Option Addr) (cS : Nat) (ops : List Euf.OpS) (w : World) (hS : Euf.Scr w aS ops) (hl : ops.length ≤ maxLen) :
    Calls Try.prog 3 #[.slice aS ops.length cS] w fun e w' => e = .returned (.bool true) ∧ Below w.heap.size w w' :=
  Euf.eufPlays_by Euf.played_any aS cS ops w hS hl
end Go.Proofs.Ytlonnhnfmcndfac
