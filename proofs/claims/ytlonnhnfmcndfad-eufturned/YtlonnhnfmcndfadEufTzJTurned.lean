/- The walk of EufTurned, whole; no statement of the seat is proved here. -/
import Derived.Test.YtlonnhnfmcndfadEufTdJTurned
import Derived.Test.YtlonnhnfmcndfadEufPlJTurned
import Derived.Test.YtlonnhnfmcndfadEufOsJTurned
namespace Go.Proofs.Ytlonnhnfmcndfad
open Go.RowKit
theorem eufTurned_any (aS : Option Addr) (cS : Nat) (ops : List Euf.OpS) (w : World) (hS : Euf.Scr w aS ops) (hl : ops.length ≤ maxLen) :
    Calls Try.prog 3 #[.slice aS ops.length cS] w fun e w' => e = .returned (.bool true) ∧ Below w.heap.size w w' :=
  Euf.eufTurned_by Euf.played_any aS cS ops w hS hl
end Go.Proofs.Ytlonnhnfmcndfad
