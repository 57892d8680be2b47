/- The walk of EufClasses, whole; no statement of the seat is proved here. -/
import Derived.Test.YtmnpefiaelpkfacEufCsJClasses
import Derived.Test.YtmnpefiaelpkfacEufPlJClasses
import Derived.Test.YtmnpefiaelpkfacEufOsJClasses
namespace Go.Proofs.Ytmnpefiaelpkfac
open Go.RowKit
theorem eufClasses_any (aS : Option Addr) (cS : Nat) (ops : List Euf.OpS) (leave : Int) (w : World) (hS : Euf.Scr w aS ops) (hl : ops.length ≤ maxLen) :
    Calls Try.prog 3 #[.slice aS ops.length cS, .int .i64 leave] w fun e w' => e = .returned (.bool true) ∧ Below w.heap.size w w' :=
  Euf.eufClasses_by Euf.played_any aS cS ops leave w hS hl
end Go.Proofs.Ytmnpefiaelpkfac
