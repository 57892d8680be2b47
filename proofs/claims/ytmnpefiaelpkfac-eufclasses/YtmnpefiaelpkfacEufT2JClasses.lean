/- A second graph beside the first, and the document's lists; no statement of the seat is proved here. -/
import Derived.Test.YtmnpefiaelpkfacEufGrJClasses
namespace Go.Proofs.Ytmnpefiaelpkfac
open Go.RowKit
set_option linter.unusedVariables false
namespace Euf
theorem TOk.Ninj {f : Fx} {t : Tx} {ex : Option Lab} (h : TOk f t ex) {a b : Nat} (ha : a < t.nn) (hb : b < t.nn) (e : t.N a = t.N b) : a = b := by
  refine h.Winj ha hb (h.inj _ _ (h.whole a ha).1 (h.whole b hb).1 ?_)
  rw [(h.whole a ha).2.1, (h.whole b hb).2.1, e]
section
variable {w0 wr w' : World} {g : Nat} {d d' : Gd} {q : Nat} {dh dh' d0 : Gd} {vN vE : Value} {rg : Nat → Value} {bW : Nat}
end
end Euf
end Go.Proofs.Ytmnpefiaelpkfac
