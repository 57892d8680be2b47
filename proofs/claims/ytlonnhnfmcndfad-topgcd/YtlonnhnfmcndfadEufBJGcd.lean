/- The whole graph in the machine; the contract of find; no statement of the seat is proved here. -/
import Derived.Test.YtlonnhnfmcndfadEufAJGcd
namespace Go.Proofs.Ytlonnhnfmcndfad
open Go.RowKit
set_option linter.unusedVariables false
namespace Euf
/-- The whole graph's data. -/
structure Gd where
  x : Lx
  f : Fx
  m : Nat
  y : Ly
  s : Sx
  t : Tx
  bH : Nat
  bR : Nat
  ag : Nat → Value
section
variable {w w' : World} {g : Nat} {d : Gd}
end
end Euf
end Go.Proofs.Ytlonnhnfmcndfad
