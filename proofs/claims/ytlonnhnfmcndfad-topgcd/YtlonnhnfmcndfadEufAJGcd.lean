/- Terms kept in parts: what tables and parts say of each other; no statement of the seat is proved here. -/
import Derived.Test.YtlonnhnfmcndfadEufCJGcd
namespace Go.Proofs.Ytlonnhnfmcndfad
open Go.RowKit
set_option linter.unusedVariables false
namespace Euf
/-- What a part is: its function, for how many arguments, and those that it has. -/
abbrev Lab := ByteArray × Nat × List Nat
structure Tx where
  nn : Nat
  N : Nat → ByteArray × List Nat
  lab : Nat → Lab
  hd : ByteArray × Nat → Option Nat
  pr : Nat × Nat → Option Nat
section
variable {f : Fx} {t : Tx} {ex : Option Lab}
end
end Euf
end Go.Proofs.Ytlonnhnfmcndfad
