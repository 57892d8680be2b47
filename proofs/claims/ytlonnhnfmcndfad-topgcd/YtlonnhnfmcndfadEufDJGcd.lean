/- The contract of add; it proves no statement of the seat. -/
import Derived.Test.YtlonnhnfmcndfadEufBJGcd
namespace Go.Proofs.Ytlonnhnfmcndfad
open Go.RowKit
set_option linter.unusedVariables false
namespace Euf
section
variable {w w' : World} {g : Nat} {d : Gd}
/-- With other parts and tables. -/
def dT (d : Gd) (v : Value) (np : Nat) (P : Nat → Part) (lab : Nat → Lab) (hd : ByteArray × Nat → Option Nat) (pr : Nat × Nat → Option Nat) : Gd :=
  { d with x := { d.x with vP := v }, f := { d.f with np := np, P := P }, t := { d.t with lab := lab, hd := hd, pr := pr } }
end
end Euf
end Go.Proofs.Ytlonnhnfmcndfad
