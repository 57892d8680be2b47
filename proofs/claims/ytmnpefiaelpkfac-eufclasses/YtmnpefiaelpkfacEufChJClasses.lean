/- A chain of nodes beside the list of their numbers: what the calls make of it; no statement of the seat is proved here. -/
import Derived.Test.YtmnpefiaelpkfacJoin8Classes
import Derived.Test.YtmnpefiaelpkfacEufZJClasses
namespace Go.Proofs.Ytmnpefiaelpkfac
open Go.RowKit
set_option linter.unusedVariables false
namespace Euf
def sA : ByteArray := { data := #[97] }
def sF : ByteArray := { data := #[102] }
theorem Mv.toBelow {F : Nat → Prop} {w w' : World} {n : Nat} (h : Mv F w w') (hn : n ≤ w.heap.size) (hF : ∀ b, F b → n ≤ b) : Below n w w' :=
  ⟨h.os, h.tape, h.output, h.size, fun b hb => h.other b (by omega) (fun hf => by have := hF b hf; omega)⟩
section
variable {w0 w w1 w2 : World} {g : Nat} {d : Gd} {vC : Value} {n k : Nat} {es : List (Nat × Nat)}
end
end Euf
end Go.Proofs.Ytmnpefiaelpkfac
