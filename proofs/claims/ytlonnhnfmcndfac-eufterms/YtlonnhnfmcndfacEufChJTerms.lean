/- A chain of nodes beside the list of their numbers: what the calls make of it; no statement of the seat is proved here. -/
import Derived.Test.YtlonnhnfmcndfacJoin7Terms
import Derived.Test.YtlonnhnfmcndfacEufZJTerms
namespace Go.Proofs.Ytlonnhnfmcndfac
open Go.RowKit
set_option linter.unusedVariables false
namespace Euf
def sA : ByteArray := { data := #[97] }
def sF : ByteArray := { data := #[102] }
theorem Mv.toBelow {F : Nat → Prop} {w w' : World} {n : Nat} (h : Mv F w w') (hn : n ≤ w.heap.size) (hF : ∀ b, F b → n ≤ b) : Below n w w' :=
  ⟨h.os, h.tape, h.output, h.size, fun b hb => h.other b (by omega) (fun hf => by have := hF b hf; omega)⟩
section
variable {w0 w w1 w2 : World} {g : Nat} {d : Gd} {vC : Value} {n k : Nat} {es : List (Nat × Nat)}
theorem fn_fh {g : Nat} {d : Gd} {b : Nat} (h : Fn g d b) : Fh g d b := Or.inl (Or.inl h)
end
end Euf
end Go.Proofs.Ytlonnhnfmcndfac
