/- A chain of one function with two circles: what follows is what the greatest common divisor says; no statement of the seat is proved here. -/
import Derived.Test.YtmnpefiaelpkfacJoin7Classes
namespace Go.Proofs.Ytmnpefiaelpkfac
open Go.RowKit
set_option linter.unusedVariables false
namespace Euf
/-- a, f(a), f(f(a)) and so on. -/
def ChainN (sa sf : ByteArray) (nn : Nat) (N : Nat → ByteArray × List Nat) : Prop := (0 < nn → N 0 = (sa, [])) ∧ ∀ i, i + 1 < nn → N (i + 1) = (sf, [i])
section
variable {nn : Nat} {N : Nat → ByteArray × List Nat} {E : Nat → Nat → Prop} {sa sf : ByteArray}
theorem ChainN.shift (h : ChainN sa sf nn N) {i j : Nat} (hc : Cong nn N E i j) : ∀ k, i + k < nn → j + k < nn → Cong nn N E (i + k) (j + k)
  | 0, _, _ => hc
  | k + 1, h1, h2 => by
    have c := h.shift hc k (by omega) (by omega)
    have e1 := h.2 (i + k) (by omega)
    have e2 := h.2 (j + k) (by omega)
    refine .args h1 h2 (by show (N (i + k + 1)).1 = (N (j + k + 1)).1; rw [e1, e2]) (by show (N (i + k + 1)).2.length = (N (j + k + 1)).2.length; rw [e1, e2]; rfl) ?_
    show ∀ l, l < (N (i + k + 1)).2.length → Cong nn N E ((N (i + k + 1)).2.getD l 0) ((N (j + k + 1)).2.getD l 0)
    rw [e1, e2]
    intro l hl
    simp at hl
    subst hl
    simpa using c
end
end Euf
end Go.Proofs.Ytmnpefiaelpkfac
