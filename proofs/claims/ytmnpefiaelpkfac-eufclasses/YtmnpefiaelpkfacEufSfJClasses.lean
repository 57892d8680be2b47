/- Same, Find and Explain of what is no node; no statement of the seat is proved here. -/
import Derived.Test.YtmnpefiaelpkfacEufRaJClasses
import Derived.Test.YtmnpefiaelpkfacEufLwJClasses
namespace Go.Proofs.Ytmnpefiaelpkfac
open Go.RowKit
set_option linter.unusedVariables false
namespace Euf
section
variable {w0 wr : World} {g : Nat} {d d0 : Gd} {vN vE : Value} {rg : Nat → Value} {bW : Nat}
/-- A new list of numbers. -/
theorem Lw.setList {k0 : Nat} {lf0 : Nat → Nat} {vL : Value} (h : Lw w0 wr g d d0 vN vE rg bW vL k0 lf0) {w' : World} {bC k cap : Nat} {c : Nat → Nat} (hb : Below wr.heap.size wr w') (hl : OL 1 3 w' (.slice (some ⟨bC, 0, none⟩) k cap) k (fun i => [.int .i64 (c i : Nat)])) (hc : wr.heap.size ≤ bC) : Lw w0 w' g d d0 vN vE rg bW (.slice (some ⟨bC, 0, none⟩) k cap) k c := by
  have h' := h.below hb
  have hsz := h.bel.size
  refine { h' with list := hl, apL := fun b hb' => ?_, apZ := fun b hb' => ⟨(h.apZ b hb').1, (h.apZ b hb').2.1, fun e => ?_⟩ }
  · injection hb' with hb'
    have hb2 : bC = b := hb'
    subst hb2
    exact ⟨fun hf => by have := h.gw.hlt hf; omega, fun e => by have := h.bw.lt; omega, by omega⟩
  · injection e with e
    have e2 : bC = b := e
    subst e2
    have := h.r.lt hb'; omega
end
end Euf
end Go.Proofs.Ytmnpefiaelpkfac
