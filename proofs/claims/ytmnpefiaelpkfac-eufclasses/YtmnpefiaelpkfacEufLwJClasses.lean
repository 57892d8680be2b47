/- What the laws' walks hold: the graph, the document's lists, a list of numbers; no statement of the seat is proved here. -/
import Derived.Test.YtmnpefiaelpkfacEufPkJClasses
namespace Go.Proofs.Ytmnpefiaelpkfac
open Go.RowKit
set_option linter.unusedVariables false
namespace Euf
structure Lw (w0 wr : World) (g : Nat) (d d0 : Gd) (vN vE : Value) (rg : Nat → Value) (bW : Nat) (vL : Value) (k : Nat) (lf : Nat → Nat) : Prop where
  gw : GW wr g d
  sem : GSem d
  r : RG wr vN vE rg d0
  bw : Blk 28 wr bW #[vN, vE]
  list : OL 1 3 wr vL k (fun i => [.int .i64 (lf i : Nat)])
  fh : ∀ b, Fh g d b → w0.heap.size ≤ b
  apW : ¬ Fh g d bW ∧ w0.heap.size ≤ bW
  apL : ∀ b, vL.ownBlock = some b → ¬ Fh g d b ∧ b ≠ bW ∧ w0.heap.size ≤ b
  apZ : ∀ b, Fz vN vE rg d0.t.nn b → ¬ Fh g d b ∧ b ≠ bW ∧ vL.ownBlock ≠ some b
  bel : Below w0.heap.size w0 wr
section
variable {w0 wr : World} {g : Nat} {d d0 : Gd} {vN vE : Value} {rg : Nat → Value} {bW : Nat} {vL : Value} {k : Nat} {lf : Nat → Nat}
theorem Lw.below (h : Lw w0 wr g d d0 vN vE rg bW vL k lf) {w' : World} (hb : Below wr.heap.size wr w') : Lw w0 w' g d d0 vN vE rg bW vL k lf :=
  { h with gw := h.gw.below hb, r := h.r.below hb, bw := h.bw.stay hb, list := h.list.stay (fun b hb' => hb.block b (h.list.lt hb')), bel := h.bel.trans (hb.mono h.bel.size) }
end
/-- Behind 'played'. -/
theorem Ply.lw {w0 w1 : World} {g : Nat} {d : Gd} {vN vE : Value} {rg : Nat → Value} {t : Nat} (h : Ply w0 w1 g d vN vE rg t) : Lw w0 (w1.alloc (.cells #[vN, vE] 28 (0, 0))) g d d vN vE rg w1.heap.size (.slice none 0 0) 0 (fun _ => 0) := by
  have hb : Below w1.heap.size w1 (w1.alloc (.cells #[vN, vE] 28 (0, 0))) := by go_grown
  have hp := h.below hb
  refine { gw := hp.gw, sem := hp.sem, r := hp.r, bw := heap_alloc_new w1 _, list := OL.nil _ _ _ _, fh := hp.fh, apW := ⟨fun hf => by have := h.gw.hlt hf; omega, h.bel.size⟩, apL := (fun b hb => by cases hb), apZ := fun b hb => ⟨h.ap b hb, fun e => by have := h.r.lt hb; omega, (fun e => by cases e)⟩, bel := hp.bel }
end Euf
end Go.Proofs.Ytmnpefiaelpkfac
