/- What holds between the calls of a script; no statement of the seat is proved here. -/
import Derived.Test.YtmnpefiaelpkfacEufScJClasses
import Derived.Test.YtmnpefiaelpkfacEufFdJClasses
namespace Go.Proofs.Ytmnpefiaelpkfac
open Go.RowKit
set_option linter.unusedVariables false
namespace Euf
def playK (ops : List OpS) : Nat → As
  | 0 => ([], [])
  | k + 1 => if (ops.getD k noOp).zs.length ≤ 20 then stepA (playK ops k) (ops.getD k noOp) else playK ops k
def playA (ops : List OpS) : As := playK ops (min ops.length 60)
/-- What holds between two calls. -/
structure PSt (w wr : World) (g bR bW : Nat) (d : Gd) (aN : Option Addr) (cN : Nat) (aE : Option Addr) (cE : Nat) (rg : Nat → Value) (A : As) (t : Nat) : Prop where
  ply : Ply w wr g d (.slice aN d.t.nn cN) (.slice aE d.f.ne cE) rg t
  abs : Abs d A
  bw : Blk 28 wr bW #[.slice aN d.t.nn cN, .slice aE d.f.ne cE]
  br : Blk 28 wr bR #[.slice none 0 0, .slice none 0 0]
  fw : ¬ Fh g d bW ∧ ¬ Fz (.slice aN d.t.nn cN) (.slice aE d.f.ne cE) rg d.t.nn bW
  fr : ¬ Fh g d bR ∧ ¬ Fz (.slice aN d.t.nn cN) (.slice aE d.f.ne cE) rg d.t.nn bR
  new : w.heap.size ≤ bR ∧ w.heap.size ≤ bW ∧ bW ≠ bR
section
variable {w wr : World} {g bR bW : Nat} {d : Gd} {aN : Option Addr} {cN : Nat} {aE : Option Addr} {cE : Nat} {rg : Nat → Value} {A : As} {t : Nat}
theorem PSt.below (h : PSt w wr g bR bW d aN cN aE cE rg A t) {w' : World} (hb : Below wr.heap.size wr w') : PSt w w' g bR bW d aN cN aE cE rg A t :=
  { h with ply := h.ply.below hb, bw := h.bw.stay hb, br := h.br.stay hb }
theorem PSt.more (h : PSt w wr g bR bW d aN cN aE cE rg A t) : PSt w wr g bR bW d aN cN aE cE rg A (t + 1) := { h with ply := h.ply.more }
theorem PSt.next (h : PSt w wr g bR bW d aN cN aE cE rg A t) {w' : World} {d' : Gd} {aN' : Option Addr} {cN' : Nat} {aE' : Option Addr} {cE' : Nat} {rg' : Nat → Value} {A' : As} (hp : Ply w w' g d' (.slice aN' d'.t.nn cN') (.slice aE' d'.f.ne cE') rg' (t + 1)) (hs : Stp g wr d (.slice aN d.t.nn cN) (.slice aE d.f.ne cE) rg w' d' (.slice aN' d'.t.nn cN') (.slice aE' d'.f.ne cE') rg') (hA : Abs d' A') :
    PSt w ((w'.setCell ⟨bW, 0, none⟩ (.slice aN' d'.t.nn cN')).setCell ⟨bW, 1, none⟩ (.slice aE' d'.f.ne cE')) g bR bW d' aN' cN' aE' cE' rg' A' (t + 1) := by
  have l1 := h.bw.lt
  have l2 := h.br.lt
  have f1 : ∀ b, b < wr.heap.size → ¬ Fh g d b → ¬ Fh g d' b := fun b hb hn hf => by
    rcases hs.h b hf with h9 | h9
    · exact hn h9
    · omega
  have f2 : ∀ b, b < wr.heap.size → ¬ Fz (.slice aN d.t.nn cN) (.slice aE d.f.ne cE) rg d.t.nn b → ¬ Fz (.slice aN' d'.t.nn cN') (.slice aE' d'.f.ne cE') rg' d'.t.nn b := fun b hb hn hf => by
    rcases hs.z b hf with h9 | h9
    · exact hn h9
    · omega
  have bw := blk_mv h.bw hs.mv h.fw.1
  have br := blk_mv h.br hs.mv h.fr.1
  have oth : ∀ b, b ≠ bW → ((w'.setCell ⟨bW, 0, none⟩ (.slice aN' d'.t.nn cN')).setCell ⟨bW, 1, none⟩ (.slice aE' d'.f.ne cE')).heap[b]? = w'.heap[b]? := fun b hb => by rw [heap_setCell_other _ ⟨bW, 1, none⟩ b _ hb, heap_setCell_other _ ⟨bW, 0, none⟩ b _ hb]
  refine { ply := hp.put (below_store2 (Below.refl _ _) h.new.2.1 _ _) (fun b hb => oth b (fun e => f1 bW l1 h.fw.1 (e ▸ hb))) (fun b hb => oth b (fun e => f2 bW l1 h.fw.2 (e ▸ hb))), abs := hA, bw := ?_, br := (oth bR h.new.2.2.symm).trans br, fw := ⟨f1 bW l1 h.fw.1, f2 bW l1 h.fw.2⟩, fr := ⟨f1 bR l2 h.fr.1, f2 bR l2 h.fr.2⟩, new := h.new }
  have k := (Blk.set bw 0 (.slice aN' d'.t.nn cN')).set 1 (.slice aE' d'.f.ne cE')
  simpa using k
end
/-- What 'played' leaves. -/
def PlayEnd (w : World) (A : As) (e : Ending) (w' : World) : Prop :=
  ∃ (g : Nat) (d : Gd) (aN aE : Option Addr) (cN cE : Nat) (rg : Nat → Value), e = .returned (.tuple #[.pointer (some ⟨g, 0, none⟩), .agg #[.slice aN d.t.nn cN, .slice aE d.f.ne cE], .bool true]) ∧ Ply w w' g d (.slice aN d.t.nn cN) (.slice aE d.f.ne cE) rg 60 ∧ Abs d A
theorem start (w w1 : World) (hG : GW w1 (w.heap.size + 1 + 3) (dNew (w.heap.size + 1))) (hb : Below (w.heap.size + 1) (w.alloc (.cells #[.slice none 0 0, .slice none 0 0] 28 (0, 0))) w1) : ∃ (d : Gd) (rg : Nat → Value), d.t.nn = 0 ∧ d.f.ne = 0 ∧ PSt w (w1.alloc (.cells #[.slice none 0 0, .slice none 0 0] 28 (0, 0))) (w.heap.size + 1 + 3) w.heap.size w1.heap.size d none 0 none 0 rg ([], []) 0 := by
  have hs1 : (w.alloc (.cells #[.slice none 0 0, .slice none 0 0] 28 (0, 0))).heap.size = w.heap.size + 1 := by simp
  have hsz := hb.size
  rw [hs1] at hsz
  have hb2 : Below w1.heap.size w1 (w1.alloc (.cells #[.slice none 0 0, .slice none 0 0] 28 (0, 0))) := by go_grown
  have ha : Below w.heap.size w (w.alloc (.cells #[.slice none 0 0, .slice none 0 0] 28 (0, 0))) := by go_grown
  have nz : ∀ b, ¬ Fz (.slice none 0 0) (.slice none 0 0) (fun _ => .slice none 0 0) (dNew (w.heap.size + 1)).t.nn b := by
    rintro b (h | h | ⟨i, hi, h⟩)
    · cases h
    · cases h
    · exact absurd hi (Nat.not_lt_zero _)
  refine ⟨dNew (w.heap.size + 1), fun _ => .slice none 0 0, rfl, rfl, { ply := { gw := hG.below hb2, sem := dNew_sem _, r := ⟨OL.nil _ _ _ _, fun i hi => absurd hi (Nat.not_lt_zero _), OL.nil _ _ _ _⟩, ap := fun b hb' => absurd hb' (nz b), fh := fun b hb' => by have := dNew_fh hb'; omega, fz := fun b hb' => absurd hb' (nz b), bel := (ha.trans (hb.mono (by omega))).trans (hb2.mono (by omega)), nn := Nat.le_refl _, ne := Nat.le_refl _, np := Nat.le_refl _, al := fun i hi => absurd hi (Nat.not_lt_zero _) }, abs := ⟨rfl, fun i hi => absurd hi (Nat.not_lt_zero _), rfl, fun i hi => absurd hi (Nat.not_lt_zero _)⟩, bw := heap_alloc_new w1 _, br := ?_, fw := ⟨fun hf => by have := hG.hlt hf; omega, nz _⟩, fr := ⟨fun hf => by have := dNew_fh hf; omega, nz _⟩, new := ⟨Nat.le_refl _, by omega, by omega⟩ }⟩
  exact (Below.heap_alloc _ _ w.heap.size (by omega)).trans ((hb.block w.heap.size (by omega)).trans (heap_alloc_new w _))

end Euf
end Go.Proofs.Ytmnpefiaelpkfac
