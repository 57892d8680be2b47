/- For the contract of Node; it proves no statement of the seat. -/
import Derived.Test.YtlonnhnfmcndfadEufLJGcd
namespace Go.Proofs.Ytlonnhnfmcndfad
open Go.RowKit
set_option linter.unusedVariables false
namespace Euf
theorem uNodes : Try.prog.underlying 25 = some (.slice 37) := by kernel_rfl
theorem iNode : (Try.prog.info? 37).map (fun i => (i.zero, i.size, i.bytes)) = some (some (.agg #[.string ByteArray.empty, .slice none 0 0]), 2, 40) := by kernel_rfl
/-- The list of nodes is another one. -/
theorem GT.pushNode {w w1 : World} {g : Nat} {d : Gd} (h : GT w g d) {n : Nat} {f0 : Nat → List Value} (ho : OL 2 37 w d.x.c0 n f0) {v : Value} (hap : App d.x.c0 v w w1) {n' : Nat} {f1 : Nat → List Value} (hol : OL 2 37 w1 v n' f1) :
    GT (w1.setCell ⟨g, 0, none⟩ v) g { d with x := { d.x with c0 := v } } ∧ OL 2 37 (w1.setCell ⟨g, 0, none⟩ v) v n' f1 ∧ Mv (fun b => b = g ∨ d.x.c0.ownBlock = some b) w (w1.setCell ⟨g, 0, none⟩ v) := by
  have keep : ∀ b, b < w.heap.size → d.x.c0.ownBlock ≠ some b → b ≠ g → (w1.setCell ⟨g, 0, none⟩ v).heap[b]? = w.heap[b]? := fun b hb h1 h2 => (heap_setCell_other w1 ⟨g, 0, none⟩ b v h2).trans (hap.other b hb h1)
  have hg : w1.heap[g]? = _ := (hap.other g h.cw.lt (ho.neB h.cw.blk (by decide))).trans h.cw.blk
  have other : ∀ {sz : Nat} {e : TypeId} {v' : Value} {n : Nat} {f' : Nat → List Value}, OL sz e w v' n f' → e ≠ 37 → e ≠ 72 → OL sz e (w1.setCell ⟨g, 0, none⟩ v) v' n f' := by
    intro sz e v' n f' hv h1 h2
    refine hv.stay fun b hb => keep b (hv.lt hb) (fun hc => hv.ne ho h1 hb hc) (fun e' => hv.neB h.cw.blk h2 (by rw [hb, e']))
  have mp : ∀ {K E : TypeId} {b k : Nat} {m : Value → Option Int}, MapF Try.prog K E w b k m → MapF Try.prog K E (w1.setCell ⟨g, 0, none⟩ v) b k m := by
    intro K E b k m hm
    refine hm.stay (keep _ hm.lt (fun hc => ho.neM hm hc) (fun e' => ?_))
    obtain ⟨es, cl, he⟩ := hm.isMap
    rw [e', h.cw.blk] at he
    cases he
  refine ⟨⟨{ blk := ?_, parts := other h.cw.parts (by decide) (by decide), whole := other h.cw.whole (by decide) (by decide), eqs := other h.cw.eqs (by decide) (by decide), spots := other h.cw.spots (by decide) (by decide), uses := fun i hi => other (h.cw.uses i hi) (by decide) (by decide), claims := other h.cw.claims (by decide) (by decide), sig := mp h.cw.sig, apart := h.cw.apart, apartW := h.cw.apartW, small := h.cw.small }, h.c2, h.c3, mp h.heads, mp h.pairs, h.mne⟩, ?_, ?_⟩
  · exact (heap_setCell_same w1 g 0 _ 72 v hg).trans rfl
  · exact hol.stay fun b hb => heap_setCell_other w1 ⟨g, 0, none⟩ b v (fun e' => hol.neB hg (by decide) (by rw [hb, e']))
  · exact ⟨hap.os, hap.tape, hap.output, by simp; exact hap.size, fun b hb hn => keep b hb (fun hc => hn (Or.inr hc)) (fun e' => hn (Or.inl e'))⟩
/-- The blocks that 'Node' may write. -/
def Fn (g : Nat) (d : Gd) (b : Nat) : Prop := d.x.c0.ownBlock = some b ∨ Fa g d b
/-- What 'Node' adds. -/
structure Grown (d : Gd) (s : ByteArray) (l : List Nat) (d' : Gd) : Prop where
  nn : d'.t.nn = d.t.nn + 1
  N : d'.t.N = upd d.t.N d.t.nn (s, l)
  ne : d'.f.ne = d.f.ne ∧ d'.f.E = d.f.E
  P : ∀ i, i < d.f.np → d'.f.P i = d.f.P i
  np : d.f.np ≤ d'.f.np ∧ d'.f.np ≤ d.f.np + l.length + 1
  W : ∀ i, i < d.t.nn → d'.f.W i = d.f.W i
  r : d'.m = d.m ∧ d'.y = d.y ∧ d'.s = d.s ∧ d'.bH = d.bH ∧ d'.bR = d.bR ∧ d'.x.c1 = d.x.c1 ∧ d'.x.bG = d.x.bG
  ok : TOk d'.f d'.t none
theorem Added.grown {g : Nat} {d d' : Gd} {s : ByteArray} {l : List Nat} {v : Value} (h : Added g { d with x := { d.x with c0 := v } } s l d') (ag : Nat → Value) : Grown d s l { d' with ag := ag } :=
  ⟨h.nn, h.N, h.ne, h.P, h.np, h.W, ⟨h.r.1, h.r.2.1, h.r.2.2.1, h.r.2.2.2.1, h.r.2.2.2.2.1, h.x.2.1, h.x.2.2⟩, h.ok⟩
/-- A slice of ints that lies by itself. -/
def CP (l : List Nat) (W : World) (u : Value) (wr : World) : Prop := OL 1 3 wr u l.length (natC l) ∧ ∃ b, u.ownBlock = some b ∧ W.heap.size ≤ b
theorem CP.stay {l : List Nat} {W : World} {u : Value} {wr wr' : World} (h : CP l W u wr) (hb : ∀ b, u.ownBlock = some b → wr'.heap[b]? = wr.heap[b]?) : CP l W u wr' := ⟨h.1.stay hb, h.2⟩
/-- When the list of nodes has one more and the parts don't know of it. -/
def MidN (g : Nat) (d : Gd) (s : ByteArray) (l : List Nat) (W wr : World) : Prop :=
  ∃ v u, GT wr g { d with x := { d.x with c0 := v } } ∧ OL 2 37 wr v (d.t.nn + 1) (fun i => [.string (upd d.t.N d.t.nn (s, l) i).1, upd d.ag d.t.nn u i]) ∧ (∀ i, i < d.t.nn + 1 → OL 1 3 wr (upd d.ag d.t.nn u i) (upd d.t.N d.t.nn (s, l) i).2.length (natC (upd d.t.N d.t.nn (s, l) i).2)) ∧
    (∃ b, u.ownBlock = some b ∧ W.heap.size ≤ b) ∧ Mv (fun b => b = g ∨ d.x.c0.ownBlock = some b) W wr ∧ (v.ownBlock = d.x.c0.ownBlock ∨ ∃ b, v.ownBlock = some b ∧ W.heap.size ≤ b)
theorem GW.mid {w w1 : World} {g : Nat} {d : Gd} (h : GW w g d) {s : ByteArray} {l : List Nat} {u v : Value} (hap : App d.x.c0 v w w1) (hol : OL 2 37 w1 v (d.t.nn + 1) (fun i => [.string (upd d.t.N d.t.nn (s, l) i).1, upd d.ag d.t.nn u i])) (hu : CP l w u w1) : MidN g d s l w (w1.setCell ⟨g, 0, none⟩ v) := by
  obtain ⟨k1, k2, k3⟩ := h.gt.pushNode h.nodes hap hol
  have hg : w1.heap[g]? = _ := (hap.other g h.cw.lt (h.nodes.neB h.cw.blk (by decide))).trans h.cw.blk
  refine ⟨v, u, k1, k2, fun i hi => ?_, hu.2, k3, hap.at_⟩
  by_cases e : i = d.t.nn
  · subst e; rw [upd_same, upd_same]
    exact hu.1.stay fun b hb => heap_setCell_other w1 ⟨g, 0, none⟩ b v (fun e' => hu.1.neB hg (by decide) (by rw [hb, e']))
  · rw [upd_other _ _ e, upd_other _ _ e]
    have ha := h.args i (by omega)
    exact ha.stay fun b hb => k3.other b (ha.lt hb) (by
      rintro (e' | e')
      · exact ha.neB h.cw.blk (by decide) (by rw [hb, e'])
      · exact ha.ne h.nodes (by decide) hb e')
/-- The graph after 'Node'. -/
theorem MidN.done {w W wr w' : World} {g : Nat} {d : Gd} {s : ByteArray} {l : List Nat} (h0 : GW W g d) {v u : Value}
    (h2 : OL 2 37 wr v (d.t.nn + 1) (fun i => [.string (upd d.t.N d.t.nn (s, l) i).1, upd d.ag d.t.nn u i])) (h3 : ∀ i, i < d.t.nn + 1 → OL 1 3 wr (upd d.ag d.t.nn u i) (upd d.t.N d.t.nn (s, l) i).2.length (natC (upd d.t.N d.t.nn (s, l) i).2))
    (h4 : ∃ b, u.ownBlock = some b ∧ W.heap.size ≤ b) (h1 : GT wr g { d with x := { d.x with c0 := v } }) (hW : W.heap.size ≤ wr.heap.size)
    (ha : AddEnd g { d with x := { d.x with c0 := v } } s l wr w') : ∃ d', Grown d s l d' ∧ GW w' g d' ∧ d'.x.c0 = v ∧ Mv (Fa g d) wr w' ∧ (d'.x.vP.ownBlock = d.x.vP.ownBlock ∨ ∃ b, d'.x.vP.ownBlock = some b ∧ wr.heap.size ≤ b) ∧ (d'.x.vW.ownBlock = d.x.vW.ownBlock ∨ ∃ b, d'.x.vW.ownBlock = some b ∧ wr.heap.size ≤ b) ∧ ∃ u b, d'.ag = upd d.ag d.t.nn u ∧ u.ownBlock = some b ∧ W.heap.size ≤ b := by
  obtain ⟨d', k1, k2, k3, k4, k5⟩ := ha
  have own : ∀ i, i < d.t.nn + 1 → ∀ b, (upd d.ag d.t.nn u i).ownBlock = some b → d.x.vW.ownBlock ≠ some b := by
    intro i hi b hb
    by_cases e : i = d.t.nn
    · subst e; rw [upd_same] at hb
      intro hc
      obtain ⟨b', e1, e2⟩ := h4
      rw [hb] at e1; injection e1 with e1
      have := h0.cw.whole.lt hc
      omega
    · rw [upd_other _ _ e] at hb; exact h0.ap1 i (by omega) b hb
  have nfa : ∀ {b : Nat}, Fa g d b → Fa g { d with x := { d.x with c0 := v } } b := fun h => h
  obtain ⟨b4, h41, h42⟩ := h4
  have h4 : ∃ b, u.ownBlock = some b ∧ W.heap.size ≤ b := ⟨b4, h41, h42⟩
  refine ⟨{ d' with ag := upd d.ag d.t.nn u }, k1.grown _, ?_, k1.x.1, k3, k4, k5, u, b4, rfl, h41, h42⟩
  refine { cw := k2.cw, c2 := k2.c2, c3 := k2.c3, nodes := ?_, args := ?_, heads := k2.heads, pairs := k2.pairs, mne := k2.mne, ap1 := ?_, ap2 := ?_ }
  · show OL 2 37 w' d'.x.c0 d'.t.nn (fun i => [.string (d'.t.N i).1, upd d.ag d.t.nn u i])
    rw [k1.nn, k1.N, k1.x.1]
    refine h2.stay fun b hb => k3.other b (h2.lt hb) ?_
    rintro (e | e | e | e | e)
    · exact h2.neB h1.cw.blk (by decide) (by rw [hb, e])
    · exact h2.ne h1.cw.parts (by decide) hb e
    · exact h2.ne h1.cw.whole (by decide) hb e
    · exact h2.neM h1.heads (by rw [hb, e])
    · exact h2.neM h1.pairs (by rw [hb, e])
  · intro i hi
    replace hi : i < d'.t.nn := hi
    rw [k1.nn] at hi
    show OL 1 3 w' (upd d.ag d.t.nn u i) (d'.t.N i).2.length (natC (d'.t.N i).2)
    rw [k1.N]
    have h3i := h3 i hi
    refine h3i.stay fun b hb => k3.other b (h3i.lt hb) ?_
    rintro (e | e | e | e | e)
    · exact h3i.neB h1.cw.blk (by decide) (by rw [hb, e])
    · exact h3i.ne h1.cw.parts (by decide) hb e
    · exact own i hi b hb e
    · exact h3i.neM h1.heads (by rw [hb, e])
    · exact h3i.neM h1.pairs (by rw [hb, e])
  · intro i hi b hb
    replace hi : i < d'.t.nn := hi
    rw [k1.nn] at hi
    show d'.x.vW.ownBlock ≠ some b
    rcases k5 with h9 | ⟨b', h9, h10⟩
    · rw [h9]; exact own i hi b hb
    · rw [h9]; intro e; injection e with e
      have := (h3 i hi).lt hb
      omega
  · intro i hi j hj b hb
    replace hi : i < d'.t.nn := hi
    rw [k1.nn] at hi
    replace hi : i < d.t.nn + 1 := hi
    replace hj : j < d'.s.ns := hj
    have hs : d'.s = d.s := k1.r.2.2.1
    have hy : d'.y = d.y := k1.r.2.1
    rw [hs] at hj
    show (d'.y.au j).ownBlock ≠ some b
    rw [hy]
    replace hb : (upd d.ag d.t.nn u i).ownBlock = some b := hb
    by_cases e : i = d.t.nn
    · subst e; rw [upd_same] at hb
      intro hc
      obtain ⟨b', e1, e2⟩ := h4
      rw [hb] at e1; injection e1 with e1
      have := (h0.cw.uses j hj).lt hc
      omega
    · rw [upd_other _ _ e] at hb; exact h0.ap2 i (by omega) j hj b hb
end Euf
end Go.Proofs.Ytlonnhnfmcndfad
