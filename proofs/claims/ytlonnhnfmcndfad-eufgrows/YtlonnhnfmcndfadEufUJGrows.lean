/- For the contracts of New, Equal and Same; it proves no statement of the seat. -/
import Derived.Test.YtlonnhnfmcndfadEufQJGrows
namespace Go.Proofs.Ytlonnhnfmcndfad
open Go.RowKit
set_option linter.unusedVariables false
namespace Euf
theorem uEqs : Try.prog.underlying 68 = some (.slice 79) := by kernel_rfl
theorem iEq : (Try.prog.info? 79).map (fun i => (i.zero, i.size, i.bytes)) = some (some (.agg #[.int .i64 0, .int .i64 0, .int .i64 0]), 3, 24) := by kernel_rfl
def eqC (E : Nat → Nat × Nat × Nat) (i : Nat) : List Value := [.int .i64 ((E i).1 : Nat), .int .i64 ((E i).2.1 : Nat), .int .i64 ((E i).2.2 : Nat)]
/-- All the blocks that belong to the graph. -/
def Fg (g : Nat) (d : Gd) (b : Nat) : Prop := Fn g d b ∨ d.x.c1.ownBlock = some b ∨ Ft g d.x d.y d.s.ns b
/-- With one equation more. -/
def dE (d : Gd) (v : Value) (e : Nat × Nat × Nat) : Gd := { d with x := { d.x with c1 := v }, f := { d.f with ne := d.f.ne + 1, E := upd d.f.E d.f.ne e } }
theorem GW.pushEq {w w1 : World} {g : Nat} {d : Gd} (h : GW w g d) (e : Nat × Nat × Nat) {v : Value} (hap : App d.x.c1 v w w1) (hol : OL 3 79 w1 v (d.f.ne + 1) (eqC (upd d.f.E d.f.ne e))) :
    GW (w1.setCell ⟨g, 1, none⟩ v) g (dE d v e) ∧ Mv (Fg g d) w (w1.setCell ⟨g, 1, none⟩ v) ∧ (∀ b, Fg g (dE d v e) b → Fg g d b ∨ w.heap.size ≤ b) := by
  have ho := h.cw.eqs
  have keep : ∀ b, b < w.heap.size → d.x.c1.ownBlock ≠ some b → b ≠ g → (w1.setCell ⟨g, 1, none⟩ v).heap[b]? = w.heap[b]? := fun b hb h1 h2 => (heap_setCell_other w1 ⟨g, 1, none⟩ b v h2).trans (hap.other b hb h1)
  have hg : w1.heap[g]? = _ := (hap.other g h.cw.lt (ho.neB h.cw.blk (by decide))).trans h.cw.blk
  have other : ∀ {sz : Nat} {e : TypeId} {v' : Value} {n : Nat} {f' : Nat → List Value}, OL sz e w v' n f' → e ≠ 79 → e ≠ 72 → OL sz e (w1.setCell ⟨g, 1, none⟩ v) v' n f' := by
    intro sz e v' n f' hv h1 h2
    refine hv.stay fun b hb => keep b (hv.lt hb) (fun hc => hv.ne ho h1 hb hc) (fun e' => hv.neB h.cw.blk h2 (by rw [hb, e']))
  have mp : ∀ {K E : TypeId} {b k : Nat} {m : Value → Option Int}, MapF Try.prog K E w b k m → MapF Try.prog K E (w1.setCell ⟨g, 1, none⟩ v) b k m := by
    intro K E b k m hm
    refine hm.stay (keep _ hm.lt (fun hc => ho.neM hm hc) (fun e' => ?_))
    obtain ⟨es, cl, he⟩ := hm.isMap
    rw [e', h.cw.blk] at he
    cases he
  refine ⟨{ cw := { blk := ?_, parts := other h.cw.parts (by decide) (by decide), whole := other h.cw.whole (by decide) (by decide), eqs := ?_, spots := other h.cw.spots (by decide) (by decide), uses := fun i hi => other (h.cw.uses i hi) (by decide) (by decide), claims := other h.cw.claims (by decide) (by decide), sig := mp h.cw.sig, apart := h.cw.apart, apartW := h.cw.apartW, small := h.cw.small }, c2 := h.c2, c3 := h.c3, nodes := other h.nodes (by decide) (by decide), args := fun i hi => other (h.args i hi) (by decide) (by decide), heads := mp h.heads, pairs := mp h.pairs, mne := h.mne, ap1 := h.ap1, ap2 := h.ap2 }, ?_, ?_⟩
  · exact (heap_setCell_same w1 g 1 _ 72 v hg).trans rfl
  · exact hol.stay fun b hb => heap_setCell_other w1 ⟨g, 1, none⟩ b v (fun e' => hol.neB hg (by decide) (by rw [hb, e']))
  · exact ⟨hap.os, hap.tape, hap.output, by simp; exact hap.size, fun b hb hn => keep b hb (fun hc => hn (Or.inr (Or.inl hc))) (fun e' => hn (Or.inl (Or.inr (Or.inl e'))))⟩
  · rintro b (h1 | h1 | h1)
    · exact Or.inl (Or.inl h1)
    · rcases hap.at_ with h2 | ⟨b', h2, h3⟩
      · exact Or.inl (Or.inr (Or.inl (h2.symm.trans h1)))
      · right
        have := h2.symm.trans h1
        injection this with this
        omega
    · exact Or.inl (Or.inr (Or.inr h1))
/-- After the classes were made. -/
def dR (d : Gd) (m : Nat) (y : Ly) (s : Sx) : Gd := { d with m := m, y := y, s := s }
theorem GW.ran {w w' : World} {g : Nat} {d : Gd} (h : GW w g d) {m : Nat} {y : Ly} {s : Sx} (hC : CW w' g d.x d.f m y s) (hM : Mv (Ft g d.x d.y d.s.ns) w w') (hF : ∀ b, Ft g d.x y s.ns b → Ft g d.x d.y d.s.ns b ∨ w.heap.size ≤ b) :
    GW w' g (dR d m y s) ∧ Mv (Fg g d) w w' ∧ (∀ b, Fg g (dR d m y s) b → Fg g d b ∨ w.heap.size ≤ b) := by
  have nargs : ∀ i, i < d.t.nn → ∀ b, (d.ag i).ownBlock = some b → ¬ Ft g d.x d.y d.s.ns b := by
    intro i hi b hb
    have ha := h.args i hi
    rintro (e | e | e | e | ⟨j, hj, e⟩)
    · exact ha.neB h.cw.blk (by decide) (by rw [hb, e])
    · exact ha.neM h.cw.sig (by rw [hb, e])
    · exact ha.ne h.cw.spots (by decide) hb e
    · exact ha.ne h.cw.claims (by decide) hb e
    · exact h.ap2 i hi j hj b hb e
  have mp : ∀ {K E : TypeId} {b k : Nat} {m : Value → Option Int}, MapF Try.prog K E w b k m → b ≠ d.x.bG → MapF Try.prog K E w' b k m := by
    intro K E b k m hm hne
    refine hm.stay (hM.other _ hm.lt ?_)
    rintro (e | e | e | e | ⟨j, hj, e⟩)
    · obtain ⟨es, cl, he⟩ := hm.isMap
      rw [e, h.cw.blk] at he
      cases he
    · exact hne e
    · exact h.cw.spots.neM hm e
    · exact h.cw.claims.neM hm e
    · exact (h.cw.uses j hj).neM hm e
  refine ⟨{ cw := hC, c2 := h.c2, c3 := h.c3, nodes := ?_, args := fun i hi => (h.args i hi).stay fun b hb => hM.other b ((h.args i hi).lt hb) (nargs i hi b hb), heads := mp h.heads h.mne.2.1, pairs := mp h.pairs h.mne.2.2, mne := h.mne, ap1 := h.ap1, ap2 := ?_ }, ?_, ?_⟩
  · have ha := h.nodes
    refine ha.stay fun b hb => hM.other b (ha.lt hb) ?_
    rintro (e | e | e | e | ⟨j, hj, e⟩)
    · exact ha.neB h.cw.blk (by decide) (by rw [hb, e])
    · exact ha.neM h.cw.sig (by rw [hb, e])
    · exact ha.ne h.cw.spots (by decide) hb e
    · exact ha.ne h.cw.claims (by decide) hb e
    · exact ha.ne (h.cw.uses j hj) (by decide) hb e
  · intro i hi j hj b hb hc
    rcases hF b (Or.inr (Or.inr (Or.inr (Or.inr ⟨j, hj, hc⟩)))) with h9 | h9
    · exact nargs i hi b hb h9
    · have := (h.args i hi).lt hb; omega
  · exact ⟨hM.os, hM.tape, hM.output, hM.size, fun b hb hn => hM.other b hb (fun h9 => hn (Or.inr (Or.inr h9)))⟩
  · rintro b (h1 | h1 | h1)
    · exact Or.inl (Or.inl h1)
    · exact Or.inl (Or.inr (Or.inl h1))
    · rcases hF b h1 with h9 | h9
      · exact Or.inl (Or.inr (Or.inr h9))
      · exact Or.inr h9
theorem GW.lt {w : World} {g : Nat} {d : Gd} (h : GW w g d) {b : Nat} (hb : Fg g d b) : b < w.heap.size := by
  rcases hb with (hb | hb | hb | hb | hb | hb) | hb | hb
  · exact h.nodes.lt hb
  · rw [hb]; exact h.cw.lt
  · exact h.cw.parts.lt hb
  · exact h.cw.whole.lt hb
  · rw [hb]; exact h.heads.lt
  · rw [hb]; exact h.pairs.lt
  · exact h.cw.eqs.lt hb
  · exact h.cw.ftLt hb
/-- Two ints that lie by themselves. -/
theorem ai_two {w : World} {b : Nat} {x y : Int} (h : w.heap[b]? = some (.cells #[.int .i64 x, .int .i64 y] 3 (0, 0))) (cap : Nat) : AI w (.slice (some ⟨b, 0, none⟩) 2 cap) [x, y] := by
  refine ⟨_, cap, rfl, by simp, Or.inr ⟨b, 0, rfl, (Array.getElem?_eq_some_iff.1 h).1, fun i hi => ?_⟩⟩
  simp only [List.length_cons, List.length_nil] at hi
  rw [Nat.zero_add]
  match i with
  | 0 => exact cell_of_row _ b 0 _ 3 (0, 0) h
  | 1 => exact cell_of_row _ b 1 _ 3 (0, 0) h
  | k + 2 => omega
end Euf
end Go.Proofs.Ytlonnhnfmcndfad
