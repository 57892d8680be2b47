/- All blocks of the graph, and what the calls make of them; no statement of the seat is proved here. -/
import Derived.Test.YtlonnhnfmcndfadEufYJTurned
namespace Go.Proofs.Ytlonnhnfmcndfad
open Go.RowKit
set_option linter.unusedVariables false
namespace Euf
/-- All blocks of the graph, those of the nodes' arguments too. -/
def Fh (g : Nat) (d : Gd) (b : Nat) : Prop := Fg g d b ∨ ∃ i, i < d.t.nn ∧ (d.ag i).ownBlock = some b
section
variable {w w' : World} {g : Nat} {d d' : Gd}
theorem GW.hlt (h : GW w g d) {b : Nat} (hb : Fh g d b) : b < w.heap.size := by
  rcases hb with hb | ⟨i, hi, hb⟩
  · exact h.lt hb
  · exact (h.args i hi).lt hb
/-- Nothing of the graph's blocks is written. -/
theorem GW.keep (h : GW w g d) (hb : ∀ b, Fh g d b → w'.heap[b]? = w.heap[b]?) : GW w' g d := by
  have G : ∀ b, Fg g d b → w'.heap[b]? = w.heap[b]? := fun b hb' => hb b (Or.inl hb')
  have T : ∀ b, Ft g d.x d.y d.s.ns b → w'.heap[b]? = w.heap[b]? := fun b hb' => G b (Or.inr (Or.inr hb'))
  have A : ∀ b, Fa g d b → w'.heap[b]? = w.heap[b]? := fun b hb' => G b (Or.inl (Or.inr hb'))
  refine { h with cw := { blk := (T g (Or.inl rfl)).trans h.cw.blk, parts := h.cw.parts.stay fun b e => A b (Or.inr (Or.inl e)), whole := h.cw.whole.stay fun b e => A b (Or.inr (Or.inr (Or.inl e))), eqs := h.cw.eqs.stay fun b e => G b (Or.inr (Or.inl e)), spots := h.cw.spots.stay fun b e => T b (Or.inr (Or.inr (Or.inl e))), uses := fun i hi => (h.cw.uses i hi).stay fun b e => T b (Or.inr (Or.inr (Or.inr (Or.inr ⟨i, hi, e⟩)))), claims := h.cw.claims.stay fun b e => T b (Or.inr (Or.inr (Or.inr (Or.inl e)))), sig := h.cw.sig.stay (T _ (Or.inr (Or.inl rfl))), apart := h.cw.apart, apartW := h.cw.apartW, small := h.cw.small }, nodes := h.nodes.stay fun b e => G b (Or.inl (Or.inl e)), args := fun i hi => (h.args i hi).stay fun b e => hb b (Or.inr ⟨i, hi, e⟩), heads := h.heads.stay (A _ (Or.inr (Or.inr (Or.inr (Or.inl rfl))))), pairs := h.pairs.stay (A _ (Or.inr (Or.inr (Or.inr (Or.inr rfl))))) }
theorem Grown.fh {s : ByteArray} {l : List Nat} {n : Nat} (h : Grown d s l d') (h1 : ∀ b, Fn g d' b → Fn g d b ∨ n ≤ b) (h2 : ∃ u b, d'.ag = upd d.ag d.t.nn u ∧ u.ownBlock = some b ∧ n ≤ b) : ∀ b, Fh g d' b → Fh g d b ∨ n ≤ b := by
  rintro b ((hb | hb | hb) | ⟨i, hi, hb⟩)
  · exact (h1 b hb).imp (fun h9 => Or.inl (Or.inl h9)) id
  · exact Or.inl (Or.inl (Or.inr (Or.inl (h.r.2.2.2.2.2.1 ▸ hb))))
  · left; left; right; right
    obtain ⟨_, r2, r3, _, _, _, r7⟩ := h.r
    unfold Ft at hb ⊢
    rw [r2, r3, r7] at hb
    exact hb
  · obtain ⟨u, b', e1, e2, e3⟩ := h2
    rw [e1] at hb
    by_cases e : i = d.t.nn
    · subst e; rw [upd_same] at hb
      right
      rw [e2] at hb; injection hb with hb
      omega
    · rw [upd_other _ _ e] at hb
      rw [h.nn] at hi
      exact Or.inl (Or.inr ⟨i, by omega, hb⟩)
theorem dE_fh {v : Value} {e : Nat × Nat × Nat} {n : Nat} (h : ∀ b, Fg g (dE d v e) b → Fg g d b ∨ n ≤ b) : ∀ b, Fh g (dE d v e) b → Fh g d b ∨ n ≤ b := by
  rintro b (hb | hb)
  · exact (h b hb).imp Or.inl id
  · exact Or.inl (Or.inr hb)
theorem dR_fh {m : Nat} {y : Ly} {s : Sx} {n : Nat} (h : ∀ b, Fg g (dR d m y s) b → Fg g d b ∨ n ≤ b) : ∀ b, Fh g (dR d m y s) b → Fh g d b ∨ n ≤ b := by
  rintro b (hb | hb)
  · exact (h b hb).imp Or.inl id
  · exact Or.inl (Or.inr hb)
theorem dNew_fh {n b : Nat} (h : Fh (n + 3) (dNew n) b) : n ≤ b := by
  rcases h with h | ⟨i, hi, _⟩
  · exact dNew_fg h
  · exact absurd hi (Nat.not_lt_zero _)
/-- What holds of the graph between calls, with what its classes mean. -/
structure GSem (d : Gd) : Prop where
  ok : GOk d
  sem : Sem d.f d.m d.s
theorem dNew_sem (n : Nat) : GSem (dNew n) := by
  refine ⟨{ t := dNew_ok n, f := ⟨(dNew_ok n).partsOk, fun i hi => absurd hi (Nat.not_lt_zero _), fun k hk => absurd hk (Nat.not_lt_zero _)⟩, cl := rfl, inv := ?_, m := Nat.le_refl _ }, Sem.none _ _ rfl⟩
  exact { parts := (dNew_ok n).partsOk, le := Nat.le_refl _, lt := fun i hi => absurd hi (Nat.not_lt_zero _), rep := fun i hi => absurd hi (Nat.not_lt_zero _), ring := fun i hi => absurd hi (Nat.not_lt_zero _), ups := fun i hi => absurd hi (Nat.not_lt_zero _), upc := fun i hi => absurd hi (Nat.not_lt_zero _), use1 := fun i hi => absurd hi (Nat.not_lt_zero _), use2 := fun i hi => absurd hi (Nat.not_lt_zero _), useN := Nat.le_refl _, sg1 := fun k q h => (by cases h), sg2 := fun i hi => absurd hi (Nat.not_lt_zero _), cls := fun c hc => (by cases hc) }
theorem Inv.more {np np' ns : Nat} {P P' : Nat → Part} {S : Nat → Spot} {sg : Nat × Nat → Option Nat} (h : Inv np P ns S sg [] []) (hp : PartsOk np' P') (hnp : np ≤ np') (hP : ∀ i, i < np → P' i = P i) : Inv np' P' ns S sg [] [] := by
  have hle := h.le
  have sg_ : ∀ p, p < ns → sig P' S p = sig P S p := fun p hp => by unfold sig; rw [hP p (by omega)]
  have md : ∀ p, p < ns → (Made P' p ↔ Made P p) := fun p hp => by unfold Made; rw [hP p (by omega)]
  refine { h with parts := hp, le := by omega, use1 := fun p h1 h2 => ?_, use2 := fun c h1 p h2 => ?_, sg1 := fun k q h1 => ?_, sg2 := fun p h1 h2 h3 => ?_ }
  · rw [sg_ p h1]; exact h.use1 p h1 ((md p h1).1 h2)
  · obtain ⟨k1, k2, k3⟩ := h.use2 c h1 p h2
    exact ⟨k1, (md p k1).2 k2, by rw [sg_ p k1]; exact k3⟩
  · obtain ⟨k1, k2, k3⟩ := h.sg1 k q h1
    exact ⟨k1, (md q k1).2 k2, by rw [sg_ q k1]; exact k3⟩
  · obtain ⟨q, k1, k2⟩ := h.sg2 p h1 ((md p h1).1 h2) h3
    exact ⟨q, by rw [sg_ p h1]; exact k1, k2⟩
theorem Grown.sem {s : ByteArray} {l : List Nat} (h : Grown d s l d') (hs : GSem d) : GSem d' := by
  obtain ⟨r1, r2, r3, _⟩ := h.r
  have nw := hs.ok.t.nw
  have hf : FOk d'.f := by
    refine ⟨h.ok.partsOk, fun i hi => (h.ok.whole i (by rw [← h.ok.nw]; exact hi)).1, fun k hk => ?_⟩
    rw [h.ne.1] at hk
    rw [h.ne.2]
    obtain ⟨e1, e2, e3, e4, e5⟩ := hs.ok.f.eqs k hk
    rw [h.W _ (by omega), h.W _ (by omega), h.ok.nw, h.nn]
    have := h.np.1
    exact ⟨by omega, by omega, e3, e4, by omega⟩
  refine ⟨{ t := h.ok, f := hf, cl := by rw [r3]; exact hs.ok.cl, inv := ?_, m := by rw [r1, h.ne.1]; exact hs.ok.m }, ?_⟩
  · rw [r3]; exact hs.ok.inv.more h.ok.partsOk h.np.1 h.P
  · rw [r1, r3]
    exact hs.sem.grow hs.ok.f hs.ok.inv.le h.np.1 h.P (fun i hi => h.W i (by omega)) (by rw [h.ne.1]; exact Nat.le_refl _) (fun k _ => by rw [h.ne.2])
theorem dE_sem {v : Value} {a b : Nat} (hs : GSem d) (ha : a < d.t.nn) (hb : b < d.t.nn) : GSem (dE d v (a, b, d.f.np)) := by
  have nw := hs.ok.t.nw
  have t' : TOk (dE d v (a, b, d.f.np)).f d.t none := { hs.ok.t with }
  refine ⟨{ t := t', f := ⟨hs.ok.f.parts, hs.ok.f.whole, fun k hk => ?_⟩, cl := hs.ok.cl, inv := hs.ok.inv, m := Nat.le_succ_of_le hs.ok.m }, ?_⟩
  · replace hk : k < d.f.ne + 1 := hk
    show (upd d.f.E d.f.ne (a, b, d.f.np) k).1 < d.f.nw ∧ (upd d.f.E d.f.ne (a, b, d.f.np) k).2.1 < d.f.nw ∧ d.f.W (upd d.f.E d.f.ne (a, b, d.f.np) k).1 < (upd d.f.E d.f.ne (a, b, d.f.np) k).2.2 ∧ d.f.W (upd d.f.E d.f.ne (a, b, d.f.np) k).2.1 < (upd d.f.E d.f.ne (a, b, d.f.np) k).2.2 ∧ (upd d.f.E d.f.ne (a, b, d.f.np) k).2.2 ≤ d.f.np
    by_cases e : k = d.f.ne
    · subst e; rw [upd_same]
      exact ⟨by rw [nw]; exact ha, by rw [nw]; exact hb, (hs.ok.t.whole a ha).1, (hs.ok.t.whole b hb).1, Nat.le_refl _⟩
    · rw [upd_other _ _ e]; exact hs.ok.f.eqs k (by omega)
  · exact hs.sem.grow (f' := (dE d v (a, b, d.f.np)).f) hs.ok.f hs.ok.inv.le (Nat.le_refl _) (fun _ _ => rfl) (fun _ _ => rfl) (Nat.le_succ _) (fun k hk => upd_other _ _ (by omega))
theorem dR_sem {y : Ly} {s : Sx} (hs : GSem d) (hr : Run d.f d.m d.s d.f.ne s) : GSem (dR d d.f.ne y s) := by
  obtain ⟨k1, k2⟩ := hr.ok hs.ok.f hs.ok.cl hs.ok.inv
  exact ⟨{ t := hs.ok.t, f := hs.ok.f, cl := k1, inv := k2, m := Nat.le_refl _ }, hr.sem hs.ok.f hs.ok.cl hs.ok.inv hs.sem⟩
end
end Euf
end Go.Proofs.Ytlonnhnfmcndfad
