/- A chain of nodes beside the list of their numbers: what the calls make of it; no statement of the seat is proved here. -/
import Derived.Test.YtlonnhnfmcndfadEufWhJGcd
import Derived.Test.YtlonnhnfmcndfadEufZJGcd
namespace Go.Proofs.Ytlonnhnfmcndfad
open Go.RowKit
set_option linter.unusedVariables false
namespace Euf
def sA : ByteArray := { data := #[97] }
def sF : ByteArray := { data := #[102] }
theorem Mv.toBelow {F : Nat → Prop} {w w' : World} {n : Nat} (h : Mv F w w') (hn : n ≤ w.heap.size) (hF : ∀ b, F b → n ≤ b) : Below n w w' :=
  ⟨h.os, h.tape, h.output, h.size, fun b hb => h.other b (by omega) (fun hf => by have := hF b hf; omega)⟩
/-- n nodes, a list of the first k numbers, the equations es. -/
structure Ch (w0 w : World) (g : Nat) (d : Gd) (vC : Value) (n k : Nat) (es : List (Nat × Nat)) : Prop where
  gw : GW w g d
  sem : GSem d
  nn : d.t.nn = n
  chain : ChainN sA sF n d.t.N
  ne : d.f.ne = es.length
  eqs : ∀ j, j < es.length → ((d.f.E j).1, (d.f.E j).2.1) = es.getD j (0, 0)
  np : d.f.np ≤ 2 * n
  list : OL 1 3 w vC k (fun i => [.int .i64 (i : Nat)])
  ap : ∀ b, vC.ownBlock = some b → ¬ Fh g d b ∧ w0.heap.size ≤ b
  fh : ∀ b, Fh g d b → w0.heap.size ≤ b
  bel : Below w0.heap.size w0 w
section
variable {w0 w w1 w2 : World} {g : Nat} {d : Gd} {vC : Value} {n k : Nat} {es : List (Nat × Nat)}
theorem Ch.below (h : Ch w0 w g d vC n k es) (hb : Below w.heap.size w w1) : Ch w0 w1 g d vC n k es :=
  { h with gw := h.gw.below hb, list := h.list.stay (fun b hb' => hb.block b (h.list.lt hb')), bel := h.bel.trans (hb.mono h.bel.size) }
theorem Ch.mv (h : Ch w0 w g d vC n k es) {F : Nat → Prop} (hM : Mv F w w1) (hF : ∀ b, F b → Fh g d b) {d' : Gd} (hG : GW w1 g d') (hs : GSem d') (h1 : ∀ b, Fh g d' b → Fh g d b ∨ w.heap.size ≤ b) {n' : Nat} (h2 : d'.t.nn = n') (h3 : ChainN sA sF n' d'.t.N) {es' : List (Nat × Nat)} (h4 : d'.f.ne = es'.length)
    (h5 : ∀ j, j < es'.length → ((d'.f.E j).1, (d'.f.E j).2.1) = es'.getD j (0, 0)) (h6 : d'.f.np ≤ 2 * n') : Ch w0 w1 g d' vC n' k es' := by
  have hsz := h.bel.size
  refine { gw := hG, sem := hs, nn := h2, chain := h3, ne := h4, eqs := h5, np := h6, list := h.list.stay (fun b hb => hM.other b (h.list.lt hb) (fun hf => (h.ap b hb).1 (hF b hf))), ap := fun b hb => ⟨fun hf => ?_, (h.ap b hb).2⟩, fh := fun b hb => ?_, bel := ?_ }
  · rcases h1 b hf with h9 | h9
    · exact (h.ap b hb).1 h9
    · have := h.list.lt hb; omega
  · rcases h1 b hb with h9 | h9
    · exact h.fh b h9
    · omega
  · exact h.bel.trans (hM.toBelow hsz (fun b hb => h.fh b (hF b hb)))
theorem fn_fh {g : Nat} {d : Gd} {b : Nat} (h : Fn g d b) : Fh g d b := Or.inl (Or.inl h)
/-- One node more. -/
theorem Ch.node (h : Ch w0 w g d vC n k es) (hn : 0 < n) (hb : Below w.heap.size w w1) {r : Nat} (hN : NodeEnd g d sF [n - 1] w1 w2 r) : r = n ∧ ∃ d', Ch w0 w2 g d' vC (n + 1) k es := by
  have hno : ∀ a, a < n → d.t.N a ≠ (sF, [n - 1]) := by
    intro a ha e
    match a with
    | 0 => rw [h.chain.1 hn] at e; simp at e
    | a + 1 => rw [h.chain.2 a ha] at e; simp at e; omega
  have h' := h.below hb
  rcases hN with ⟨h1, h2, _⟩ | ⟨h1, h2, d', k1, k2, k3, k4, k5⟩
  · exact absurd h2 (hno r (by rw [h.nn] at h1; exact h1))
  · rw [h.nn] at h1
    refine ⟨h1, d', h'.mv k3 (fun b hb => fn_fh hb) k2 (k1.sem h.sem) (k1.fh k4 k5) (by rw [k1.nn, h.nn]) ?_ (by rw [k1.ne.1]; exact h.ne) (fun j hj => by rw [k1.ne.2]; exact h.eqs j hj) ?_⟩
    · rw [k1.N, h.nn]
      refine ⟨fun _ => ?_, fun i hi => ?_⟩
      · rw [upd_other _ _ (by omega)]; exact h.chain.1 hn
      · by_cases e : i + 1 = n
        · rw [e, upd_same]
          have : n - 1 = i := by omega
          rw [this]
        · rw [upd_other _ _ e]; exact h.chain.2 i (by omega)
    · have := k1.np.2
      have := h.np
      simp at *; omega
/-- The list grows. -/
theorem Ch.push (h : Ch w0 w g d vC n k es) {v : Value} (hap : App vC v w w1) (hol : OL 1 3 w1 v (k + 1) (fun i => [.int .i64 (i : Nat)])) : Ch w0 w1 g d v n (k + 1) es := by
  have hsz := h.bel.size
  refine { h with gw := h.gw.keep (fun b hb => hap.other b (h.gw.hlt hb) (fun e => (h.ap b e).1 hb)), list := hol, ap := fun b hb => ?_, bel := ?_ }
  · rcases hap.at_ with e | ⟨b', e1, e2⟩
    · exact h.ap b (e ▸ hb)
    · rw [e1] at hb; injection hb with hb
      subst hb
      exact ⟨fun hf => by have := h.gw.hlt hf; omega, by omega⟩
  · exact h.bel.trans ⟨hap.os, hap.tape, hap.output, hap.size, fun b hb => hap.other b (by omega) (fun e => by have := (h.ap b e).2; omega)⟩
/-- One equation more. -/
theorem Ch.equal (h : Ch w0 w g d vC n k es) {a b : Nat} (ha : a < n) (hb : b < n) {v : Value} (hG : GW w1 g (dE d v (a, b, d.f.np))) (hM : Mv (Fg g d) w w1) (hF : ∀ c, Fg g (dE d v (a, b, d.f.np)) c → Fg g d c ∨ w.heap.size ≤ c) : ∃ d', Ch w0 w1 g d' vC n k (es ++ [(a, b)]) := by
  have hnn := h.nn
  refine ⟨_, h.mv hM (fun b hb => Or.inl hb) hG (dE_sem h.sem (by omega) (by omega)) (dE_fh hF) h.nn h.chain ?_ (fun j hj => ?_) h.np⟩
  · show d.f.ne + 1 = _
    rw [h.ne]; simp
  · show ((upd d.f.E d.f.ne (a, b, d.f.np) j).1, (upd d.f.E d.f.ne (a, b, d.f.np) j).2.1) = _
    simp only [List.length_append, List.length_singleton] at hj
    by_cases e : j = es.length
    · subst e; rw [← h.ne, upd_same, h.ne]; simp
    · rw [upd_other _ _ (by rw [h.ne]; exact e), h.eqs j (by omega), List.getD_eq_getElem?_getD, List.getD_eq_getElem?_getD, List.getElem?_append_left (by omega)]
/-- What 'Same' tells of it. -/
theorem Ch.same {a b c : Nat} (h : Ch w0 w g d vC n k [(a, 0), (0, b)]) (ha : 0 < a) (hb : 0 < b) (ha' : a < n) (hb' : b < n) (hc : c < n) {s : Sx} (hr : Run d.f d.m d.s d.f.ne s) (hns : s.ns = d.f.np) : decide ((s.S (d.f.W c)).cls = (s.S (d.f.W 0)).cls) = decide (Nat.gcd a b ∣ c) := by
  have hn : 0 < n := by omega
  have hnn := h.nn
  obtain ⟨k1, k2⟩ := hr.ok h.sem.ok.f h.sem.ok.cl h.sem.ok.inv
  have hS := hr.sem h.sem.ok.f h.sem.ok.cl h.sem.ok.inv h.sem.sem
  have h1 := same_iff h.sem.ok.t h.sem.ok.f hS k2 hns (a := c) (b := 0) (by omega) (by omega)
  have hE : ∀ x y, EqOf d.f x y ↔ (x = a ∧ y = 0) ∨ (x = 0 ∧ y = b) := by
    intro x y
    have e0 := h.eqs 0 (by simp)
    have e1 := h.eqs 1 (by simp)
    have hne := h.ne
    simp only [List.getD_cons_zero, List.getD_cons_succ, Prod.mk.injEq] at e0 e1
    constructor
    · rintro ⟨j, hj, rfl, rfl⟩
      rw [hne] at hj
      match j, hj with
      | 0, _ => exact Or.inl e0
      | 1, _ => exact Or.inr e1
    · rintro (⟨rfl, rfl⟩ | ⟨rfl, rfl⟩)
      · exact ⟨0, by rw [hne]; simp, e0.1, e0.2⟩
      · exact ⟨1, by rw [hne]; simp, e1.1, e1.2⟩
  have h2 := chain_iff (E := EqOf d.f) (nn := d.t.nn) (N := d.t.N) (by rw [hnn]; exact h.chain) ha hb (by omega) (by omega) (show c < d.t.nn by omega) hE
  rw [decide_eq_decide, h1, h2]
end
end Euf
end Go.Proofs.Ytlonnhnfmcndfad
