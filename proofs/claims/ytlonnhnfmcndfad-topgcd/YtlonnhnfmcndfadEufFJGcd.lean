/- The contract of add; it proves no statement of the seat. -/
import Derived.Test.YtlonnhnfmcndfadEufDJGcd
namespace Go.Proofs.Ytlonnhnfmcndfad
open Go.RowKit
set_option linter.unusedVariables false
namespace Euf
theorem Mv.turned {F : Nat → Prop} {w0 w w' : World} {b : Nat} (h : Mv F w0 w) (ht : w.mapTurned w' b) (hb : F b ∨ w0.heap.size ≤ b) : Mv F w0 w' := by
  have hg := ht.grown
  refine ⟨hg.os.trans h.os, hg.tape.trans h.tape, hg.output.trans h.output, Nat.le_trans h.size hg.size, fun c hc hn => ?_⟩
  refine (hg.block c (Nat.lt_of_lt_of_le hc h.size) (fun e => ?_)).trans (h.other c hc hn)
  simp at e; subst e
  rcases hb with hb | hb
  · exact hn hb
  · omega
theorem enterPair {w : World} {g : Nat} {D : Gd} (h : GT w g D) {p c q : Nat} (hp : p ≤ 10000) (hc : c ≤ 10000) (hq : q ≤ 10000) {lab : Nat → Lab} {ex : Option Lab} {pr' : Nat × Nat → Option Nat} (hpr : pr' = fun k => if k = (p, c) then some q else D.t.pr k) (ht : TOk D.f { D.t with lab := lab, pr := pr' } ex) :
    ∃ w', (Instr.mapUpdate 64 (.map (some D.bR)) (.agg #[.int .i64 (p : Nat), .int .i64 (c : Nat)]) (.int .i64 (q : Nat))).run Try.prog w = .ok () w' ∧ GT w' g (dT D D.x.vP D.f.np D.f.P lab D.t.hd pr') ∧ w.mapTurned w' D.bR := by
  have hsm := h.cw.small
  obtain ⟨kl, hkl⟩ := keyPair (a := (p : Nat)) (b := (c : Nat)) (wfNat (by omega)) (wfNat (by omega))
  obtain ⟨w5, hrun, hmap, hturn⟩ := h.pairs.put lawPair uSig uInt (by unfold maxLen; omega) hkl (x := (q : Nat)) (wfNat (by omega)) (sgF pr') (by rw [sgF_at, hpr]; simp) (sgF_other (fun k hk => by rw [hpr]; simp [hk]))
  exact ⟨w5, hrun, h.putPair hturn (hmap.sgTight lawPair _ (fun r => ((D.f.P r).front.toNat, (D.f.P r).arg.toNat)) ht.prKey) lab, hturn⟩
theorem enterHead {w : World} {g : Nat} {D : Gd} (h : GT w g D) {s : ByteArray} {n q : Nat} (hs : s.size ≤ maxLen) (hn : n ≤ 10000) (hq : q ≤ 10000) {lab : Nat → Lab} {ex : Option Lab} {hd' : ByteArray × Nat → Option Nat} (hhd : hd' = fun k => if k = (s, n) then some q else D.t.hd k) (ht : TOk D.f { D.t with lab := lab, hd := hd' } ex) :
    ∃ w', (Instr.mapUpdate 63 (.map (some D.bH)) (.agg #[.string s, .int .i64 (n : Nat)]) (.int .i64 (q : Nat))).run Try.prog w = .ok () w' ∧ GT w' g (dT D D.x.vP D.f.np D.f.P lab hd' D.t.pr) ∧ w.mapTurned w' D.bH := by
  have hsm := h.cw.small
  obtain ⟨kl, hkl⟩ := keyHead (n := n) hs (by omega)
  obtain ⟨w5, hrun, hmap, hturn⟩ := h.heads.put lawHead uHead uInt (by unfold maxLen; omega) hkl (x := (q : Nat)) (wfNat (by omega)) (hdF hd') (by rw [hdF_at, hhd]; simp) (hdF_other (fun k hk => by rw [hhd]; simp [hk]))
  exact ⟨w5, hrun, h.putHead hturn (hmap.hdTight _ lab ht.hd1) lab, hturn⟩
/-- While a node is being added. -/
structure AddSt (g : Nat) (d : Gd) (s : ByteArray) (l : List Nat) (k at_ : Nat) (w wr : World) (D : Gd) : Prop where
  is : ∃ v np P lab hd pr, D = dT d v np P lab hd pr
  gt : GT wr g D
  ok : TOk D.f D.t (some (s, l.length, l))
  P : ∀ i, i < d.f.np → D.f.P i = d.f.P i
  lab : ∀ i, i < d.f.np → D.t.lab i = d.t.lab i
  np : d.f.np ≤ D.f.np ∧ D.f.np ≤ d.f.np + 1 + k
  lt : at_ < D.f.np
  at_ : D.t.lab at_ = (s, l.length, l.take k)
  mv : Mv (Fa g d) w wr
  vP : D.x.vP.ownBlock = d.x.vP.ownBlock ∨ ∃ b, D.x.vP.ownBlock = some b ∧ w.heap.size ≤ b
section
variable {g : Nat} {d D : Gd} {s : ByteArray} {l : List Nat} {k at_ : Nat} {w wr wr' : World}
theorem AddSt.stay (h : AddSt g d s l k at_ w wr D) (hb : Below wr.heap.size wr wr') : AddSt g d s l k at_ w wr' D :=
  { h with gt := h.gt.below hb, mv := h.mv.trans (Mv.below (F := Fa g d) hb) (fun b hb => Or.inl hb) }
theorem AddSt.fa (h : AddSt g d s l k at_ w wr D) {b : Nat} (hb : Fa g D b) : Fa g d b ∨ w.heap.size ≤ b := by
  obtain ⟨v, np, P, lab, hd, pr, rfl⟩ := h.is
  rcases hb with hb | hb | hb | hb | hb
  · exact Or.inl (Or.inl hb)
  · rcases h.vP with h1 | ⟨b', h1, h2⟩
    · exact Or.inl (Or.inr (Or.inl (h1.symm.trans hb)))
    · right
      have := h1.symm.trans hb
      injection this with this; omega
  · exact Or.inl (Or.inr (Or.inr (Or.inl hb)))
  · exact Or.inl (Or.inr (Or.inr (Or.inr (Or.inl hb))))
  · exact Or.inl (Or.inr (Or.inr (Or.inr (Or.inr hb))))
/-- After a part is kept and entered. -/
theorem AddSt.next (h : AddSt g d s l k at_ w wr D) {v : Value} {P : Nat → Part} {lab : Nat → Lab} {hd : ByteArray × Nat → Option Nat} {pr : Nat × Nat → Option Nat} (hG : GT wr' g (dT D v (D.f.np + 1) P lab hd pr)) (hT : TOk (dT D v (D.f.np + 1) P lab hd pr).f (dT D v (D.f.np + 1) P lab hd pr).t (some (s, l.length, l)))
    (hP : ∀ i, i < D.f.np → P i = D.f.P i) (hL : ∀ i, i < D.f.np → lab i = D.t.lab i) (hN : lab D.f.np = (s, l.length, l.take (k + 1))) (hM : Mv (Fa g D) wr wr') (hv : v.ownBlock = D.x.vP.ownBlock ∨ ∃ b, v.ownBlock = some b ∧ wr.heap.size ≤ b) :
    AddSt g d s l (k + 1) D.f.np w wr' (dT D v (D.f.np + 1) P lab hd pr) := by
  have hnp := h.np
  refine { is := ?_, gt := hG, ok := hT, P := fun i hi => (hP i (by omega)).trans (h.P i hi), lab := fun i hi => (hL i (by omega)).trans (h.lab i hi), np := ?_, lt := Nat.lt_succ_self _, at_ := hN, mv := h.mv.trans hM (fun b hb => h.fa hb), vP := ?_ }
  · obtain ⟨v', np', P', lab', hd', pr', rfl⟩ := h.is
    exact ⟨_, _, _, _, _, _, rfl⟩
  · show d.f.np ≤ D.f.np + 1 ∧ D.f.np + 1 ≤ _; omega
  · show v.ownBlock = d.x.vP.ownBlock ∨ ∃ b, v.ownBlock = some b ∧ w.heap.size ≤ b
    rcases hv with hv | ⟨b, hv, hb⟩
    · rw [hv]; exact h.vP
    · exact Or.inr ⟨b, hv, Nat.le_trans h.mv.size hb⟩
theorem AddSt.start (h : GT wr g d) (ht : TOk d.f d.t (some (s, l.length, l))) (hM : Mv (Fa g d) w wr) {p : Nat} (hp : d.t.hd (s, l.length) = some p) : AddSt g d s l 0 p w wr d :=
  { is := ⟨d.x.vP, d.f.np, d.f.P, d.t.lab, d.t.hd, d.t.pr, rfl⟩, gt := h, ok := ht, P := fun _ _ => rfl, lab := fun _ _ => rfl, np := ⟨Nat.le_refl _, by omega⟩, lt := (ht.hd1 _ _ _ hp).1, at_ := by rw [List.take_zero]; exact (ht.hd1 _ _ _ hp).2, mv := hM, vP := Or.inl rfl }
theorem AddSt.startNew {v : Value} {P : Nat → Part} {lab : Nat → Lab} {hd : ByteArray × Nat → Option Nat} (hG : GT wr g (dT d v (d.f.np + 1) P lab hd d.t.pr)) (hT : TOk (dT d v (d.f.np + 1) P lab hd d.t.pr).f (dT d v (d.f.np + 1) P lab hd d.t.pr).t (some (s, l.length, l)))
    (hP : ∀ i, i < d.f.np → P i = d.f.P i) (hL : ∀ i, i < d.f.np → lab i = d.t.lab i) (hN : lab d.f.np = (s, l.length, [])) (hM : Mv (Fa g d) w wr) (hv : v.ownBlock = d.x.vP.ownBlock ∨ ∃ b, v.ownBlock = some b ∧ w.heap.size ≤ b) :
    AddSt g d s l 0 d.f.np w wr (dT d v (d.f.np + 1) P lab hd d.t.pr) :=
  { is := ⟨_, _, _, _, _, _, rfl⟩, gt := hG, ok := hT, P := hP, lab := hL, np := ⟨Nat.le_succ _, Nat.le_refl _⟩, lt := Nat.lt_succ_self _, at_ := by rw [List.take_zero]; exact hN, mv := hM, vP := hv }
theorem AddSt.same (h : AddSt g d s l k at_ w wr D) {q : Nat} (h1 : q < D.f.np) (h2 : D.t.lab q = (s, l.length, l.take (k + 1))) : AddSt g d s l (k + 1) q w wr D :=
  { h with lt := h1, at_ := h2, np := ⟨h.np.1, by have := h.np.2; omega⟩ }
theorem AddSt.fresh (h : AddSt g d s l l.length at_ w wr D) (ht : TOk d.f d.t none) (hno : ∀ a, a < d.t.nn → d.t.N a ≠ (s, l)) : d.f.np ≤ at_ := by
  apply Nat.le_of_not_lt
  intro hlt
  have h1 := h.lab at_ hlt
  rw [h.at_, List.take_length] at h1
  obtain ⟨a, ha, _, hn, _⟩ := ht.same hlt h1.symm
  exact hno a ha hn
theorem AddSt.done (h : AddSt g d s l l.length at_ w wr D) (ht : TOk d.f d.t none) (hno : ∀ a, a < d.t.nn → d.t.N a ≠ (s, l)) (hal : ∀ b ∈ l, b < d.t.nn) (v : Value) :
    Added g d s l { D with x := { D.x with vW := v }, f := { D.f with P := upd D.f.P at_ { D.f.P at_ with node := (D.t.nn : Nat) }, nw := D.f.nw + 1, W := upd D.f.W D.f.nw at_ }, t := { D.t with nn := D.t.nn + 1, N := upd D.t.N D.t.nn (s, l) } } := by
  have hf := h.fresh ht hno
  have hP := h.P
  have hnp := h.np
  have hat := h.at_
  rw [List.take_length] at hat
  have hW : ∀ b, b < D.t.nn → D.f.W b ≠ at_ := fun b hb e => by
    have h1 := h.ok.whole b hb
    have h2 := (h.ok.node at_ _ _ _ h.lt hat).2.2 (Or.inr rfl)
    rw [e, h2] at h1
    have := h1.2.2
    omega
  have hok := h.ok.newNode h.lt hat (by obtain ⟨v', np', P', lab', hd', pr', rfl⟩ := h.is; exact hal) hW _ rfl _ rfl _ rfl
  have hnw := h.ok.nw
  have hnw0 := ht.nw
  obtain ⟨v', np', P', lab', hd', pr', rfl⟩ := h.is
  refine { nn := rfl, N := rfl, ne := ⟨rfl, rfl⟩, P := fun i hi => ?_, np := ⟨hnp.1, by show np' ≤ _; have := hnp.2; change np' ≤ _ at this; omega⟩, W := fun i hi => ?_, x := ⟨rfl, rfl, rfl⟩, r := ⟨rfl, rfl, rfl, rfl, rfl, rfl⟩, ok := ?_ }
  · show upd P' at_ _ i = _
    rw [upd_other _ _ (by omega)]; exact hP i hi
  · show upd d.f.W d.f.nw at_ i = _
    rw [upd_other _ _ (by omega)]
  · have hnw : (dT d v' np' P' lab' hd' pr').f.nw = (dT d v' np' P' lab' hd' pr').t.nn := hnw
    rw [← hnw] at hok
    rw [← hnw]
    exact hok
end
def AddEnd (g : Nat) (d : Gd) (s : ByteArray) (l : List Nat) (w w' : World) : Prop :=
  ∃ d', Added g d s l d' ∧ GT w' g d' ∧ Mv (Fa g d) w w' ∧ (d'.x.vP.ownBlock = d.x.vP.ownBlock ∨ ∃ b, d'.x.vP.ownBlock = some b ∧ w.heap.size ≤ b) ∧ (d'.x.vW.ownBlock = d.x.vW.ownBlock ∨ ∃ b, d'.x.vW.ownBlock = some b ∧ w.heap.size ≤ b)
end Euf
end Go.Proofs.Ytlonnhnfmcndfad
