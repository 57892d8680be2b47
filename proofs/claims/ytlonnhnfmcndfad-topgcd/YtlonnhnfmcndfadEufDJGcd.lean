/- The contract of add; it proves no statement of the seat. -/
import Derived.Test.YtlonnhnfmcndfadEufBJGcd
namespace Go.Proofs.Ytlonnhnfmcndfad
open Go.RowKit
set_option linter.unusedVariables false
namespace Euf
/-- The graph without its list of nodes. -/
structure GT (w : World) (g : Nat) (d : Gd) : Prop where
  cw : CW w g d.x d.f d.m d.y d.s
  c2 : d.x.c2 = .map (some d.bH)
  c3 : d.x.c3 = .map (some d.bR)
  heads : MapF Try.prog 108 3 w d.bH d.f.np (hdF d.t.hd)
  pairs : MapF Try.prog 39 3 w d.bR d.f.np (sgF d.t.pr)
  mne : d.bH ≠ d.bR ∧ d.bH ≠ d.x.bG ∧ d.bR ≠ d.x.bG
theorem GW.gt {w : World} {g : Nat} {d : Gd} (h : GW w g d) : GT w g d := ⟨h.cw, h.c2, h.c3, h.heads, h.pairs, h.mne⟩
theorem MapF.mono {P : Program} {K E : TypeId} {w : World} {b n n' : Nat} {m : Value → Option Int} (h : MapF P K E w b n m) (hn : n ≤ n') : MapF P K E w b n' m := by
  obtain ⟨D, h1, h2⟩ := h
  exact ⟨D, h1.mono hn, h2⟩
section
variable {w w' : World} {g : Nat} {d : Gd}
theorem GT.stay (h : GT w g d) (hb : ∀ b, b < w.heap.size → w'.heap[b]? = w.heap[b]?) : GT w' g d :=
  { h with cw := h.cw.stay hb, heads := h.heads.stay (hb _ h.heads.lt), pairs := h.pairs.stay (hb _ h.pairs.lt) }
theorem GT.below (h : GT w g d) (hb : Below w.heap.size w w') : GT w' g d := h.stay fun b hlt => hb.block b hlt
/-- Another map is written. -/
theorem CW.turned {x : Lx} {f : Fx} {m : Nat} {y : Ly} {s : Sx} (h : CW w g x f m y s) {b : Nat} (ht : w.mapTurned w' b) (hb : b ≠ x.bG) : CW w' g x f m y s := by
  obtain ⟨es, cl, es', cl', he, rfl⟩ := id ht
  have hg := ht.grown
  have keep : ∀ c, c < w.heap.size → c ≠ b → (ChangeMaps.setBlock w b (.map es' cl')).heap[c]? = w.heap[c]? := fun c hc hn => hg.block c hc (by simp [hn])
  have other : ∀ {sz : Nat} {e : TypeId} {v' : Value} {n : Nat} {f' : Nat → List Value}, OL sz e w v' n f' → OL sz e (ChangeMaps.setBlock w b (.map es' cl')) v' n f' := by
    intro sz e v' n f' ho
    refine ho.stay fun c hc => keep c (ho.lt hc) (fun e' => ?_)
    subst e'
    obtain ⟨cur, hcur⟩ := ho.elem hc
    rw [he] at hcur; cases hcur
  exact { blk := (keep _ h.lt (fun e' => by have := h.blk; rw [e', he] at this; cases this)).trans h.blk, parts := other h.parts, whole := other h.whole, eqs := other h.eqs, spots := other h.spots, uses := fun i hi => other (h.uses i hi), claims := other h.claims, sig := h.sig.stay (keep _ h.sig.lt (Ne.symm hb)), apart := h.apart, apartW := h.apartW, small := h.small }
/-- With other parts and tables. -/
def dT (d : Gd) (v : Value) (np : Nat) (P : Nat → Part) (lab : Nat → Lab) (hd : ByteArray × Nat → Option Nat) (pr : Nat × Nat → Option Nat) : Gd :=
  { d with x := { d.x with vP := v }, f := { d.f with np := np, P := P }, t := { d.t with lab := lab, hd := hd, pr := pr } }
/-- The blocks that the adding of a node may write. -/
def Fa (g : Nat) (d : Gd) (b : Nat) : Prop := b = g ∨ d.x.vP.ownBlock = some b ∨ d.x.vW.ownBlock = some b ∨ b = d.bH ∨ b = d.bR
theorem GT.kept (h : GT w g d) {v : Value} {p : Part} (hC : CW w' g { d.x with vP := v } { d.f with np := d.f.np + 1, P := upd d.f.P d.f.np p } d.m d.y d.s) (hM : Mv (fun b => b = g ∨ d.x.vP.ownBlock = some b) w w') :
    GT w' g (dT d v (d.f.np + 1) (upd d.f.P d.f.np p) d.t.lab d.t.hd d.t.pr) := by
  have nm : ∀ {b : Nat}, (∃ es cl, w.heap[b]? = some (.map es cl)) → w'.heap[b]? = w.heap[b]? := by
    rintro b ⟨es, cl, he⟩
    refine hM.other b (Array.getElem?_eq_some_iff.1 he).1 (fun h9 => ?_)
    rcases h9 with h9 | h9
    · have := h.cw.blk; rw [← h9, he] at this; cases this
    · obtain ⟨cur, hcur⟩ := h.cw.parts.elem h9; rw [he] at hcur; cases hcur
  exact ⟨hC, h.c2, h.c3, (h.heads.stay (nm h.heads.isMap)).mono (Nat.le_succ _), (h.pairs.stay (nm h.pairs.isMap)).mono (Nat.le_succ _), h.mne⟩
theorem GT.putHead (h : GT w g d) {ht' : ByteArray × Nat → Option Nat} (ht : w.mapTurned w' d.bH) (hm : MapF Try.prog 108 3 w' d.bH d.f.np (hdF ht')) (lab : Nat → Lab) :
    GT w' g (dT d d.x.vP d.f.np d.f.P lab ht' d.t.pr) :=
  ⟨h.cw.turned ht h.mne.2.1, h.c2, h.c3, hm, h.pairs.stay (ht.grown.block _ h.pairs.lt (by simp [Ne.symm h.mne.1])), h.mne⟩
theorem GT.putPair (h : GT w g d) {pr' : Nat × Nat → Option Nat} (ht : w.mapTurned w' d.bR) (hm : MapF Try.prog 39 3 w' d.bR d.f.np (sgF pr')) (lab : Nat → Lab) :
    GT w' g (dT d d.x.vP d.f.np d.f.P lab d.t.hd pr') :=
  ⟨h.cw.turned ht h.mne.2.2, h.c2, h.c3, h.heads.stay (ht.grown.block _ h.heads.lt (by simp [h.mne.1])), hm, h.mne⟩
end
/-- The key under which a pair stands. -/
theorem TOk.prKey {f : Fx} {t : Tx} {ex : Option Lab} (h : TOk f t ex) : ∀ k q, t.pr k = some q → q < f.np ∧ ((f.P q).front.toNat, (f.P q).arg.toNat) = k := by
  rintro ⟨p, c⟩ q hq
  obtain ⟨h1, h2, s, n, l, a, h3, h4, h5, h6⟩ := h.pr1 p c q hq
  obtain ⟨_, _, p', h7, h8, h9, h10⟩ := h.pre q s n l a h1 h6
  have : p' = p := h.inj p' p (by omega) h2 (h8.trans h3.symm)
  subst this
  exact ⟨h1, by rw [h9, h10, h5]; simp⟩
/-- A node's number in its part. -/
theorem CW.setPart {w : World} {g : Nat} {x : Lx} {f : Fx} {m : Nat} {y : Ly} {s : Sx} (h : CW w g x f m y s) {gp cap i : Nat} {z : Int} (hv : x.vP = .slice (some ⟨gp, 0, none⟩) f.np cap) (hi : i < f.np) : CW (w.setCell ⟨gp, i * 3 + 2, none⟩ (.int .i64 z)) g x { f with P := upd f.P i { f.P i with node := z } } m y s := by
  have hs := h.parts
  rw [hv] at hs
  obtain ⟨cs, hcs⟩ := hs.elem (b := gp) rfl
  have key : ∀ b, b ≠ gp → (w.setCell ⟨gp, i * 3 + 2, none⟩ (.int .i64 z)).heap[b]? = w.heap[b]? := fun b hb => heap_setCell_other w ⟨gp, i * 3 + 2, none⟩ b _ hb
  have other : ∀ {sz : Nat} {e : TypeId} {v' : Value} {n : Nat} {f' : Nat → List Value}, OL sz e w v' n f' → e ≠ 110 → OL sz e (w.setCell ⟨gp, i * 3 + 2, none⟩ (.int .i64 z)) v' n f' := by
    intro sz e v' n f' ho h2
    refine ho.stay fun b hb => key b (fun e' => ho.neB hcs h2 (by rw [hb, e']))
  refine { blk := (key _ (fun e => by have := h.blk; rw [e, hcs] at this; injection this with this; injection this with _ h9 _; exact absurd h9 (by decide))).trans h.blk, parts := ?_, whole := other h.whole (by decide), eqs := other h.eqs (by decide), spots := other h.spots (by decide), uses := fun k hk => other (h.uses k hk) (by decide), claims := other h.claims (by decide), sig := h.sig.stay (key _ (fun e' => by obtain ⟨es, cl, he⟩ := h.sig.isMap; rw [e', hcs] at he; cases he)), apart := h.apart, apartW := h.apartW, small := h.small }
  show OL 3 110 _ x.vP f.np (partC (upd f.P i { f.P i with node := z }))
  rw [hv]
  exact hs.set hi (j := 2) (by omega) _ (fun k _ => rfl) (by simp [partC, upd]) (fun k _ hk => by simp [partC, upd, hk])
/-- One node more has its part. -/
theorem CW.pushWhole {w : World} {g : Nat} {x : Lx} {f : Fx} {m : Nat} {y : Ly} {s : Sx} (h : CW w g x f m y s) (p : Nat) {w1 : World} {v : Value} (hap : App x.vW v w w1) (hol : OL 1 3 w1 v (f.nw + 1) (fun i => [.int .i64 (upd f.W f.nw p i : Nat)])) :
    CW (w1.setCell ⟨g, 5, none⟩ v) g { x with vW := v } { f with nw := f.nw + 1, W := upd f.W f.nw p } m y s ∧ Mv (fun b => b = g ∨ x.vW.ownBlock = some b) w (w1.setCell ⟨g, 5, none⟩ v) := by
  have keep : ∀ b, b < w.heap.size → x.vW.ownBlock ≠ some b → b ≠ g → (w1.setCell ⟨g, 5, none⟩ v).heap[b]? = w.heap[b]? := fun b hb h1 h2 => (heap_setCell_other w1 ⟨g, 5, none⟩ b v h2).trans (hap.other b hb h1)
  have hg : w1.heap[g]? = _ := (hap.other g h.lt (h.whole.neB h.blk (by decide))).trans h.blk
  have other : ∀ {sz : Nat} {e : TypeId} {v' : Value} {n : Nat} {f' : Nat → List Value}, OL sz e w v' n f' → e ≠ 3 → e ≠ 72 → OL sz e (w1.setCell ⟨g, 5, none⟩ v) v' n f' := by
    intro sz e v' n f' ho h1 h2
    refine ho.stay fun b hb => keep b (ho.lt hb) (fun hc => ho.ne h.whole h1 hb hc) (fun e' => ho.neB h.blk h2 (by rw [hb, e']))
  refine ⟨{ blk := ?_, parts := other h.parts (by decide) (by decide), whole := ?_, eqs := other h.eqs (by decide) (by decide), spots := other h.spots (by decide) (by decide), uses := fun i hi => ?_, claims := other h.claims (by decide) (by decide), sig := ?_, apart := h.apart, apartW := ?_, small := h.small }, ?_⟩
  · exact (heap_setCell_same w1 g 5 _ 72 v hg).trans rfl
  · exact hol.stay fun b hb => heap_setCell_other w1 ⟨g, 5, none⟩ b v (fun e' => hol.neB hg (by decide) (by rw [hb, e']))
  · exact (h.uses i hi).stay fun b hb => keep b ((h.uses i hi).lt hb) (fun hc => h.apartW i hi b hb hc) (fun e' => (h.uses i hi).neB h.blk (by decide) (by rw [hb, e']))
  · exact h.sig.stay (keep _ h.sig.lt (fun hc => h.whole.neM h.sig hc) (fun e' => by
      obtain ⟨es, cl, he⟩ := h.sig.isMap
      rw [e', h.blk] at he
      cases he))
  · intro i hi b hb
    show v.ownBlock ≠ some b
    rcases hap.at_ with h1 | ⟨b', h1, h2⟩
    · rw [h1]; exact h.apartW i hi b hb
    · rw [h1]; intro e; injection e with e; subst e; have := (h.uses i hi).lt hb; omega
  · exact ⟨hap.os, hap.tape, hap.output, by simp; exact hap.size, fun b hb hn => keep b hb (fun hc => hn (Or.inr hc)) (fun e' => hn (Or.inl e'))⟩
/-- What 'add' leaves. -/
structure Added (g : Nat) (d : Gd) (s : ByteArray) (l : List Nat) (d' : Gd) : Prop where
  nn : d'.t.nn = d.t.nn + 1
  N : d'.t.N = upd d.t.N d.t.nn (s, l)
  ne : d'.f.ne = d.f.ne ∧ d'.f.E = d.f.E
  P : ∀ i, i < d.f.np → d'.f.P i = d.f.P i
  np : d.f.np ≤ d'.f.np ∧ d'.f.np ≤ d.f.np + l.length + 1
  W : ∀ i, i < d.t.nn → d'.f.W i = d.f.W i
  x : d'.x.c0 = d.x.c0 ∧ d'.x.c1 = d.x.c1 ∧ d'.x.bG = d.x.bG
  r : d'.m = d.m ∧ d'.y = d.y ∧ d'.s = d.s ∧ d'.bH = d.bH ∧ d'.bR = d.bR ∧ d'.ag = d.ag
  ok : TOk d'.f d'.t none
end Euf
end Go.Proofs.Ytlonnhnfmcndfad
