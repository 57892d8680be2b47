/- Joined: EufD, EufF, EufL, EufO: words and contracts; no statement of the seat is proved here. -/
import Derived.Test.YtmnpefiaelpkfacJoin4Classes
/- The contract of add; it proves no statement of the seat. -/
namespace Go.Proofs.Ytmnpefiaelpkfac
open Go.RowKit
set_option linter.unusedVariables false
namespace Euf
/-- The graph without its list of nodes. -/
structure GT (w : World) (g : Nat) (d : Gd) : Prop where
  cw : CW w g d.x d.f d.m d.y d.s
  c2 : d.x.c2 = .map (some d.bH)
  c3 : d.x.c3 = .map (some d.bR)
  heads : MapF Try.prog 118 3 w d.bH d.f.np (hdF d.t.hd)
  pairs : MapF Try.prog 51 3 w d.bR d.f.np (sgF d.t.pr)
  mne : d.bH ≠ d.bR ∧ d.bH ≠ d.x.bG ∧ d.bR ≠ d.x.bG
theorem GW.gt {w : World} {g : Nat} {d : Gd} (h : GW w g d) : GT w g d := ⟨h.cw, h.c2, h.c3, h.heads, h.pairs, h.mne⟩
theorem MapF.mono {P : Program} {K E : TypeId} {w : World} {b n n' : Nat} {m : Value → Option Int} (h : MapF P K E w b n m) (hn : n ≤ n') : MapF P K E w b n' m := by
  obtain ⟨D, h1, h2⟩ := h
  exact ⟨D, h1.mono hn, h2⟩
section
variable {w w' : World} {g : Nat} {d : Gd}
theorem GT.stay (h : GT w g d) (hb : ∀ b, b < w.heap.size → w'.heap[b]? = w.heap[b]?) : GT w' g d :=
  { h with cw := h.cw.stay hb, heads := h.heads.stay (hb _ h.heads.lt), pairs := h.pairs.stay (hb _ h.pairs.lt) }
theorem GT.below (h : GT w g d) (hb : Below w.heap.size w w') : GT w' g d := h.stay fun b hlt => hb.block b hlt
/-- Another map is written. -/
theorem CW.turned {x : Lx} {f : Fx} {m : Nat} {y : Ly} {s : Sx} (h : CW w g x f m y s) {b : Nat} (ht : w.mapTurned w' b) (hb : b ≠ x.bG) : CW w' g x f m y s := by
  obtain ⟨es, cl, es', cl', he, rfl⟩ := id ht
  have hg := ht.grown
  have keep : ∀ c, c < w.heap.size → c ≠ b → (ChangeMaps.setBlock w b (.map es' cl')).heap[c]? = w.heap[c]? := fun c hc hn => hg.block c hc (by simp [hn])
  have other : ∀ {sz : Nat} {e : TypeId} {v' : Value} {n : Nat} {f' : Nat → List Value}, OL sz e w v' n f' → OL sz e (ChangeMaps.setBlock w b (.map es' cl')) v' n f' := by
    intro sz e v' n f' ho
    refine ho.stay fun c hc => keep c (ho.lt hc) (fun e' => ?_)
    subst e'
    obtain ⟨cur, hcur⟩ := ho.elem hc
    rw [he] at hcur; cases hcur
  exact { blk := (keep _ h.lt (fun e' => by have := h.blk; rw [e', he] at this; cases this)).trans h.blk, parts := other h.parts, whole := other h.whole, eqs := other h.eqs, spots := other h.spots, uses := fun i hi => other (h.uses i hi), claims := other h.claims, sig := h.sig.stay (keep _ h.sig.lt (Ne.symm hb)), apart := h.apart, apartW := h.apartW, small := h.small }
/-- With other parts and tables. -/
def dT (d : Gd) (v : Value) (np : Nat) (P : Nat → Part) (lab : Nat → Lab) (hd : ByteArray × Nat → Option Nat) (pr : Nat × Nat → Option Nat) : Gd :=
  { d with x := { d.x with vP := v }, f := { d.f with np := np, P := P }, t := { d.t with lab := lab, hd := hd, pr := pr } }
/-- The blocks that the adding of a node may write. -/
def Fa (g : Nat) (d : Gd) (b : Nat) : Prop := b = g ∨ d.x.vP.ownBlock = some b ∨ d.x.vW.ownBlock = some b ∨ b = d.bH ∨ b = d.bR
theorem GT.kept (h : GT w g d) {v : Value} {p : Part} (hC : CW w' g { d.x with vP := v } { d.f with np := d.f.np + 1, P := upd d.f.P d.f.np p } d.m d.y d.s) (hM : Mv (fun b => b = g ∨ d.x.vP.ownBlock = some b) w w') :
    GT w' g (dT d v (d.f.np + 1) (upd d.f.P d.f.np p) d.t.lab d.t.hd d.t.pr) := by
  have nm : ∀ {b : Nat}, (∃ es cl, w.heap[b]? = some (.map es cl)) → w'.heap[b]? = w.heap[b]? := by
    rintro b ⟨es, cl, he⟩
    refine hM.other b (Array.getElem?_eq_some_iff.1 he).1 (fun h9 => ?_)
    rcases h9 with h9 | h9
    · have := h.cw.blk; rw [← h9, he] at this; cases this
    · obtain ⟨cur, hcur⟩ := h.cw.parts.elem h9; rw [he] at hcur; cases hcur
  exact ⟨hC, h.c2, h.c3, (h.heads.stay (nm h.heads.isMap)).mono (Nat.le_succ _), (h.pairs.stay (nm h.pairs.isMap)).mono (Nat.le_succ _), h.mne⟩
theorem GT.putHead (h : GT w g d) {ht' : ByteArray × Nat → Option Nat} (ht : w.mapTurned w' d.bH) (hm : MapF Try.prog 118 3 w' d.bH d.f.np (hdF ht')) (lab : Nat → Lab) :
    GT w' g (dT d d.x.vP d.f.np d.f.P lab ht' d.t.pr) :=
  ⟨h.cw.turned ht h.mne.2.1, h.c2, h.c3, hm, h.pairs.stay (ht.grown.block _ h.pairs.lt (by simp [Ne.symm h.mne.1])), h.mne⟩
theorem GT.putPair (h : GT w g d) {pr' : Nat × Nat → Option Nat} (ht : w.mapTurned w' d.bR) (hm : MapF Try.prog 51 3 w' d.bR d.f.np (sgF pr')) (lab : Nat → Lab) :
    GT w' g (dT d d.x.vP d.f.np d.f.P lab d.t.hd pr') :=
  ⟨h.cw.turned ht h.mne.2.2, h.c2, h.c3, h.heads.stay (ht.grown.block _ h.heads.lt (by simp [h.mne.1])), hm, h.mne⟩
end
/-- The key under which a pair stands. -/
theorem TOk.prKey {f : Fx} {t : Tx} {ex : Option Lab} (h : TOk f t ex) : ∀ k q, t.pr k = some q → q < f.np ∧ ((f.P q).front.toNat, (f.P q).arg.toNat) = k := by
  rintro ⟨p, c⟩ q hq
  obtain ⟨h1, h2, s, n, l, a, h3, h4, h5, h6⟩ := h.pr1 p c q hq
  obtain ⟨_, _, p', h7, h8, h9, h10⟩ := h.pre q s n l a h1 h6
  have : p' = p := h.inj p' p (by omega) h2 (h8.trans h3.symm)
  subst this
  exact ⟨h1, by rw [h9, h10, h5]; simp⟩
/-- A node's number in its part. -/
theorem CW.setPart {w : World} {g : Nat} {x : Lx} {f : Fx} {m : Nat} {y : Ly} {s : Sx} (h : CW w g x f m y s) {gp cap i : Nat} {z : Int} (hv : x.vP = .slice (some ⟨gp, 0, none⟩) f.np cap) (hi : i < f.np) : CW (w.setCell ⟨gp, i * 3 + 2, none⟩ (.int .i64 z)) g x { f with P := upd f.P i { f.P i with node := z } } m y s := by
  have hs := h.parts
  rw [hv] at hs
  obtain ⟨cs, hcs⟩ := hs.elem (b := gp) rfl
  have key : ∀ b, b ≠ gp → (w.setCell ⟨gp, i * 3 + 2, none⟩ (.int .i64 z)).heap[b]? = w.heap[b]? := fun b hb => heap_setCell_other w ⟨gp, i * 3 + 2, none⟩ b _ hb
  have other : ∀ {sz : Nat} {e : TypeId} {v' : Value} {n : Nat} {f' : Nat → List Value}, OL sz e w v' n f' → e ≠ 96 → OL sz e (w.setCell ⟨gp, i * 3 + 2, none⟩ (.int .i64 z)) v' n f' := by
    intro sz e v' n f' ho h2
    refine ho.stay fun b hb => key b (fun e' => ho.neB hcs h2 (by rw [hb, e']))
  refine { blk := (key _ (fun e => by have := h.blk; rw [e, hcs] at this; injection this with this; injection this with _ h9 _; exact absurd h9 (by decide))).trans h.blk, parts := ?_, whole := other h.whole (by decide), eqs := other h.eqs (by decide), spots := other h.spots (by decide), uses := fun k hk => other (h.uses k hk) (by decide), claims := other h.claims (by decide), sig := h.sig.stay (key _ (fun e' => by obtain ⟨es, cl, he⟩ := h.sig.isMap; rw [e', hcs] at he; cases he)), apart := h.apart, apartW := h.apartW, small := h.small }
  show OL 3 96 _ x.vP f.np (partC (upd f.P i { f.P i with node := z }))
  rw [hv]
  exact hs.set hi (j := 2) (by omega) _ (fun k _ => rfl) (by simp [partC, upd]) (fun k _ hk => by simp [partC, upd, hk])
/-- One node more has its part. -/
theorem CW.pushWhole {w : World} {g : Nat} {x : Lx} {f : Fx} {m : Nat} {y : Ly} {s : Sx} (h : CW w g x f m y s) (p : Nat) {w1 : World} {v : Value} (hap : App x.vW v w w1) (hol : OL 1 3 w1 v (f.nw + 1) (fun i => [.int .i64 (upd f.W f.nw p i : Nat)])) :
    CW (w1.setCell ⟨g, 5, none⟩ v) g { x with vW := v } { f with nw := f.nw + 1, W := upd f.W f.nw p } m y s ∧ Mv (fun b => b = g ∨ x.vW.ownBlock = some b) w (w1.setCell ⟨g, 5, none⟩ v) := by
  have keep : ∀ b, b < w.heap.size → x.vW.ownBlock ≠ some b → b ≠ g → (w1.setCell ⟨g, 5, none⟩ v).heap[b]? = w.heap[b]? := fun b hb h1 h2 => (heap_setCell_other w1 ⟨g, 5, none⟩ b v h2).trans (hap.other b hb h1)
  have hg : w1.heap[g]? = _ := (hap.other g h.lt (h.whole.neB h.blk (by decide))).trans h.blk
  have other : ∀ {sz : Nat} {e : TypeId} {v' : Value} {n : Nat} {f' : Nat → List Value}, OL sz e w v' n f' → e ≠ 3 → e ≠ 73 → OL sz e (w1.setCell ⟨g, 5, none⟩ v) v' n f' := by
    intro sz e v' n f' ho h1 h2
    refine ho.stay fun b hb => keep b (ho.lt hb) (fun hc => ho.ne h.whole h1 hb hc) (fun e' => ho.neB h.blk h2 (by rw [hb, e']))
  refine ⟨{ blk := ?_, parts := other h.parts (by decide) (by decide), whole := ?_, eqs := other h.eqs (by decide) (by decide), spots := other h.spots (by decide) (by decide), uses := fun i hi => ?_, claims := other h.claims (by decide) (by decide), sig := ?_, apart := h.apart, apartW := ?_, small := h.small }, ?_⟩
  · exact (heap_setCell_same w1 g 5 _ 73 v hg).trans rfl
  · exact hol.stay fun b hb => heap_setCell_other w1 ⟨g, 5, none⟩ b v (fun e' => hol.neB hg (by decide) (by rw [hb, e']))
  · exact (h.uses i hi).stay fun b hb => keep b ((h.uses i hi).lt hb) (fun hc => h.apartW i hi b hb hc) (fun e' => (h.uses i hi).neB h.blk (by decide) (by rw [hb, e']))
  · exact h.sig.stay (keep _ h.sig.lt (fun hc => h.whole.neM h.sig hc) (fun e' => by
      obtain ⟨es, cl, he⟩ := h.sig.isMap
      rw [e', h.blk] at he
      cases he))
  · intro i hi b hb
    show v.ownBlock ≠ some b
    rcases hap.at_ with h1 | ⟨b', h1, h2⟩
    · rw [h1]; exact h.apartW i hi b hb
    · rw [h1]; intro e; injection e with e; subst e; have := (h.uses i hi).lt hb; omega
  · exact ⟨hap.os, hap.tape, hap.output, by simp; exact hap.size, fun b hb hn => keep b hb (fun hc => hn (Or.inr hc)) (fun e' => hn (Or.inl e'))⟩
/-- What 'add' leaves. -/
structure Added (g : Nat) (d : Gd) (s : ByteArray) (l : List Nat) (d' : Gd) : Prop where
  nn : d'.t.nn = d.t.nn + 1
  N : d'.t.N = upd d.t.N d.t.nn (s, l)
  ne : d'.f.ne = d.f.ne ∧ d'.f.E = d.f.E
  P : ∀ i, i < d.f.np → d'.f.P i = d.f.P i
  np : d.f.np ≤ d'.f.np ∧ d'.f.np ≤ d.f.np + l.length + 1
  W : ∀ i, i < d.t.nn → d'.f.W i = d.f.W i
  x : d'.x.c0 = d.x.c0 ∧ d'.x.c1 = d.x.c1 ∧ d'.x.bG = d.x.bG
  r : d'.m = d.m ∧ d'.y = d.y ∧ d'.s = d.s ∧ d'.bH = d.bH ∧ d'.bR = d.bR ∧ d'.ag = d.ag
  ok : TOk d'.f d'.t none
end Euf
end Go.Proofs.Ytmnpefiaelpkfac
/- The contract of add; it proves no statement of the seat. -/
namespace Go.Proofs.Ytmnpefiaelpkfac
open Go.RowKit
set_option linter.unusedVariables false
namespace Euf
theorem Mv.turned {F : Nat → Prop} {w0 w w' : World} {b : Nat} (h : Mv F w0 w) (ht : w.mapTurned w' b) (hb : F b ∨ w0.heap.size ≤ b) : Mv F w0 w' := by
  have hg := ht.grown
  refine ⟨hg.os.trans h.os, hg.tape.trans h.tape, hg.output.trans h.output, Nat.le_trans h.size hg.size, fun c hc hn => ?_⟩
  refine (hg.block c (Nat.lt_of_lt_of_le hc h.size) (fun e => ?_)).trans (h.other c hc hn)
  simp at e; subst e
  rcases hb with hb | hb
  · exact hn hb
  · omega
theorem enterPair {w : World} {g : Nat} {D : Gd} (h : GT w g D) {p c q : Nat} (hp : p ≤ 10000) (hc : c ≤ 10000) (hq : q ≤ 10000) {lab : Nat → Lab} {ex : Option Lab} {pr' : Nat × Nat → Option Nat} (hpr : pr' = fun k => if k = (p, c) then some q else D.t.pr k) (ht : TOk D.f { D.t with lab := lab, pr := pr' } ex) :
    ∃ w', (Instr.mapUpdate 65 (.map (some D.bR)) (.agg #[.int .i64 (p : Nat), .int .i64 (c : Nat)]) (.int .i64 (q : Nat))).run Try.prog w = .ok () w' ∧ GT w' g (dT D D.x.vP D.f.np D.f.P lab D.t.hd pr') ∧ w.mapTurned w' D.bR := by
  have hsm := h.cw.small
  obtain ⟨kl, hkl⟩ := keyPair (a := (p : Nat)) (b := (c : Nat)) (wfNat (by omega)) (wfNat (by omega))
  obtain ⟨w5, hrun, hmap, hturn⟩ := h.pairs.put lawPair uSig uInt (by unfold maxLen; omega) hkl (x := (q : Nat)) (wfNat (by omega)) (sgF pr') (by rw [sgF_at, hpr]; simp) (sgF_other (fun k hk => by rw [hpr]; simp [hk]))
  exact ⟨w5, hrun, h.putPair hturn (hmap.sgTight lawPair _ (fun r => ((D.f.P r).front.toNat, (D.f.P r).arg.toNat)) ht.prKey) lab, hturn⟩
theorem enterHead {w : World} {g : Nat} {D : Gd} (h : GT w g D) {s : ByteArray} {n q : Nat} (hs : s.size ≤ maxLen) (hn : n ≤ 10000) (hq : q ≤ 10000) {lab : Nat → Lab} {ex : Option Lab} {hd' : ByteArray × Nat → Option Nat} (hhd : hd' = fun k => if k = (s, n) then some q else D.t.hd k) (ht : TOk D.f { D.t with lab := lab, hd := hd' } ex) :
    ∃ w', (Instr.mapUpdate 64 (.map (some D.bH)) (.agg #[.string s, .int .i64 (n : Nat)]) (.int .i64 (q : Nat))).run Try.prog w = .ok () w' ∧ GT w' g (dT D D.x.vP D.f.np D.f.P lab hd' D.t.pr) ∧ w.mapTurned w' D.bH := by
  have hsm := h.cw.small
  obtain ⟨kl, hkl⟩ := keyHead (n := n) hs (by omega)
  obtain ⟨w5, hrun, hmap, hturn⟩ := h.heads.put lawHead uHead uInt (by unfold maxLen; omega) hkl (x := (q : Nat)) (wfNat (by omega)) (hdF hd') (by rw [hdF_at, hhd]; simp) (hdF_other (fun k hk => by rw [hhd]; simp [hk]))
  exact ⟨w5, hrun, h.putHead hturn (hmap.hdTight _ lab ht.hd1) lab, hturn⟩
/-- While a node is being added. -/
structure AddSt (g : Nat) (d : Gd) (s : ByteArray) (l : List Nat) (k at_ : Nat) (w wr : World) (D : Gd) : Prop where
  is : ∃ v np P lab hd pr, D = dT d v np P lab hd pr
  gt : GT wr g D
  ok : TOk D.f D.t (some (s, l.length, l))
  P : ∀ i, i < d.f.np → D.f.P i = d.f.P i
  lab : ∀ i, i < d.f.np → D.t.lab i = d.t.lab i
  np : d.f.np ≤ D.f.np ∧ D.f.np ≤ d.f.np + 1 + k
  lt : at_ < D.f.np
  at_ : D.t.lab at_ = (s, l.length, l.take k)
  mv : Mv (Fa g d) w wr
  vP : D.x.vP.ownBlock = d.x.vP.ownBlock ∨ ∃ b, D.x.vP.ownBlock = some b ∧ w.heap.size ≤ b
section
variable {g : Nat} {d D : Gd} {s : ByteArray} {l : List Nat} {k at_ : Nat} {w wr wr' : World}
theorem AddSt.stay (h : AddSt g d s l k at_ w wr D) (hb : Below wr.heap.size wr wr') : AddSt g d s l k at_ w wr' D :=
  { h with gt := h.gt.below hb, mv := h.mv.trans (Mv.below (F := Fa g d) hb) (fun b hb => Or.inl hb) }
theorem AddSt.fa (h : AddSt g d s l k at_ w wr D) {b : Nat} (hb : Fa g D b) : Fa g d b ∨ w.heap.size ≤ b := by
  obtain ⟨v, np, P, lab, hd, pr, rfl⟩ := h.is
  rcases hb with hb | hb | hb | hb | hb
  · exact Or.inl (Or.inl hb)
  · rcases h.vP with h1 | ⟨b', h1, h2⟩
    · exact Or.inl (Or.inr (Or.inl (h1.symm.trans hb)))
    · right
      have := h1.symm.trans hb
      injection this with this; omega
  · exact Or.inl (Or.inr (Or.inr (Or.inl hb)))
  · exact Or.inl (Or.inr (Or.inr (Or.inr (Or.inl hb))))
  · exact Or.inl (Or.inr (Or.inr (Or.inr (Or.inr hb))))
/-- After a part is kept and entered. -/
theorem AddSt.next (h : AddSt g d s l k at_ w wr D) {v : Value} {P : Nat → Part} {lab : Nat → Lab} {hd : ByteArray × Nat → Option Nat} {pr : Nat × Nat → Option Nat} (hG : GT wr' g (dT D v (D.f.np + 1) P lab hd pr)) (hT : TOk (dT D v (D.f.np + 1) P lab hd pr).f (dT D v (D.f.np + 1) P lab hd pr).t (some (s, l.length, l)))
    (hP : ∀ i, i < D.f.np → P i = D.f.P i) (hL : ∀ i, i < D.f.np → lab i = D.t.lab i) (hN : lab D.f.np = (s, l.length, l.take (k + 1))) (hM : Mv (Fa g D) wr wr') (hv : v.ownBlock = D.x.vP.ownBlock ∨ ∃ b, v.ownBlock = some b ∧ wr.heap.size ≤ b) :
    AddSt g d s l (k + 1) D.f.np w wr' (dT D v (D.f.np + 1) P lab hd pr) := by
  have hnp := h.np
  refine { is := ?_, gt := hG, ok := hT, P := fun i hi => (hP i (by omega)).trans (h.P i hi), lab := fun i hi => (hL i (by omega)).trans (h.lab i hi), np := ?_, lt := Nat.lt_succ_self _, at_ := hN, mv := h.mv.trans hM (fun b hb => h.fa hb), vP := ?_ }
  · obtain ⟨v', np', P', lab', hd', pr', rfl⟩ := h.is
    exact ⟨_, _, _, _, _, _, rfl⟩
  · show d.f.np ≤ D.f.np + 1 ∧ D.f.np + 1 ≤ _; omega
  · show v.ownBlock = d.x.vP.ownBlock ∨ ∃ b, v.ownBlock = some b ∧ w.heap.size ≤ b
    rcases hv with hv | ⟨b, hv, hb⟩
    · rw [hv]; exact h.vP
    · exact Or.inr ⟨b, hv, Nat.le_trans h.mv.size hb⟩
theorem AddSt.start (h : GT wr g d) (ht : TOk d.f d.t (some (s, l.length, l))) (hM : Mv (Fa g d) w wr) {p : Nat} (hp : d.t.hd (s, l.length) = some p) : AddSt g d s l 0 p w wr d :=
  { is := ⟨d.x.vP, d.f.np, d.f.P, d.t.lab, d.t.hd, d.t.pr, rfl⟩, gt := h, ok := ht, P := fun _ _ => rfl, lab := fun _ _ => rfl, np := ⟨Nat.le_refl _, by omega⟩, lt := (ht.hd1 _ _ _ hp).1, at_ := by rw [List.take_zero]; exact (ht.hd1 _ _ _ hp).2, mv := hM, vP := Or.inl rfl }
theorem AddSt.startNew {v : Value} {P : Nat → Part} {lab : Nat → Lab} {hd : ByteArray × Nat → Option Nat} (hG : GT wr g (dT d v (d.f.np + 1) P lab hd d.t.pr)) (hT : TOk (dT d v (d.f.np + 1) P lab hd d.t.pr).f (dT d v (d.f.np + 1) P lab hd d.t.pr).t (some (s, l.length, l)))
    (hP : ∀ i, i < d.f.np → P i = d.f.P i) (hL : ∀ i, i < d.f.np → lab i = d.t.lab i) (hN : lab d.f.np = (s, l.length, [])) (hM : Mv (Fa g d) w wr) (hv : v.ownBlock = d.x.vP.ownBlock ∨ ∃ b, v.ownBlock = some b ∧ w.heap.size ≤ b) :
    AddSt g d s l 0 d.f.np w wr (dT d v (d.f.np + 1) P lab hd d.t.pr) :=
  { is := ⟨_, _, _, _, _, _, rfl⟩, gt := hG, ok := hT, P := hP, lab := hL, np := ⟨Nat.le_succ _, Nat.le_refl _⟩, lt := Nat.lt_succ_self _, at_ := by rw [List.take_zero]; exact hN, mv := hM, vP := hv }
theorem AddSt.same (h : AddSt g d s l k at_ w wr D) {q : Nat} (h1 : q < D.f.np) (h2 : D.t.lab q = (s, l.length, l.take (k + 1))) : AddSt g d s l (k + 1) q w wr D :=
  { h with lt := h1, at_ := h2, np := ⟨h.np.1, by have := h.np.2; omega⟩ }
theorem AddSt.fresh (h : AddSt g d s l l.length at_ w wr D) (ht : TOk d.f d.t none) (hno : ∀ a, a < d.t.nn → d.t.N a ≠ (s, l)) : d.f.np ≤ at_ := by
  apply Nat.le_of_not_lt
  intro hlt
  have h1 := h.lab at_ hlt
  rw [h.at_, List.take_length] at h1
  obtain ⟨a, ha, _, hn, _⟩ := ht.same hlt h1.symm
  exact hno a ha hn
theorem AddSt.done (h : AddSt g d s l l.length at_ w wr D) (ht : TOk d.f d.t none) (hno : ∀ a, a < d.t.nn → d.t.N a ≠ (s, l)) (hal : ∀ b ∈ l, b < d.t.nn) (v : Value) :
    Added g d s l { D with x := { D.x with vW := v }, f := { D.f with P := upd D.f.P at_ { D.f.P at_ with node := (D.t.nn : Nat) }, nw := D.f.nw + 1, W := upd D.f.W D.f.nw at_ }, t := { D.t with nn := D.t.nn + 1, N := upd D.t.N D.t.nn (s, l) } } := by
  have hf := h.fresh ht hno
  have hP := h.P
  have hnp := h.np
  have hat := h.at_
  rw [List.take_length] at hat
  have hW : ∀ b, b < D.t.nn → D.f.W b ≠ at_ := fun b hb e => by
    have h1 := h.ok.whole b hb
    have h2 := (h.ok.node at_ _ _ _ h.lt hat).2.2 (Or.inr rfl)
    rw [e, h2] at h1
    have := h1.2.2
    omega
  have hok := h.ok.newNode h.lt hat (by obtain ⟨v', np', P', lab', hd', pr', rfl⟩ := h.is; exact hal) hW _ rfl _ rfl _ rfl
  have hnw := h.ok.nw
  have hnw0 := ht.nw
  obtain ⟨v', np', P', lab', hd', pr', rfl⟩ := h.is
  refine { nn := rfl, N := rfl, ne := ⟨rfl, rfl⟩, P := fun i hi => ?_, np := ⟨hnp.1, by show np' ≤ _; have := hnp.2; change np' ≤ _ at this; omega⟩, W := fun i hi => ?_, x := ⟨rfl, rfl, rfl⟩, r := ⟨rfl, rfl, rfl, rfl, rfl, rfl⟩, ok := ?_ }
  · show upd P' at_ _ i = _
    rw [upd_other _ _ (by omega)]; exact hP i hi
  · show upd d.f.W d.f.nw at_ i = _
    rw [upd_other _ _ (by omega)]
  · have hnw : (dT d v' np' P' lab' hd' pr').f.nw = (dT d v' np' P' lab' hd' pr').t.nn := hnw
    rw [← hnw] at hok
    rw [← hnw]
    exact hok
end
def AddEnd (g : Nat) (d : Gd) (s : ByteArray) (l : List Nat) (w w' : World) : Prop :=
  ∃ d', Added g d s l d' ∧ GT w' g d' ∧ Mv (Fa g d) w w' ∧ (d'.x.vP.ownBlock = d.x.vP.ownBlock ∨ ∃ b, d'.x.vP.ownBlock = some b ∧ w.heap.size ≤ b) ∧ (d'.x.vW.ownBlock = d.x.vW.ownBlock ∨ ∃ b, d'.x.vW.ownBlock = some b ∧ w.heap.size ≤ b)
end Euf
end Go.Proofs.Ytmnpefiaelpkfac
/- The contract of add; it proves no statement of the seat. -/
namespace Go.Proofs.Ytmnpefiaelpkfac
open Go.RowKit
set_option linter.unusedVariables false
namespace Euf
theorem GT.setNode {w : World} {g : Nat} {D : Gd} (h : GT w g D) {gp cap i : Nat} {z : Int} (hv : D.x.vP = .slice (some ⟨gp, 0, none⟩) D.f.np cap) (hi : i < D.f.np) : GT (w.setCell ⟨gp, i * 3 + 2, none⟩ (.int .i64 z)) g { D with f := { D.f with P := upd D.f.P i { D.f.P i with node := z } } } := by
  have key : ∀ b, b ≠ gp → (w.setCell ⟨gp, i * 3 + 2, none⟩ (.int .i64 z)).heap[b]? = w.heap[b]? := fun b hb => heap_setCell_other w ⟨gp, i * 3 + 2, none⟩ b _ hb
  refine ⟨h.cw.setPart hv hi, h.c2, h.c3, h.heads.stay (key _ ?_), h.pairs.stay (key _ ?_), h.mne⟩
  · intro e; exact h.cw.parts.neM h.heads (by rw [hv, e]; rfl)
  · intro e; exact h.cw.parts.neM h.pairs (by rw [hv, e]; rfl)
theorem GT.pushWhole {w w1 : World} {g : Nat} {D : Gd} (h : GT w g D) (p : Nat) {v : Value} (hap : App D.x.vW v w w1) (hol : OL 1 3 w1 v (D.f.nw + 1) (fun i => [.int .i64 (upd D.f.W D.f.nw p i : Nat)])) :
    GT (w1.setCell ⟨g, 5, none⟩ v) g { D with x := { D.x with vW := v }, f := { D.f with nw := D.f.nw + 1, W := upd D.f.W D.f.nw p } } ∧ Mv (fun b => b = g ∨ D.x.vW.ownBlock = some b) w (w1.setCell ⟨g, 5, none⟩ v) := by
  obtain ⟨k1, k2⟩ := h.cw.pushWhole p hap hol
  have ng : ∀ {b : Nat}, (∃ es cl, w.heap[b]? = some (.map es cl)) → b ≠ g := by
    rintro b ⟨es, cl, he⟩ e
    have := h.cw.blk; rw [← e, he] at this; cases this
  refine ⟨⟨k1, h.c2, h.c3, h.heads.stay (k2.other _ h.heads.lt ?_), h.pairs.stay (k2.other _ h.pairs.lt ?_), h.mne⟩, k2⟩
  · rintro (e | e)
    · exact ng h.heads.isMap e
    · exact h.cw.whole.neM h.heads e
  · rintro (e | e)
    · exact ng h.pairs.isMap e
    · exact h.cw.whole.neM h.pairs e

set_option maxRecDepth 20000 in
set_option maxHeartbeats 8000000 in
theorem add_any (g : Nat) (d : Gd) (s : ByteArray) (l : List Nat) (ao : Option Addr) (cap : Nat) (w : World) (h : GT w g d) (ht : TOk d.f d.t none) (hs : s.size ≤ maxLen) (hl : l.length ≤ 10000) (hv : Seg .i64 w ao l) (hap : 0 < l.length → ∀ b off, ao = some ⟨b, off, none⟩ → ¬ Fa g d b) (hin : ∀ b ∈ l, b < d.t.nn) (hno : ∀ a, a < d.t.nn → d.t.N a ≠ (s, l)) (hnp : d.f.np + l.length + 1 ≤ 10000) (hnn : d.t.nn ≤ 20000) :
    Calls Try.prog 40 #[.pointer (some ⟨g, 2, none⟩), .string s, .slice ao l.length cap] w fun e w' => e = .returned (.int .i64 (d.t.nn : Nat)) ∧ AddEnd g d s l w w' := by
  have HT : Hid (TOk d.f d.t none ∧ TOk d.f d.t (some (s, l.length, l))) := ⟨ht, ht.open s l hno⟩
  have HIN : Hid (∀ b ∈ l, b < d.t.nn) := hin
  have HNO : Hid (∀ a, a < d.t.nn → d.t.N a ≠ (s, l)) := hno
  have HSEG : Hid (Seg .i64 w ao l) := hv
  have HAP : Hid (0 < l.length → ∀ b off, ao = some ⟨b, off, none⟩ → ¬ Fa g d b) := hap
  have HS : Hid (s.size ≤ maxLen) := hs
  have HNP : Hid (d.f.np + l.length + 1 ≤ 10000) := hnp
  obtain ⟨kl, hkl⟩ := keyHead (n := l.length) hs (by omega)
  have h1 := h.stay (w' := w.alloc (.cells #[.string s, .int .i64 (l.length : Nat)] 118 (0, 0))) (fun b hlt => Below.heap_alloc w _ b hlt)
  have kb : (w.alloc (.cells #[.string s, .int .i64 (l.length : Nat)] 118 (0, 0))).heap[w.heap.size]? = _ := heap_alloc_new w _
  have hM1 : Mv (Fa g d) w (w.alloc (.cells #[.string s, .int .i64 (l.length : Nat)] 118 (0, 0))) := (Mv.refl _ w).alloc _
  have HL0 : Hid (∀ b, (b = g ∨ d.x.vP.ownBlock = some b) → b ≠ w.heap.size) := by
    rintro b (e | e) e'
    · have := h.cw.lt; omega
    · have := h.cw.parts.lt e; omega
  clear h ht hin hno hv hap hs hnp
  go_enter Try.func40, Try.ntmps40
  go_upto_region 2 with fail
  obtain ⟨bx, hbx⟩ : ∃ bx, bx = w.heap.size := ⟨_, rfl⟩
  rw [← hbx] at kb HL0 ⊢
  have HBX : Hid (bx = w.heap.size) := hbx
  clear hbx
  generalize (w.alloc (.cells #[.string s, .int .i64 (l.length : Nat)] 118 (0, 0))) = w1 at h1 kb hM1 ⊢
  have d0 : w1.cell? ⟨bx, 0, none⟩ = some (.string s) := cell_of_row _ bx 0 _ 118 (0, 0) kb
  have d1 : w1.cell? ⟨bx, 1, none⟩ = some (.int .i64 (l.length : Nat)) := cell_of_row _ bx 1 _ 118 (0, 0) kb
  obtain ⟨-, -, c2, -, -, -, -, -, -, -⟩ := h1.cw.cells
  rw [h1.c2] at c2
  have hlook : ∀ n, (Instr.lookup 64 (.map (some d.bH)) (.agg #[.string s, .int .i64 (l.length : Nat)]) true).run Try.prog (w1.drewN n) = .ok (.tuple #[.int .i64 ((hdF d.t.hd (.agg #[.string s, .int .i64 (l.length : Nat)])).getD 0), .bool (hdF d.t.hd (.agg #[.string s, .int .i64 (l.length : Nat)])).isSome]) (w1.drewN n) := fun n => (h1.heads.stay (w' := w1.drewN n) rfl).look lawHead uHead uInt (zInt _) hkl
  simp only [hdF_at] at hlook
  obtain ⟨at0, hat0⟩ : ∃ at0, at0 = (d.t.hd (s, l.length)).getD 0 := ⟨_, rfl⟩
  obtain ⟨ok0, hok0⟩ : ∃ ok0, ok0 = (d.t.hd (s, l.length)).isSome := ⟨_, rfl⟩
  have e1 : (Option.map Int.ofNat (d.t.hd (s, l.length))).getD 0 = (at0 : Nat) := by rw [hat0]; cases d.t.hd (s, l.length) <;> rfl
  have e2 : (Option.map Int.ofNat (d.t.hd (s, l.length))).isSome = ok0 := by rw [hok0]; cases d.t.hd (s, l.length) <;> rfl
  rw [e1, e2] at hlook
  have HHD : Hid ((ok0 = true ∧ d.t.hd (s, l.length) = some at0) ∨ (ok0 = false ∧ d.t.hd (s, l.length) = none)) := by
    cases hh : d.t.hd (s, l.length) with
    | none => right; exact ⟨by rw [hok0, hh]; rfl, rfl⟩
    | some p => left; exact ⟨by rw [hok0, hh]; rfl, by rw [hat0, hh]; rfl⟩
  clear hkl hat0 hok0 e1 e2
  go_quiet (fail)
  have h2 := h1.stay (w' := w1.drewN nq) (fun _ _ => rfl)
  have hM2 := hM1.drewN nq
  have kb2 : (w1.drewN nq).heap[bx]? = some (.cells #[.string s, .int .i64 (l.length : Nat)] 118 (0, 0)) := kb
  clear h1 hM1 kb d0 d1 c2 hlook
  generalize w1.drewN nq = w2 at h2 hM2 kb2 ⊢
  have HG2 : Hid (GT w2 g d) := h2
  have HM2 : Hid (Mv (Fa g d) w w2) := hM2
  have HKB : Hid (w2.heap[bx]? = some (.cells #[.string s, .int .i64 (l.length : Nat)] 118 (0, 0))) := kb2
  clear h2 hM2 kb2
  go_upto_if 30 with fail
  go_cut [8] from 31 to 38 (fun v8 wx => ∃ (a0 : Nat) (D : Gd), v8 = .int .i64 (a0 : Nat) ∧ AddSt g d s l 0 a0 w wx D)
  case first =>
    cases ok0 with
    | true =>
      have hp : d.t.hd (s, l.length) = some at0 := by
        rcases HHD.out with ⟨_, h9⟩ | ⟨h9, _⟩
        · exact h9
        · cases h9
      go_wp2
      go_meet
      case rel => exact ⟨at0, d, rfl, AddSt.start HG2.out HT.out.2 HM2.out hp⟩
    | false =>
      have hp : d.t.hd (s, l.length) = none := by
        rcases HHD.out with ⟨h9, _⟩ | ⟨_, h9⟩
        · cases h9
        · exact h9
      have HP : Hid (d.t.hd (s, l.length) = none) := hp
      clear hp
      go_wp2_with fail
      refine (keep_any g d.x d.f d.m d.y d.s (-1) (-1) w2 HG2.out.cw (by have := HNP.out; omega)).mono ?_
      rintro e w3 ⟨rfl, v, hC3, hM3, hv3⟩
      have hG3 := HG2.out.kept hC3 hM3
      have hkb3 : w3.heap[bx]? = _ := (hM3.other bx (Array.getElem?_eq_some_iff.1 HKB.out).1 (fun h9 => HL0.out _ h9 rfl)).trans HKB.out
      have hT3 := HT.out.2.newHead (n := l.length) HP.out (fun h9 => by have : l = [] := List.eq_nil_of_length_eq_zero h9; rw [this]) _ rfl
      have hG3d : GT w3.drew g _ := hG3.stay (w' := w3.drew) (fun _ _ => rfl)
      obtain ⟨w4, hrun, hG4, hturn⟩ := enterHead hG3d (s := s) (n := l.length) (q := d.f.np) HS.out hl (by have := HNP.out; omega) rfl hT3
      have b0 : w3.cell? ⟨bx, 0, none⟩ = some (.string s) := cell_of_row _ bx 0 _ 118 (0, 0) hkb3
      have b1 : w3.cell? ⟨bx, 1, none⟩ = some (.int .i64 (l.length : Nat)) := cell_of_row _ bx 1 _ 118 (0, 0) hkb3
      obtain ⟨-, -, c2, -, -, -, -, -, -, -⟩ := hC3.cells
      have c2' : w3.cell? ⟨g, 2, none⟩ = some (.map (some d.bH)) := by rw [← HG2.out.c2]; exact c2
      have HFIN : Hid (∃ D, AddSt g d s l 0 d.f.np w w4 D) := by
        refine ⟨_, AddSt.startNew (v := v) hG4 hT3 (fun i hi => upd_other _ _ (by omega)) (fun i hi => upd_other _ _ (by omega)) (upd_same _ _ _) ?_ ?_⟩
        · refine (Mv.drew (HM2.out.trans hM3 (fun b hb => Or.inl (hb.elim Or.inl (fun h9 => Or.inr (Or.inl h9)))))).turned hturn (Or.inl (Or.inr (Or.inr (Or.inr (Or.inl rfl)))))
        · rcases hv3 with h9 | ⟨b, h9, h10⟩
          · exact Or.inl h9
          · exact Or.inr ⟨b, h9, Nat.le_trans HM2.out.size h10⟩
      clear hG3 hG3d hT3 hC3 hM3 hv3 hkb3 c2 hG4 hturn
      replace hrun : (Instr.mapUpdate 64 (.map (some d.bH)) (.agg #[.string s, .int .i64 (l.length : Nat)]) (.int .i64 (d.f.np : Nat))).run Try.prog w3.drew = .ok () w4 := hrun
      go_wp2
      go_region
      go_wp2
      go_meet
      case rel => obtain ⟨D, hD⟩ := HFIN.out; exact ⟨_, D, rfl, hD⟩
  case rest =>
    obtain ⟨a0, D0, rfl, hA0⟩ := hcut
    have HA0 : Hid (AddSt g d s l 0 a0 w wc D0) := hA0
    clear HKB HHD HG2 HM2 HL0 hA0 HBX
    go_wp2
    go_loopw [8, 41] (fun v8 v41 wr => ∃ (k at_ : Nat) (D : Gd), v8 = .int .i64 (at_ : Nat) ∧ v41 = .int .i64 (k : Nat) ∧ k ≤ l.length ∧ Hid (AddSt g d s l k at_ w wr D)) (fun _ v _ => l.length - (intOf v).toNat)
    case atStart => exact ⟨0, a0, D0, rfl, rfl, Nat.zero_le _, HA0.out⟩
    case round =>
      clear HA0
      obtain ⟨k, at_, D, rfl, rfl, hk, HA⟩ := hrel
      by_cases hlt : k < l.length
      · have hltI : (k : Int) < (l.length : Int) := by omega
        obtain ⟨b, off, rfl, hbl, cu0⟩ := seg_cell HSEG.out hlt
        have cu : wr.cell? ⟨b, off + k, none⟩ = some (.int .i64 (l.getD k 0 : Nat)) := (World.cell?_of_block (a := ⟨b, off + k, none⟩) (HA.out.mv.other b hbl (HAP.out (by omega) b off rfl))).trans cu0
        obtain ⟨a, ha⟩ : ∃ a, a = l.getD k 0 := ⟨_, rfl⟩
        rw [← ha] at cu
        have hget : l[k] = a := by rw [ha, List.getD_eq_getElem?_getD, List.getElem?_eq_getElem hlt]; rfl
        have HTK : Hid (l.take (k + 1) = l.take k ++ [a]) := by show _ = _; rw [List.take_succ_eq_append_getElem hlt, hget]
        have han : a < D.t.nn := by
          have := HIN.out a (by rw [← hget]; exact List.getElem_mem hlt)
          obtain ⟨v', np', P', lab', hd', pr', h9⟩ := HA.out.is
          rw [h9]; exact this
        clear hget ha cu0
        have hG := HA.out.gt
        have hsm := hG.cw.small
        have hWn := HA.out.ok.nw
        obtain ⟨gw, cw, hvw, hgw, w0⟩ := hG.cw.wholeAt (i := a) (by omega)
        have hWl := (HA.out.ok.whole a han).1
        have hat := HA.out.lt
        obtain ⟨-, -, -, -, -, c5, -, -, -, -⟩ := hG.cw.cells
        rw [hvw] at c5
        have hanw : (a : Int) < (D.f.nw : Int) := by omega
        have hA1 := HA.out.stay (wr' := wr.alloc (.cells #[.int .i64 (at_ : Nat), .int .i64 (D.f.W a : Nat)] 51 (0, 0))) ((Below.refl _ _).alloc (Nat.le_refl _) _)
        have kb : (wr.alloc (.cells #[.int .i64 (at_ : Nat), .int .i64 (D.f.W a : Nat)] 51 (0, 0))).heap[wr.heap.size]? = _ := heap_alloc_new wr _
        have HL0 : Hid (∀ b, (b = g ∨ D.x.vP.ownBlock = some b) → b ≠ wr.heap.size) := by
          rintro b (e | e) e'
          · have := hG.cw.lt; omega
          · have := hG.cw.parts.lt e; omega
        clear hvw hG
        go_upto_region 10 with fail
        obtain ⟨bx, hbx⟩ : ∃ bx, bx = wr.heap.size := ⟨_, rfl⟩
        rw [← hbx] at kb HL0 ⊢
        clear hbx c5 w0 cu HA
        generalize (wr.alloc (.cells #[.int .i64 (at_ : Nat), .int .i64 (D.f.W a : Nat)] 51 (0, 0))) = w1 at hA1 kb ⊢
        have d0 : w1.cell? ⟨bx, 0, none⟩ = some (.int .i64 (at_ : Nat)) := cell_of_row _ bx 0 _ 51 (0, 0) kb
        have d1 : w1.cell? ⟨bx, 1, none⟩ = some (.int .i64 (D.f.W a : Nat)) := cell_of_row _ bx 1 _ 51 (0, 0) kb
        obtain ⟨kl2, hkl2⟩ := keyPair (a := (at_ : Nat)) (b := (D.f.W a : Nat)) (wfNat (by omega)) (wfNat (by omega))
        obtain ⟨-, -, -, c3, -, -, -, -, -, -⟩ := hA1.gt.cw.cells
        rw [hA1.gt.c3] at c3
        have hlook2 : ∀ n, (Instr.lookup 65 (.map (some D.bR)) (.agg #[.int .i64 (at_ : Nat), .int .i64 (D.f.W a : Nat)]) true).run Try.prog (w1.drewN n) = .ok (.tuple #[.int .i64 ((sgF D.t.pr (.agg #[.int .i64 (at_ : Nat), .int .i64 (D.f.W a : Nat)])).getD 0), .bool (sgF D.t.pr (.agg #[.int .i64 (at_ : Nat), .int .i64 (D.f.W a : Nat)])).isSome]) (w1.drewN n) := fun n => (hA1.gt.pairs.stay (w' := w1.drewN n) rfl).look lawPair uSig uInt (zInt _) hkl2
        simp only [sgF_at] at hlook2
        obtain ⟨at1, hat1⟩ : ∃ at1, at1 = (D.t.pr (at_, D.f.W a)).getD 0 := ⟨_, rfl⟩
        obtain ⟨ok1, hok1⟩ : ∃ ok1, ok1 = (D.t.pr (at_, D.f.W a)).isSome := ⟨_, rfl⟩
        have e1 : (Option.map Int.ofNat (D.t.pr (at_, D.f.W a))).getD 0 = (at1 : Nat) := by rw [hat1]; cases D.t.pr (at_, D.f.W a) <;> rfl
        have e2 : (Option.map Int.ofNat (D.t.pr (at_, D.f.W a))).isSome = ok1 := by rw [hok1]; cases D.t.pr (at_, D.f.W a) <;> rfl
        rw [e1, e2] at hlook2
        have HPR : Hid ((ok1 = true ∧ D.t.pr (at_, D.f.W a) = some at1) ∨ (ok1 = false ∧ D.t.pr (at_, D.f.W a) = none)) := by
          cases hh : D.t.pr (at_, D.f.W a) with
          | none => right; exact ⟨by rw [hok1, hh]; rfl, rfl⟩
          | some p => left; exact ⟨by rw [hok1, hh]; rfl, by rw [hat1, hh]; rfl⟩
        clear hkl2 hat1 hok1 e1 e2
        go_quiet (fail)
        have hA2 := hA1.stay (wr' := w1.drewN nq) ⟨rfl, rfl, rfl, Nat.le_refl _, fun _ _ => rfl⟩
        have kb2 : (w1.drewN nq).heap[bx]? = some (.cells #[.int .i64 (at_ : Nat), .int .i64 (D.f.W a : Nat)] 51 (0, 0)) := kb
        clear hA1 kb d0 d1 c3 hlook2
        generalize w1.drewN nq = w2 at hA2 kb2 ⊢
        have HA2 : Hid (AddSt g d s l k at_ w w2 D) := hA2
        have HKB : Hid (w2.heap[bx]? = some (.cells #[.int .i64 (at_ : Nat), .int .i64 (D.f.W a : Nat)] 51 (0, 0))) := kb2
        clear hA2 kb2
        go_upto_if 64 with fail
        go_cut [13] from 65 to 76 (fun v13 wx => ∃ (a1 : Nat) (D' : Gd), v13 = .int .i64 (a1 : Nat) ∧ Hid (AddSt g d s l (k + 1) a1 w wx D'))
        case first =>
          cases ok1 with
          | true =>
            have hp : D.t.pr (at_, D.f.W a) = some at1 := by
              rcases HPR.out with ⟨_, h9⟩ | ⟨h9, _⟩
              · exact h9
              · cases h9
            have HR : Hid (at1 < D.f.np ∧ D.t.lab at1 = (s, l.length, l.take (k + 1))) := by
              obtain ⟨k1, k2, s', n', l', a', k3, k4, k5, k6⟩ := HA2.out.ok.pr1 at_ (D.f.W a) at1 hp
              rw [HA2.out.at_] at k3
              cases k3
              obtain rfl := HA2.out.ok.Winj k4 han k5
              exact ⟨k1, by rw [HTK.out]; exact k6⟩
            clear hp
            go_wp2
            go_meet
            case rel => exact ⟨at1, D, rfl, HA2.out.same HR.out.1 HR.out.2⟩
          | false =>
            have hp : D.t.pr (at_, D.f.W a) = none := by
              rcases HPR.out with ⟨h9, _⟩ | ⟨_, h9⟩
              · cases h9
              · exact h9
            have HP : Hid (D.t.pr (at_, D.f.W a) = none) := hp
            have hD10 : D.f.np + 1 ≤ 10000 := by
              have h8 := HA2.out.np
              have h9 := HNP.out
              omega
            clear hp
            have b0' : w2.cell? ⟨bx, 0, none⟩ = some (.int .i64 (at_ : Nat)) := cell_of_row _ bx 0 _ 51 (0, 0) HKB.out
            have b1' : w2.cell? ⟨bx, 1, none⟩ = some (.int .i64 (D.f.W a : Nat)) := cell_of_row _ bx 1 _ 51 (0, 0) HKB.out
            go_wp2_with fail
            refine (keep_any g D.x D.f D.m D.y D.s (at_ : Nat) (D.f.W a : Nat) w2 HA2.out.gt.cw hD10).mono ?_
            rintro e w3 ⟨rfl, v, hC3, hM3, hv3⟩
            have hG3 := HA2.out.gt.kept hC3 hM3
            have hkb3 : w3.heap[bx]? = _ := (hM3.other bx (Array.getElem?_eq_some_iff.1 HKB.out).1 (fun h9 => HL0.out _ h9 rfl)).trans HKB.out
            have hln : (l.take k).length = k := by rw [List.length_take]; omega
            have hT3 := HA2.out.ok.newPart HA2.out.lt HA2.out.at_ han (by rw [hln]; exact hlt) HP.out (fun h9 => by
              rw [hln] at h9
              rw [← HTK.out, h9, List.take_length]) _ rfl
            have hG3d : GT w3.drew g _ := hG3.stay (w' := w3.drew) (fun _ _ => rfl)
            obtain ⟨w4, hrun, hG4, hturn⟩ := enterPair hG3d (p := at_) (c := D.f.W a) (q := D.f.np) (by omega) (by omega) (by omega) rfl hT3
            have b0 : w3.cell? ⟨bx, 0, none⟩ = some (.int .i64 (at_ : Nat)) := cell_of_row _ bx 0 _ 51 (0, 0) hkb3
            have b1 : w3.cell? ⟨bx, 1, none⟩ = some (.int .i64 (D.f.W a : Nat)) := cell_of_row _ bx 1 _ 51 (0, 0) hkb3
            obtain ⟨-, -, -, c3, -, -, -, -, -, -⟩ := hC3.cells
            have c3' : w3.cell? ⟨g, 3, none⟩ = some (.map (some D.bR)) := by rw [← HA2.out.gt.c3]; exact c3
            have HFIN : Hid (∃ D', AddSt g d s l (k + 1) D.f.np w w4 D') := by
              refine ⟨_, HA2.out.next (v := v) hG4 hT3 (fun i hi => upd_other _ _ (by omega)) (fun i hi => upd_other _ _ (by omega)) ?_ ?_ hv3⟩
              · rw [upd_same, HTK.out]
              · exact (Mv.drew (F := Fa g D) (w := w2) ⟨hM3.os, hM3.tape, hM3.output, hM3.size, fun b hb hn => hM3.other b hb (fun h9 => hn (h9.elim Or.inl (fun h9 => Or.inr (Or.inl h9))))⟩).turned hturn (Or.inl (Or.inr (Or.inr (Or.inr (Or.inr rfl)))))
            clear hG3 hG3d hT3 hC3 hM3 hv3 hkb3 c3 hG4 hturn b0' b1' hln
            replace hrun : (Instr.mapUpdate 65 (.map (some D.bR)) (.agg #[.int .i64 (at_ : Nat), .int .i64 (D.f.W a : Nat)]) (.int .i64 (D.f.np : Nat))).run Try.prog w3.drew = .ok () w4 := hrun
            go_wp2
            go_region
            go_wp2
            go_meet
            case rel => obtain ⟨D', hD⟩ := HFIN.out; exact ⟨_, D', rfl, hD⟩
        case rest =>
          obtain ⟨a1, D', rfl, HA3⟩ := hcut
          clear HKB HPR HA2 HL0 HTK
          go_wp2
          go_roundw
          case rel => exact ⟨k + 1, a1, D', rfl, by go_num, by omega, HA3⟩
          case measure => simp [intOf]; omega
      · have hk2 : k = l.length := by omega
        have hltI : ¬ ((k : Int) < (l.length : Int)) := by omega
        subst hk2
        have hG := HA.out.gt
        have hsm := hG.cw.small
        have HNW : Hid (D.f.nw = d.t.nn ∧ D.f.nw = D.t.nn) := by
          refine ⟨?_, HA.out.ok.nw⟩
          obtain ⟨v', np', P', lab', hd', pr', h9⟩ := HA.out.is
          rw [HA.out.ok.nw, h9]; rfl
        have hnw9 : D.f.nw ≤ 20000 := by have := HNW.out.1; omega
        have hat := HA.out.lt
        have hatI : (at_ : Int) < (D.f.np : Int) := by omega
        obtain ⟨gp, cp, hvp, hgp, p0, p1, p2⟩ := hG.cw.part hat
        obtain ⟨aw, cw, hvw, hcw1, hcw2, -, -⟩ := hG.cw.whole.shape
        obtain ⟨-, -, -, -, c4, c5, -, -, -, -⟩ := hG.cw.cells
        rw [hvp] at c4
        have hpf := hG.cw.parts
        rw [hvp] at hpf
        have q2 := hpf.frozen (at_ * 3 + 2)
        have hG1 := hG.setNode (z := (D.f.nw : Nat)) hvp hat
        have hM1 : Mv (Fa g d) w (wr.setCell ⟨gp, at_ * 3 + 2, none⟩ (.int .i64 (D.f.nw : Nat))) := HA.out.mv.set (HA.out.fa (Or.inr (Or.inl (by rw [hvp]; rfl)))) _
        have HVW : Hid (D.x.vW = .slice aw D.f.nw cw) := hvw
        rw [hvw] at c5
        clear hG hvp hvw hpf p0 p1
        go_upto_region 18 with fail
        generalize (wr.setCell ⟨gp, at_ * 3 + 2, none⟩ (.int .i64 (D.f.nw : Nat))) = w1 at hG1 hM1 ⊢
        clear c4 c5 q2 p2
        obtain ⟨-, -, -, -, -, c5, -, -, -, -⟩ := hG1.cw.cells
        replace c5 : w1.cell? ⟨g, 5, none⟩ = some (.slice aw D.f.nw cw) := by rw [← HVW.out]; exact c5
        have hgl := hG1.cw.lt
        have hol0 := hG1.cw.whole
        have hblk := hG1.cw.blk
        have h4 := hG1.cw.alloc (.cells #[.int .i64 (at_ : Nat)] 3 (0, 0))
        replace h4 := h4.whole
        replace h4 : OL 1 3 (w1.alloc (.cells #[.int .i64 (at_ : Nat)] 3 (0, 0))) (.slice aw D.f.nw cw) D.f.nw (fun i => [.int .i64 (D.f.W i : Nat)]) := by rw [← HVW.out]; exact h4
        go_wp2_with (at_builtin; refine Stop.of ?_)
        show wpList _ _ _ _ _ _
        refine wpList_push rfl (.tmp 96) (.tmp 98) 31 rfl 1 3 _ 8 uInts iInt (by decide) rfl (by decide) (.slice aw D.f.nw cw) D.f.nw _ rfl [.int .i64 (at_ : Nat)] 3 h4 (fun _ _ => rfl) 1 rfl rfl (by intro u hu; simp at hu; subst hu; rfl) (by omega) (fun i => [.int .i64 (upd D.f.W D.f.nw at_ i : Nat)]) (fun k hk => by simp [upd, Nat.ne_of_lt hk]) (by simp [upd]) ?_
        intro v w2 hol hap hne
        replace hap := hap.of_alloc (fun b hb => hol0.lt (by rw [← hb]; show D.x.vW.ownBlock = _; rw [HVW.out]))
        replace hap : App D.x.vW v w1 w2 := by rw [HVW.out]; exact hap
        obtain ⟨k1, k2⟩ := hG1.pushWhole at_ hap hol
        have hg1 : w2.heap[g]? = _ := (hap.other g hgl (hol0.neB hblk (by decide))).trans hblk
        have c51 : w2.cell? ⟨g, 5, none⟩ = some D.x.vW := cell_of_row w2 g 5 _ 73 (0, 0) hg1
        have q51 : w2.frozen? ⟨g, 5, none⟩ = false := frozen_of_row w2 g 5 _ 73 hg1
        have hgl2 : g < w2.heap.size := (Array.getElem?_eq_some_iff.1 hg1).1
        have hat2 := hap.at_
        have HFIN : Hid (AddEnd g d s l w (w2.setCell ⟨g, 5, none⟩ v)) := by
          have hdn := HA.out.done HT.out.1 HNO.out HIN.out v
          rw [← HNW.out.2] at hdn
          refine ⟨_, hdn, ?_, ?_, ?_, ?_⟩
          · exact ⟨k1.cw, k1.c2, k1.c3, k1.heads, k1.pairs, k1.mne⟩
          · exact hM1.trans k2 (fun b hb => HA.out.fa (hb.elim Or.inl (fun h9 => Or.inr (Or.inr (Or.inl h9)))))
          · exact HA.out.vP
          · show v.ownBlock = d.x.vW.ownBlock ∨ ∃ b, v.ownBlock = some b ∧ w.heap.size ≤ b
            rcases hat2 with h9 | ⟨b, h9, h10⟩
            · left; rw [h9]
              obtain ⟨v', np', P', lab', hd', pr', h11⟩ := HA.out.is
              rw [h11]; rfl
            · exact Or.inr ⟨b, h9, Nat.le_trans hM1.size h10⟩
        obtain ⟨ao', cc, hv', -, -, -, -⟩ := hol.shape
        subst hv'
        clear hg1 hol hap h4 hol0 hblk hat2 hne k1 k2 hG1 c5
        go_wp2
        go_ret
        exact ⟨by rw [HNW.out.1]; rfl, HFIN.out⟩
end Euf
end Go.Proofs.Ytmnpefiaelpkfac
/- For the contract of Node; it proves no statement of the seat. -/
namespace Go.Proofs.Ytmnpefiaelpkfac
open Go.RowKit
set_option linter.unusedVariables false
namespace Euf
theorem uNodes : Try.prog.underlying 25 = some (.slice 84) := by kernel_rfl
theorem iNode : (Try.prog.info? 84).map (fun i => (i.zero, i.size, i.bytes)) = some (some (.agg #[.string ByteArray.empty, .slice none 0 0]), 2, 40) := by kernel_rfl
/-- The list of nodes is another one. -/
theorem GT.pushNode {w w1 : World} {g : Nat} {d : Gd} (h : GT w g d) {n : Nat} {f0 : Nat → List Value} (ho : OL 2 84 w d.x.c0 n f0) {v : Value} (hap : App d.x.c0 v w w1) {n' : Nat} {f1 : Nat → List Value} (hol : OL 2 84 w1 v n' f1) :
    GT (w1.setCell ⟨g, 0, none⟩ v) g { d with x := { d.x with c0 := v } } ∧ OL 2 84 (w1.setCell ⟨g, 0, none⟩ v) v n' f1 ∧ Mv (fun b => b = g ∨ d.x.c0.ownBlock = some b) w (w1.setCell ⟨g, 0, none⟩ v) := by
  have keep : ∀ b, b < w.heap.size → d.x.c0.ownBlock ≠ some b → b ≠ g → (w1.setCell ⟨g, 0, none⟩ v).heap[b]? = w.heap[b]? := fun b hb h1 h2 => (heap_setCell_other w1 ⟨g, 0, none⟩ b v h2).trans (hap.other b hb h1)
  have hg : w1.heap[g]? = _ := (hap.other g h.cw.lt (ho.neB h.cw.blk (by decide))).trans h.cw.blk
  have other : ∀ {sz : Nat} {e : TypeId} {v' : Value} {n : Nat} {f' : Nat → List Value}, OL sz e w v' n f' → e ≠ 84 → e ≠ 73 → OL sz e (w1.setCell ⟨g, 0, none⟩ v) v' n f' := by
    intro sz e v' n f' hv h1 h2
    refine hv.stay fun b hb => keep b (hv.lt hb) (fun hc => hv.ne ho h1 hb hc) (fun e' => hv.neB h.cw.blk h2 (by rw [hb, e']))
  have mp : ∀ {K E : TypeId} {b k : Nat} {m : Value → Option Int}, MapF Try.prog K E w b k m → MapF Try.prog K E (w1.setCell ⟨g, 0, none⟩ v) b k m := by
    intro K E b k m hm
    refine hm.stay (keep _ hm.lt (fun hc => ho.neM hm hc) (fun e' => ?_))
    obtain ⟨es, cl, he⟩ := hm.isMap
    rw [e', h.cw.blk] at he
    cases he
  refine ⟨⟨{ blk := ?_, parts := other h.cw.parts (by decide) (by decide), whole := other h.cw.whole (by decide) (by decide), eqs := other h.cw.eqs (by decide) (by decide), spots := other h.cw.spots (by decide) (by decide), uses := fun i hi => other (h.cw.uses i hi) (by decide) (by decide), claims := other h.cw.claims (by decide) (by decide), sig := mp h.cw.sig, apart := h.cw.apart, apartW := h.cw.apartW, small := h.cw.small }, h.c2, h.c3, mp h.heads, mp h.pairs, h.mne⟩, ?_, ?_⟩
  · exact (heap_setCell_same w1 g 0 _ 73 v hg).trans rfl
  · exact hol.stay fun b hb => heap_setCell_other w1 ⟨g, 0, none⟩ b v (fun e' => hol.neB hg (by decide) (by rw [hb, e']))
  · exact ⟨hap.os, hap.tape, hap.output, by simp; exact hap.size, fun b hb hn => keep b hb (fun hc => hn (Or.inr hc)) (fun e' => hn (Or.inl e'))⟩
/-- The blocks that 'Node' may write. -/
def Fn (g : Nat) (d : Gd) (b : Nat) : Prop := d.x.c0.ownBlock = some b ∨ Fa g d b
/-- What 'Node' adds. -/
structure Grown (d : Gd) (s : ByteArray) (l : List Nat) (d' : Gd) : Prop where
  nn : d'.t.nn = d.t.nn + 1
  N : d'.t.N = upd d.t.N d.t.nn (s, l)
  ne : d'.f.ne = d.f.ne ∧ d'.f.E = d.f.E
  P : ∀ i, i < d.f.np → d'.f.P i = d.f.P i
  np : d.f.np ≤ d'.f.np ∧ d'.f.np ≤ d.f.np + l.length + 1
  W : ∀ i, i < d.t.nn → d'.f.W i = d.f.W i
  r : d'.m = d.m ∧ d'.y = d.y ∧ d'.s = d.s ∧ d'.bH = d.bH ∧ d'.bR = d.bR ∧ d'.x.c1 = d.x.c1 ∧ d'.x.bG = d.x.bG
  ok : TOk d'.f d'.t none
theorem Added.grown {g : Nat} {d d' : Gd} {s : ByteArray} {l : List Nat} {v : Value} (h : Added g { d with x := { d.x with c0 := v } } s l d') (ag : Nat → Value) : Grown d s l { d' with ag := ag } :=
  ⟨h.nn, h.N, h.ne, h.P, h.np, h.W, ⟨h.r.1, h.r.2.1, h.r.2.2.1, h.r.2.2.2.1, h.r.2.2.2.2.1, h.x.2.1, h.x.2.2⟩, h.ok⟩
/-- A slice of ints that lies by itself. -/
def CP (l : List Nat) (W : World) (u : Value) (wr : World) : Prop := OL 1 3 wr u l.length (natC l) ∧ ∃ b, u.ownBlock = some b ∧ W.heap.size ≤ b
theorem CP.stay {l : List Nat} {W : World} {u : Value} {wr wr' : World} (h : CP l W u wr) (hb : ∀ b, u.ownBlock = some b → wr'.heap[b]? = wr.heap[b]?) : CP l W u wr' := ⟨h.1.stay hb, h.2⟩
/-- When the list of nodes has one more and the parts don't know of it. -/
def MidN (g : Nat) (d : Gd) (s : ByteArray) (l : List Nat) (W wr : World) : Prop :=
  ∃ v u, GT wr g { d with x := { d.x with c0 := v } } ∧ OL 2 84 wr v (d.t.nn + 1) (fun i => [.string (upd d.t.N d.t.nn (s, l) i).1, upd d.ag d.t.nn u i]) ∧ (∀ i, i < d.t.nn + 1 → OL 1 3 wr (upd d.ag d.t.nn u i) (upd d.t.N d.t.nn (s, l) i).2.length (natC (upd d.t.N d.t.nn (s, l) i).2)) ∧
    (∃ b, u.ownBlock = some b ∧ W.heap.size ≤ b) ∧ Mv (fun b => b = g ∨ d.x.c0.ownBlock = some b) W wr ∧ (v.ownBlock = d.x.c0.ownBlock ∨ ∃ b, v.ownBlock = some b ∧ W.heap.size ≤ b)
theorem GW.mid {w w1 : World} {g : Nat} {d : Gd} (h : GW w g d) {s : ByteArray} {l : List Nat} {u v : Value} (hap : App d.x.c0 v w w1) (hol : OL 2 84 w1 v (d.t.nn + 1) (fun i => [.string (upd d.t.N d.t.nn (s, l) i).1, upd d.ag d.t.nn u i])) (hu : CP l w u w1) : MidN g d s l w (w1.setCell ⟨g, 0, none⟩ v) := by
  obtain ⟨k1, k2, k3⟩ := h.gt.pushNode h.nodes hap hol
  have hg : w1.heap[g]? = _ := (hap.other g h.cw.lt (h.nodes.neB h.cw.blk (by decide))).trans h.cw.blk
  refine ⟨v, u, k1, k2, fun i hi => ?_, hu.2, k3, hap.at_⟩
  by_cases e : i = d.t.nn
  · subst e; rw [upd_same, upd_same]
    exact hu.1.stay fun b hb => heap_setCell_other w1 ⟨g, 0, none⟩ b v (fun e' => hu.1.neB hg (by decide) (by rw [hb, e']))
  · rw [upd_other _ _ e, upd_other _ _ e]
    have ha := h.args i (by omega)
    exact ha.stay fun b hb => k3.other b (ha.lt hb) (by
      rintro (e' | e')
      · exact ha.neB h.cw.blk (by decide) (by rw [hb, e'])
      · exact ha.ne h.nodes (by decide) hb e')
/-- The graph after 'Node'. -/
theorem MidN.done {w W wr w' : World} {g : Nat} {d : Gd} {s : ByteArray} {l : List Nat} (h0 : GW W g d) {v u : Value}
    (h2 : OL 2 84 wr v (d.t.nn + 1) (fun i => [.string (upd d.t.N d.t.nn (s, l) i).1, upd d.ag d.t.nn u i])) (h3 : ∀ i, i < d.t.nn + 1 → OL 1 3 wr (upd d.ag d.t.nn u i) (upd d.t.N d.t.nn (s, l) i).2.length (natC (upd d.t.N d.t.nn (s, l) i).2))
    (h4 : ∃ b, u.ownBlock = some b ∧ W.heap.size ≤ b) (h1 : GT wr g { d with x := { d.x with c0 := v } }) (hW : W.heap.size ≤ wr.heap.size)
    (ha : AddEnd g { d with x := { d.x with c0 := v } } s l wr w') : ∃ d', Grown d s l d' ∧ GW w' g d' ∧ d'.x.c0 = v ∧ Mv (Fa g d) wr w' ∧ (d'.x.vP.ownBlock = d.x.vP.ownBlock ∨ ∃ b, d'.x.vP.ownBlock = some b ∧ wr.heap.size ≤ b) ∧ (d'.x.vW.ownBlock = d.x.vW.ownBlock ∨ ∃ b, d'.x.vW.ownBlock = some b ∧ wr.heap.size ≤ b) ∧ ∃ u b, d'.ag = upd d.ag d.t.nn u ∧ u.ownBlock = some b ∧ W.heap.size ≤ b := by
  obtain ⟨d', k1, k2, k3, k4, k5⟩ := ha
  have own : ∀ i, i < d.t.nn + 1 → ∀ b, (upd d.ag d.t.nn u i).ownBlock = some b → d.x.vW.ownBlock ≠ some b := by
    intro i hi b hb
    by_cases e : i = d.t.nn
    · subst e; rw [upd_same] at hb
      intro hc
      obtain ⟨b', e1, e2⟩ := h4
      rw [hb] at e1; injection e1 with e1
      have := h0.cw.whole.lt hc
      omega
    · rw [upd_other _ _ e] at hb; exact h0.ap1 i (by omega) b hb
  have nfa : ∀ {b : Nat}, Fa g d b → Fa g { d with x := { d.x with c0 := v } } b := fun h => h
  obtain ⟨b4, h41, h42⟩ := h4
  have h4 : ∃ b, u.ownBlock = some b ∧ W.heap.size ≤ b := ⟨b4, h41, h42⟩
  refine ⟨{ d' with ag := upd d.ag d.t.nn u }, k1.grown _, ?_, k1.x.1, k3, k4, k5, u, b4, rfl, h41, h42⟩
  refine { cw := k2.cw, c2 := k2.c2, c3 := k2.c3, nodes := ?_, args := ?_, heads := k2.heads, pairs := k2.pairs, mne := k2.mne, ap1 := ?_, ap2 := ?_ }
  · show OL 2 84 w' d'.x.c0 d'.t.nn (fun i => [.string (d'.t.N i).1, upd d.ag d.t.nn u i])
    rw [k1.nn, k1.N, k1.x.1]
    refine h2.stay fun b hb => k3.other b (h2.lt hb) ?_
    rintro (e | e | e | e | e)
    · exact h2.neB h1.cw.blk (by decide) (by rw [hb, e])
    · exact h2.ne h1.cw.parts (by decide) hb e
    · exact h2.ne h1.cw.whole (by decide) hb e
    · exact h2.neM h1.heads (by rw [hb, e])
    · exact h2.neM h1.pairs (by rw [hb, e])
  · intro i hi
    replace hi : i < d'.t.nn := hi
    rw [k1.nn] at hi
    show OL 1 3 w' (upd d.ag d.t.nn u i) (d'.t.N i).2.length (natC (d'.t.N i).2)
    rw [k1.N]
    have h3i := h3 i hi
    refine h3i.stay fun b hb => k3.other b (h3i.lt hb) ?_
    rintro (e | e | e | e | e)
    · exact h3i.neB h1.cw.blk (by decide) (by rw [hb, e])
    · exact h3i.ne h1.cw.parts (by decide) hb e
    · exact own i hi b hb e
    · exact h3i.neM h1.heads (by rw [hb, e])
    · exact h3i.neM h1.pairs (by rw [hb, e])
  · intro i hi b hb
    replace hi : i < d'.t.nn := hi
    rw [k1.nn] at hi
    show d'.x.vW.ownBlock ≠ some b
    rcases k5 with h9 | ⟨b', h9, h10⟩
    · rw [h9]; exact own i hi b hb
    · rw [h9]; intro e; injection e with e
      have := (h3 i hi).lt hb
      omega
  · intro i hi j hj b hb
    replace hi : i < d'.t.nn := hi
    rw [k1.nn] at hi
    replace hi : i < d.t.nn + 1 := hi
    replace hj : j < d'.s.ns := hj
    have hs : d'.s = d.s := k1.r.2.2.1
    have hy : d'.y = d.y := k1.r.2.1
    rw [hs] at hj
    show (d'.y.au j).ownBlock ≠ some b
    rw [hy]
    replace hb : (upd d.ag d.t.nn u i).ownBlock = some b := hb
    by_cases e : i = d.t.nn
    · subst e; rw [upd_same] at hb
      intro hc
      obtain ⟨b', e1, e2⟩ := h4
      rw [hb] at e1; injection e1 with e1
      have := (h0.cw.uses j hj).lt hc
      omega
    · rw [upd_other _ _ e] at hb; exact h0.ap2 i (by omega) j hj b hb
end Euf
end Go.Proofs.Ytmnpefiaelpkfac
