/- A copy of a list of parts within a region, terms that aren't held against the bound yet, and plain facts on sums by parts; no statement of the seat is proved here. -/
import Derived.Test.YteefniagebcagaaGreatDoorRefPJReckons
namespace Go.Proofs.YteefniagebcagaaGreatDoor
open Go.RowKit
set_option linter.unusedVariables false
theorem clone_below {g : Nat} {w w' : World} (hB : Blk 70 w g #[]) (k : AppG 3 70 g (.slice (some ⟨g,0,none⟩) 0 0) 0 [] w w') : Below w.heap.size w w' := by
 refine ⟨k.bel.os,k.bel.tape,k.bel.output,k.size,fun b hb => ?_⟩
 by_cases h : b = g
 ·
  subst h;rcases k.old.2 with ⟨h0,_⟩ | ⟨g',cap,cur,he,_,hg,_,_,hsz,_⟩
  · cases h0
  ·
   cases he
   have hc : cur = #[] := by apply Array.eq_empty_of_size_eq_zero;omega
   rw [hg,hc];exact (show w.heap[b]? = _ from hB).symm
 · exact k.other b hb (fun e => h (by simpa [Value.ownBlock] using e.symm))
theorem wp_append_clone {w : World} {o : Oper} {a : Act} {K : Act → World → Prop} {Q : Exit → Act → World → Prop} (s x : Operand)
  (ho : o.op = .call { callee := .builtin .append,args := #[s,x],argTypes := #[36,36] })
  (g : Nat) (hs : a.eval s = .slice (some ⟨g,0,none⟩) 0 0) (hB : Blk 70 w g #[]) (qs : List (Nat × Int)) (ao : Option Addr) (m c : Nat) (hx : a.eval x = .slice ao m c) (hq : QTS qs (.slice ao m c) w) (hn : m ≤ 9000)
  (h : ∀ v' w',QTS qs v' w' → Below w.heap.size w w' → K (a.put o.dst v') w') : Oper.wp Tryz.prog o a w K Q := by
 obtain ⟨ao',m',c',he,hm,hmc,hcm,hnone,hqa⟩ := hq;cases he
 have hown : LstG 3 70 g w (.slice (some ⟨g,0,none⟩) 0 0) 0 [] := ⟨rfl,Or.inr ⟨g,0,#[],rfl,Nat.le_refl _,hB,Nat.le_refl _,Nat.zero_le _,rfl,rfl,fun u hu => by simp at hu⟩⟩
 have hlt := hB.lt;obtain ⟨i,hi,hz0,hz1,hz2⟩ := info_parts Tryz.info_qpart;by_cases h0 : m = 0
 ·
  subst h0;have hq0 : qs = [] := List.eq_nil_of_length_eq_zero hm;subst hq0;have hres : QTS [] (.slice (some ⟨g,0,none⟩) 0 0) w := ⟨_,_,_,rfl,rfl,Nat.le_refl _,Nat.zero_le _,(fun k => by cases k),Or.inl rfl⟩
  cases ao with
  | none =>
   obtain rfl := hnone rfl;have hrun := run_append_owned_none (P := Tryz.prog) (w := w) g 36 o.type _ i 3 Tryz.und_qparts hi _ 0 [] hown.owns;unfold Oper.wp;simp [execOp,ho,resolve,invoke,builtin,hs,hx,hrun,Result.andThen];exact h _ _ hres (Below.refl _ _)
  | some ad =>
   refine wp_append_g s x 36 ho 3 g 70 (.agg #[.int .i64 0,.bool false,.slice none 0 0]) 40 Tryz.und_qparts Tryz.info_qpart (by decide) rfl (by decide) (nuP _ _ _ _ _) (by decide) _ 0 [] hs hown ad 0 c [] hx rfl (by simp) (by simp) (by simp) (Or.inr (by simp)) (by decide) (Nat.le_of_lt hlt) ?_
   intro v' w' k1 k2 k3;obtain ⟨ao2,cap2,hv,hc1,hc2,hc3,hqa2⟩ := k1.qarr (ElsQ.nil _) rfl;refine h v' w' ⟨ao2,0,cap2,hv,rfl,hc1,hc2,hc3,hqa2⟩ ?_;exact clone_below hB k2
 ·
  obtain ⟨g',o',ys,had,hxl,hE2,hcells,hone,hNU⟩ := hqa.cells (by omega)
  subst had;refine wp_append_g s x 36 ho 3 g 70 (.agg #[.int .i64 0,.bool false,.slice none 0 0]) 40 Tryz.und_qparts Tryz.info_qpart (by decide) rfl (by decide) (nuP _ _ _ _ _) (by decide) _ 0 [] hs hown ⟨g',o',none⟩ m c ys hx (by rw [← hm];exact hxl) hcells hone hNU (Or.inl (by omega)) (by omega) (Nat.le_of_lt hlt) ?_
  intro v' w' k1 k2 k3;rw [Nat.zero_add,List.nil_append] at k1;obtain ⟨ao2,cap2,hv,hc1,hc2,hc3,hqa2⟩ := k1.qarr (hE2.keep k2.keep) hm;exact h v' w' ⟨ao2,m,cap2,hv,hm,hc1,hc2,hc3,hqa2⟩ (clone_below hB k2)
def QRSR (w : World) (v : Value) (ps : List (Nat × Int)) (r : Int) : Prop := ∃ ao n cap x a m c, v = .agg #[.slice ao n cap, .bool x, .slice a m c] ∧ QTS ps (.slice ao n cap) w ∧ RNum w (.agg #[.bool x, .slice a m c]) r 900
theorem QRSR.shape {w : World} {v : Value} {ps : List (Nat × Int)} {r : Int} (h : QRSR w v ps r) : ∃ p n k x a m c,v = .agg #[.slice p n k,.bool x,.slice a m c] := by
 obtain ⟨p,n,k,x,a,m,c,rfl,_⟩ := h;exact ⟨p,n,k,x,a,m,c,rfl⟩
theorem QRSR.keepQ {w w' : World} {v : Value} {ps : List (Nat × Int)} {r : Int} (h : QRSR w v ps r) (hk : KeepQ w w') : QRSR w' v ps r := by
 obtain ⟨p,n,k,x,a,m,c,rfl,h1,h2⟩ := h;exact ⟨p,n,k,x,a,m,c,rfl,mq_qts _ _ _ hk h1,h2.keepQ hk⟩
def QRS (ps : List (Nat × Int)) (r : Int) : Value → World → Prop := fun u w => QRSR w u ps r
theorem mq_qrs {ps : List (Nat × Int)} {r : Int} : MonoQ (QRS ps r) := fun _ _ _ hk h => QRSR.keepQ h hk
theorem QRSR.term {w : World} {v : Value} {ps : List (Nat × Int)} {r : Int} (h : QRSR w v ps r) (hf : Fine ps) (hr : r.natAbs < lim) : RTermR w v ps r := by
 obtain ⟨p,n,k,x,a,m,c,rfl,⟨ao,n',cap,he,h1,h2,h3,h4,h5⟩,h6⟩ := h;cases he
 exact ⟨p,n,k,x,a,m,c,rfl,⟨h1,h2,h3,h4,h5,h6.short hr,hf,hr⟩⟩
theorem QRSR.parts {w : World} {p : Option Addr} {n k : Nat} {x : Bool} {a : Option Addr} {m c : Nat} {ps : List (Nat × Int)} {r : Int} (h : QRSR w (.agg #[.slice p n k,.bool x,.slice a m c]) ps r) : QTS ps (.slice p n k) w ∧ RNum w (.agg #[.bool x,.slice a m c]) r 900 := by
 obtain ⟨p',n',k',x',a',m',c',he,h1,h2⟩ := h;injection he with he;simp at he;obtain ⟨⟨rfl,rfl,rfl⟩,rfl,rfl,rfl,rfl⟩ := he;exact ⟨h1,h2⟩
theorem rn_eq : ∀ {a b : List (Nat × Int)},Rise a → (∀ p ∈ a,p.2 ≠ 0) → Rise b → (∀ p ∈ b,p.2 ≠ 0) → (∀ v,coef a v = coef b v) → a = b
 | [],[],_,_,_,_,_ => rfl
 | [],q :: b,_,_,hb,nb,h => by
  have := h q.1;rw [coef_mem hb (List.mem_cons_self ..)] at this;exact absurd this.symm (nb q (List.mem_cons_self ..))
 | p :: a,[],ha,na,_,_,h => by
  have := h p.1;rw [coef_mem ha (List.mem_cons_self ..)] at this;exact absurd this (na p (List.mem_cons_self ..))
 | p :: a,q :: b,ha,na,hb,nb,h => by
  have n1 := na p (List.mem_cons_self ..);have n2 := nb q (List.mem_cons_self ..);have e1 := coef_mem ha (List.mem_cons_self (a := p) (l := a));have e2 := coef_mem hb (List.mem_cons_self (a := q) (l := b));have hpq : p.1 = q.1 := by
   rcases Nat.lt_trichotomy p.1 q.1 with k | k | k
   ·
    have h1 := h p.1;rw [e1,coef,if_neg (by omega),coef_low (fun x hx => by have := hb.head x hx;omega)] at h1
    exact absurd h1 n1
   · exact k
   ·
    have h1 := h q.1;rw [e2,coef,if_neg (by omega),coef_low (fun x hx => by have := ha.head x hx;omega)] at h1
    exact absurd h1.symm n2
  have hc : p.2 = q.2 := by have h1 := h p.1;rw [e1,hpq,e2] at h1;exact h1
  have hrest : ∀ v,coef a v = coef b v := by
   intro v;by_cases hv : p.1 = v
   · subst hv;rw [coef_low (fun x hx => ha.head x hx),coef_low (fun x hx => by rw [hpq];exact hb.head x hx)]
   ·
    have h1 := h v;rw [coef,if_neg hv,coef,if_neg (by rw [← hpq];exact hv)] at h1
    exact h1
  rw [rn_eq ha.tail (fun x hx => na x (List.mem_cons_of_mem _ hx)) hb.tail (fun x hx => nb x (List.mem_cons_of_mem _ hx)) hrest,Prod.ext hpq hc]
theorem one_rise (v : Nat) (z : Int) : Rise (one v z) := by unfold one;split <;> simp [Rise]
theorem one_nz (v : Nat) (z : Int) : ∀ p ∈ one v z,p.2 ≠ 0 := by
 intro p hp;unfold one at hp;split at hp
 · cases hp
 · rw [List.mem_singleton.1 hp];assumption
theorem one_coef (v : Nat) (z : Int) (u : Nat) : coef (one v z) u = if v = u then z else 0 := by
 unfold one;by_cases h : z = 0
 · rw [if_pos h];split <;> simp [coef,h]
 · rw [if_neg h,coef];rfl
theorem coef_end_ne {l : List (Nat × Int)} {u v : Nat} {z : Int} (h : ¬ u = v) : coef (l ++ [(u,z)]) v = coef l v := by
 induction l with
 | nil => show coef [(u,z)] v = 0;rw [coef,if_neg h];rfl
 | cons p r ih => rw [List.cons_append,coef,coef,ih]
theorem coef_end_out {l : List (Nat × Int)} {v : Nat} {z : Int} (h : ∀ q ∈ l,q.1 ≠ v) : coef (l ++ [(v,z)]) v = z := by
 rw [coef_app9 _ _ _ h,coef,if_pos rfl]
section
variable {a b : List (Nat × Int)} {k pv : Nat} {pz : Int}
theorem Fine.take (h : Fine b) (k : Nat) : Fine (b.take k) := ⟨List.Pairwise.sublist (List.take_sublist k b) h.1, fun p hp => h.2 p (List.mem_of_mem_take hp)⟩
theorem acc_rise (ha : Fine a) (hb : Fine b) (k : Nat) : Rise (addP a (b.take k)) := addP_rise _ _ ha.1 (hb.take k).1
theorem acc_nz (ha : Fine a) (hb : Fine b) (k : Nat) : ∀ p ∈ addP a (b.take k), p.2 ≠ 0 := addP_nz _ _ (fun p hp => (ha.2 p hp).1) (fun p hp => ((hb.take k).2 p hp).1)
theorem acc_len (ha : Fine a) (hb : Fine b) (k : Nat) : (addP a (b.take k)).length ≤ 4096 := by
 rcases rise_len _ 0 (acc_rise ha hb k) (fun p hp => ⟨Nat.zero_le _,by
  rcases addP_mem _ _ p hp with ⟨q,h1,h2⟩ | ⟨q,h1,h2⟩
  · rw [← h2];exact (ha.2 q h1).2.2
  · rw [← h2];exact ((hb.take k).2 q h1).2.2⟩) with e | e
 · omega
 · rw [e];simp
theorem take_ne (hb : Fine b) (hk : k < b.length) (hp : b.getD k (0,0) = (pv,pz)) : ∀ q ∈ b.take k,q.1 ≠ pv := by
 have hs := split_at hk hp;have h2 := hb.1;unfold Rise at h2;rw [hs,List.pairwise_append] at h2;intro q hq;have := h2.2.2 q hq _ (List.mem_cons_self ..);simp only [] at this;omega
theorem take_coef (hb : Fine b) (hk : k < b.length) (hp : b.getD k (0,0) = (pv,pz)) : coef (b.take k) pv = 0 := by
 have hs := split_at hk hp;have h2 := hb.1;unfold Rise at h2;rw [hs,List.pairwise_append] at h2;exact coef_out fun q hq => by have := h2.2.2 q hq _ (List.mem_cons_self ..);simp only [] at this;omega
theorem acc_coef (ha : Fine a) (hb : Fine b) (hk : k < b.length) (hp : b.getD k (0,0) = (pv,pz)) : coef (addP a (b.take k)) pv = coef a pv := by
 rw [addP_coef _ _ ha.1 (hb.take k).1,take_coef hb hk hp,Int.add_zero]
theorem acc_step (ha : Fine a) (hb : Fine b) (hk : k < b.length) (hp : b.getD k (0,0) = (pv,pz)) : addP (addP a (b.take k)) (one pv pz) = addP a (b.take (k + 1)) := by
 refine rn_eq (addP_rise _ _ (acc_rise ha hb k) (one_rise _ _)) (addP_nz _ _ (acc_nz ha hb k) (one_nz _ _)) (acc_rise ha hb (k + 1)) (acc_nz ha hb (k + 1)) (fun v => ?_)
 rw [addP_coef _ _ (acc_rise ha hb k) (one_rise _ _),addP_coef _ _ ha.1 (hb.take k).1,addP_coef _ _ ha.1 (hb.take (k + 1)).1,one_coef,take_one hk hp];have hc := take_coef hb hk hp;by_cases hv : pv = v
 · subst hv;rw [if_pos rfl,hc,coef_end_out (fun q hq => take_ne hb hk hp q hq),Int.add_zero]
 · rw [if_neg hv,coef_end_ne hv,Int.add_zero]
end
def fitK (a b : List (Nat × Int)) (r s : Int) (k : Nat) : Prop := (r + s).natAbs < lim ∧ ∀ p ∈ b.take k, (coef a p.1 + p.2).natAbs < lim
theorem fitK_step {a b : List (Nat × Int)} {r s : Int} {k pv : Nat} {pz : Int} (hk : k < b.length) (hp : b.getD k (0,0) = (pv,pz)) : fitK a b r s (k + 1) ↔ fitK a b r s k ∧ (coef a pv + pz).natAbs < lim := by
 unfold fitK;rw [take_one hk hp];constructor
 · rintro ⟨h1,h2⟩;exact ⟨⟨h1,fun p hq => h2 p (List.mem_append_left _ hq)⟩,h2 (pv,pz) (by simp)⟩
 ·
  rintro ⟨⟨h1,h2⟩,h3⟩;refine ⟨h1,fun p hq => ?_⟩
  rcases List.mem_append.1 hq with h | h
  · exact h2 p h
  · rw [List.mem_singleton.1 h];exact h3
theorem fitK_end {a b : List (Nat × Int)} {r s : Int} (ha : Fine a) (hb : Fine b) : fitK a b r s b.length ↔ tAddOk a b r s := by
 unfold fitK tAddOk;rw [List.take_of_length_le (Nat.le_refl _)];refine and_congr Iff.rfl ⟨fun h v => ?_,fun h p hp => ?_⟩
 ·
  by_cases hv : coef b v = 0
  · rw [hv,Int.add_zero];exact fine_coef ha v
  · obtain ⟨p,h1,h2,h3⟩ := coef_ne hv;rw [← h3,← h2];exact h p h1
 · have := h p.1;rw [coef_mem hb.1 hp] at this;exact this
end Go.Proofs.YteefniagebcagaaGreatDoor
