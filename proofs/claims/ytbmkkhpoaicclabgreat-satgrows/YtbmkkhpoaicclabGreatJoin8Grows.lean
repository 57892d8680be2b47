/- Joined: SatB, SatV, SatJ, SatK: words and contracts; no statement of the seat is proved here. -/
import Derived.Test.YtbmkkhpoaicclabGreatJoin7Grows
set_option linter.unusedVariables false
namespace Go.Proofs.YtbmkkhpoaicclabGreat
namespace Sat
structure BI (nv:Nat) (T S:List Nat) (F:Nat→Fc) (nc:Nat) (C:Nat→Cl) (clash:Nat) (M:Nat→Int) (E out:List Nat) (from_:Nat) (pre:List Nat) (at_:Nat):Prop where
  va:∀v,M v=0∨M v=1∨M v=2
  on:∀v,M v≠0→∃i,∃hi:i<T.length,T[i] / 2=v∧0<lvl S i∧(M v=1→i<at_)∧(M v=2→at_≤i∧lvl S i=S.length)
  re:∀v,M v≠0→∀keep,(∀u,M u=2→u ∉ keep)→Rc F C clash keep v
  se:∀v,M v=2→∃r:Nat,(F v).reason=(r:Int)∧∀m∈(C r).lits,m / 2≠v→(r=from_∧m ∉ pre)∨(F (m / 2)).level=0∨M (m / 2)≠0
  cl:∀m∈(C clash).lits,(clash=from_∧m ∉ pre)∨(F (m / 2)).level=0∨M (m / 2)≠0
  ou:∀m∈out,ng m∈T∧M (m / 2)=1∧(F (m / 2)).level≠S.length
  ov:∀v,M v=1→(F v).level≠S.length→∃m∈out,m / 2=v
  nd:(out.map (· / 2)).Nodup
  le:∀v,v∈E↔M v=1∧(F v).level=S.length
  en:E.Nodup
  fr:from_=clash∨∃u,M u=2∧(F u).reason=(from_:Int)
  lt:from_<nc
  fa:∀m∈(C from_).lits,ng m∈T.take at_∨M (m / 2)=2
  al:at_≤T.length
section
variable {nv:Nat} {V:Nat→Int} {T S:List Nat} {F:Nat→Fc} {nc:Nat} {C:Nat→Cl} {clash:Nat} {M:Nat→Int} {E out:List Nat} {from_:Nat} {pre:List Nat} {at_:Nat}
theorem BI.start (hlt:clash<nc) (hc:∀m∈(C clash).lits,ng m∈T) (hM:∀v,M v=0):BI nv T S F nc C clash M [] [] clash [] T.length where
 va:=fun v=>Or.inl (hM v)
 on:=fun v h=>absurd (hM v) h
 re:=fun v h=>absurd (hM v) h
 se:=fun v h=>by rw[hM v]at h;omega
 cl:=fun m hm=>Or.inl ⟨rfl,by simp⟩
 ou:=fun m hm=>by cases hm
 ov:=fun v h=>by rw[hM v]at h;omega
 nd:=by simp
 le:=fun v=>by simp[hM v]
 en:=by simp
 fr:=Or.inl rfl
 lt:=hlt
 fa:=fun m hm=>Or.inl (by rw[List.take_length];exact hc m hm)
 al:=Nat.le_refl _
theorem BI.skip (b:BI nv T S F nc C clash M E out from_ pre at_) {l:Nat} (h:M (l / 2)≠0∨(F (l / 2)).level=0):BI nv T S F nc C clash M E out from_ (pre++[l]) at_:=by
 refine { b with se:=fun v hv=>?_,cl:=fun m hm=>?_ }
 ·
  obtain⟨r,h1,h2⟩:=b.se v hv;refine⟨r,h1,fun m hm hne=>?_⟩
  by_cases e:m=l
  · subst e;exact Or.inr h.symm
  ·
   rcases h2 m hm hne with⟨h3,h4⟩|h3
   · exact Or.inl ⟨h3,by simp[h4,e]⟩
   · exact Or.inr h3
 ·
  by_cases e:m=l
  · subst e;exact Or.inr h.symm
  ·
   rcases b.cl m hm with⟨h3,h4⟩|h3
   · exact Or.inl ⟨h3,by simp[h4,e]⟩
   · exact Or.inr h3
theorem BI.mark (h:TI nv V T S F nc C) (b:BI nv T S F nc C clash M E out from_ pre at_) {l:Nat} (hl:l∈(C from_).lits) (h0:M (l / 2)=0) (hz:(F (l / 2)).level≠0) :
  BI nv T S F nc C clash (upd M (l / 2) 1) (if (F (l / 2)).level=S.length then E++[l / 2] else E) (if (F (l / 2)).level=S.length then out else out++[l]) from_ (pre++[l]) at_:=by
 have hmt:ng l∈T.take at_:=by
  rcases b.fa l hl with h9|h9
  · exact h9
  · rw[h0]at h9;omega
 obtain⟨i,hi,ei⟩:=List.mem_iff_getElem.1 (List.mem_of_mem_take hmt);have ev:T[i] / 2=l / 2:=by rw[ei,ng_var]
 have hia:i<at_:=lt_of_take h.nd hi ei hmt;have hlv:=(h.pl i hi).2;rw[ev]at hlv;have M1:∀u,upd M (l / 2) 1 u=2↔M u=2:=fun u=>by
  by_cases e:u=l / 2
  · subst e;rw[upd_same,h0];constructor<;>omega
  · rw[upd_other _ _ e]
 have M0:∀u,M u≠0→upd M (l / 2) 1 u≠0:=fun u hu=>by
  by_cases e:u=l / 2
  · subst e;rw[upd_same];omega
  · rw[upd_other _ _ e];exact hu
 have mk:upd M (l / 2) 1 (l / 2)=1:=upd_same _ _ _;refine { va:=?_,on:=?_,re:=?_,se:=?_,cl:=?_,ou:=?_,ov:=?_,nd:=?_,le:=?_,en:=?_,fr:=?_,lt:=b.lt,fa:=?_,al:=b.al }
 ·
  intro v;by_cases e:v=l / 2
  · subst e;rw[upd_same];simp
  · rw[upd_other _ _ e];exact b.va v
 ·
  intro v hv;by_cases e:v=l / 2
  · subst e;exact⟨i,hi,ev,by omega,fun _=>hia,fun h9=>by rw[mk]at h9;omega⟩
  · rw[upd_other _ _ e]at hv ⊢;exact b.on v hv
 ·
  intro v hv keep hk;have hk':∀u,M u=2→u ∉ keep:=fun u hu=>hk u ((M1 u).2 hu)
  by_cases e:v=l / 2
  ·
   subst e;rcases b.fr with e1|⟨u,hu1,hu2⟩
   · subst e1;exact .base hl
   ·
    have hon:=b.on u (by omega)
    obtain⟨j,hj,ej,h5,-,-⟩:=hon;have hlu:=(h.pl j hj).2;rw[ej]at hlu;exact .step (b.re u (by omega) keep hk') (hk' u hu1) (by omega) hu2 hl
  · rw[upd_other _ _ e]at hv;exact b.re v hv keep hk'
 ·
  intro v hv;obtain⟨r,h1,h2⟩:=b.se v ((M1 v).1 hv);refine⟨r,h1,fun m hm hne=>?_⟩
  by_cases e:m=l
  · subst e;exact Or.inr (Or.inr (by rw[mk];omega))
  ·
   rcases h2 m hm hne with⟨h3,h4⟩|h3|h3
   · exact Or.inl ⟨h3,by simp[h4,e]⟩
   · exact Or.inr (Or.inl h3)
   · exact Or.inr (Or.inr (M0 _ h3))
 ·
  intro m hm;by_cases e:m=l
  · subst e;exact Or.inr (Or.inr (by rw[mk];omega))
  ·
   rcases b.cl m hm with⟨h3,h4⟩|h3|h3
   · exact Or.inl ⟨h3,by simp[h4,e]⟩
   · exact Or.inr (Or.inl h3)
   · exact Or.inr (Or.inr (M0 _ h3))
 ·
  intro m hm;have old:m∈out→ng m∈T∧upd M (l / 2) 1 (m / 2)=1∧(F (m / 2)).level≠S.length:=fun hm=>by
   obtain⟨h1,h2,h3⟩:=b.ou m hm;refine⟨h1,?_,h3⟩;rw[upd_other _ _ (fun e=>by rw[e,h0]at h2;omega)];exact h2
  split at hm
  · exact old hm
  ·
   rename_i hne
   rcases List.mem_append.1 hm with hm|hm
   · exact old hm
   · simp at hm;subst hm;exact⟨List.mem_of_mem_take hmt,mk,hne⟩
 ·
  intro v hv hne;by_cases e:v=l / 2
  · subst e;rw[if_neg hne];exact⟨l,by simp,rfl⟩
  ·
   rw[upd_other _ _ e]at hv;obtain⟨m,hm,em⟩:=b.ov v hv hne;refine⟨m,?_,em⟩;split
   · exact hm
   · exact List.mem_append_left _ hm
 ·
  split
  · exact b.nd
  ·
   rw[List.map_append,List.nodup_append];refine⟨b.nd,by simp,?_⟩
   intro a ha c hc;simp at hc;subst hc;obtain⟨m,hm,rfl⟩:=List.mem_map.1 ha;intro e;have:=(b.ou m hm).2.1;rw[e,h0]at this;omega
 ·
  intro v;by_cases e:v=l / 2
  ·
   subst e;rw[mk];split
   · rename_i h9;simp[h9]
   ·
    rename_i h9
    constructor
    · intro hv;have:=((b.le _).1 hv).1;omega
    · rintro⟨-,h8⟩;exact absurd h8 h9
  ·
   rw[upd_other _ _ e,← b.le v];split
   · simp[e]
   · rfl
 ·
  split
  ·
   rw[List.nodup_append];refine⟨b.en,by simp,?_⟩
   intro a ha c hc;simp at hc;subst hc;rintro rfl;have:=((b.le _).1 ha).1;omega
  · exact b.en
 ·
  rcases b.fr with e1|⟨u,hu1,hu2⟩
  · exact Or.inl e1
  · exact Or.inr ⟨u,(M1 u).2 hu1,hu2⟩
 ·
  intro m hm;rcases b.fa m hm with h9|h9
  · exact Or.inl h9
  · exact Or.inr ((M1 _).2 h9)
theorem BI.top (h:TI nv V T S F nc C) (b:BI nv T S F nc C clash M E out from_ pre at_) {i:Nat} (hi:i<T.length) (hia:i<at_) (hm:M (T[i] / 2)≠0) (hmax:∀j (hj:j<T.length),i<j→j<at_→M (T[j] / 2)=0) (hE:E≠[]):M (T[i] / 2)=1∧T[i] / 2∈E:=by
 have m1:M (T[i] / 2)=1:=by
  obtain⟨j,hj,ej,-,h1,h2⟩:=b.on _ hm;have:=nd_inj h.nd hj hi ej;subst this;rcases b.va (T[j] / 2) with h9|h9|h9
  · exact absurd h9 hm
  · exact h9
  · have:=(h2 h9).1;omega
 refine⟨m1,(b.le _).2 ⟨m1,?_⟩⟩;obtain⟨v,hv⟩:=List.exists_mem_of_ne_nil _ hE;obtain⟨v1,v2⟩:=(b.le v).1 hv;obtain⟨j,hj,ej,-,h1,-⟩:=b.on v (by omega)
 have hja:=h1 v1;have hji:j≤i:=by
  rcases Nat.lt_or_ge i j with h9|h9
  · have:=hmax j hj h9 hja;rw[ej]at this;omega
  · exact h9
 have l1:=(h.pl i hi).2;have l2:=(h.pl j hj).2;rw[ej,v2]at l2;have:=lvl_mono S hji;have:=lvl_le S i;omega
theorem BI.next (h:TI nv V T S F nc C) (b:BI nv T S F nc C clash M E out from_ (C from_).lits at_) {i:Nat} (hi:i<T.length) (hia:i<at_) (hm:M (T[i] / 2)=1) (hE:T[i] / 2∈E) (hmax:∀j (hj:j<T.length),i<j→j<at_→M (T[j] / 2)=0) (h2:1<E.length) :
  ∃r,r<nc∧(F (T[i] / 2)).reason=(r:Int)∧BI nv T S F nc C clash (upd M (T[i] / 2) 2) (E.erase (T[i] / 2)) out r [] i:=by
 -- another one of the latest level lies ahead of it,so it was not chosen
 obtain⟨v,hv,hne⟩:∃v∈E,v≠T[i] / 2:=by
  have h9:(E.erase (T[i] / 2)).length≠0:=by rw[List.length_erase_of_mem hE];omega
  obtain⟨v,hv⟩:=List.exists_mem_of_ne_nil (E.erase (T[i] / 2)) (fun e=>h9 (by rw[e];rfl))
  exact⟨v,List.mem_of_mem_erase hv,fun e=>by rw[e]at hv;exact absurd hv (b.en.not_mem_erase)⟩
 obtain⟨v1,v2⟩:=(b.le v).1 hv;obtain⟨j,hj,ej,-,hja,-⟩:=b.on v (by omega)
 have hja':=hja v1;have hji:j<i:=by
  rcases Nat.lt_trichotomy i j with h9|h9|h9
  · have:=hmax j hj h9 hja';rw[ej]at this;omega
  · subst h9;exact absurd ej.symm hne
  · exact h9
 have l2:=(h.pl j hj).2;rw[ej,v2]at l2;have his:i ∉ S:=fun hs=>by
  have h9:lvl S j=S.length:=by omega
  have:=(lvl_full_iff.1 h9) i hs;omega
 obtain⟨r,hr,e1,hin,hot⟩:=h.re i hi his;have lE:=((b.le _).1 hE).2;have li:=(h.pl i hi).2;rw[lE]at li;refine⟨r,hr,e1,?_⟩;have M1:∀u,u≠T[i] / 2→upd M (T[i] / 2) 2 u=M u:=fun u hu=>upd_other _ _ hu
 have M2:upd M (T[i] / 2) 2 (T[i] / 2)=2:=upd_same _ _ _;have M0:∀u,M u≠0→upd M (T[i] / 2) 2 u≠0:=fun u hu=>by
  by_cases e:u=T[i] / 2
  · rw[e,M2];omega
  · rw[M1 u e];exact hu
 refine { va:=?_,on:=?_,re:=?_,se:=?_,cl:=?_,ou:=?_,ov:=?_,nd:=b.nd,le:=?_,en:=b.en.erase _,fr:=Or.inr ⟨T[i] / 2,M2,e1⟩,lt:=hr,fa:=?_,al:=by omega }
 ·
  intro u;by_cases e:u=T[i] / 2
  · rw[e,M2];simp
  · rw[M1 u e];exact b.va u
 ·
  intro u hu;by_cases e:u=T[i] / 2
  ·
   subst e;refine⟨i,hi,rfl,?_,fun h9=>by rw[M2]at h9;omega,fun _=>⟨Nat.le_refl _,by omega⟩⟩
   obtain⟨k,hk,ek,h5,-⟩:=b.on _ (show M (T[i] / 2)≠0 by omega)
   have:=nd_inj h.nd hk hi ek;subst this;exact h5
  ·
   rw[M1 u e]at hu ⊢;obtain⟨k,hk,ek,h5,h6,h7⟩:=b.on u hu;refine⟨k,hk,ek,h5,fun h9=>?_,fun h9=>⟨by have:=(h7 h9).1;omega,(h7 h9).2⟩⟩
   rcases Nat.lt_trichotomy i k with h8|h8|h8
   · have:=hmax k hk h8 (h6 h9);rw[ek]at this;omega
   · subst h8;exact absurd ek.symm e
   · exact h8
 ·
  intro u hu keep hk;refine b.re u ?_ keep (fun x hx=>hk x ?_)
  ·
   by_cases e:u=T[i] / 2
   · rw[e];omega
   · rw[M1 u e]at hu;exact hu
  ·
   by_cases e:x=T[i] / 2
   · rw[e]at hx;omega
   · rw[M1 x e];exact hx
 ·
  intro u hu;by_cases e:u=T[i] / 2
  · subst e;exact⟨r,e1,fun m hm hne=>Or.inl ⟨rfl,by simp⟩⟩
  ·
   rw[M1 u e]at hu;obtain⟨r',h3,h4⟩:=b.se u hu;refine⟨r',h3,fun m hm hne=>?_⟩
   rcases h4 m hm hne with⟨h5,h6⟩|h5|h5
   · subst h5;exact absurd hm h6
   · exact Or.inr (Or.inl h5)
   · exact Or.inr (Or.inr (M0 _ h5))
 ·
  intro m hm;rcases b.cl m hm with⟨h5,h6⟩|h5|h5
  · subst h5;exact absurd hm h6
  · exact Or.inr (Or.inl h5)
  · exact Or.inr (Or.inr (M0 _ h5))
 · intro m hm;obtain⟨h5,h6,h7⟩:=b.ou m hm;exact⟨h5,by rw[M1 _ (fun e=>h7 (by rw[e];exact lE))];exact h6,h7⟩
 ·
  intro u hu hne;have:u≠T[i] / 2:=fun e=>by rw[e,M2]at hu;omega
  rw[M1 u this]at hu;exact b.ov u hu hne
 ·
  intro u;by_cases e:u=T[i] / 2
  ·
   subst e;rw[M2];constructor
   · intro h9;exact absurd h9 b.en.not_mem_erase
   · intro h9;omega
  · rw[M1 u e,← b.le u];exact List.mem_erase_of_ne e
 ·
  intro m hm;by_cases e:m=T[i]
  · exact Or.inr (by rw[e];exact M2)
  · exact Or.inl (hot m hm e)
end
end Sat
namespace Sat
structure VS (nv nc:Nat) (A:Nat→Prop) (T S:List Nat) (C:Nat→Cl) (W:Nat→List (Nat × Nat)) (h gone:Nat) (K R:List (Nat × Nat)):Prop where
  wi:WI nv nc C (upd W gone (K++R))
  d1:∀l,l<2*(nv+1)→l≠gone→∀p∈W l,Done T S C h l p
  d2:∀p∈K,Done T S C h gone p
  he:∀c,A c→Held T S C (upd W gone (K++R)) c
  fr:∀c,A c→∀s∈S,Free T s (C c).lits
section
variable {nv nc:Nat} {A:Nat→Prop} {T S:List Nat} {C:Nat→Cl} {W:Nat→List (Nat × Nat)} {h gone:Nat} {K R:List (Nat × Nat)}
theorem Held.push {c x:Nat} (hh:Held T S C W c):Held (T++[x]) S C W c:=by
 rcases hh with hh|⟨m,h1,h2⟩
 · exact Or.inl hh
 · exact Or.inr ⟨m,h1,h2.push⟩
theorem Free.push {s x:Nat} {l:List Nat} (hf:Free T s l) (hs:s≤T.length):Free (T++[x]) s l:=by
 unfold Free at hf ⊢;rw[List.take_append_of_le_length hs];exact hf
theorem VS.push (v:VS nv nc A T S C W h gone K R) {x:Nat} (hh:h≤T.length) (hS:∀s∈S,s≤T.length):VS nv nc A (T++[x]) S C W h gone K R :=
  { wi:=v.wi,d1:=fun l hl hg p hp=>(v.d1 l hl hg p hp).push hh,d2:=fun p hp=>(v.d2 p hp).push hh,he:=fun c hc=>(v.he c hc).push,fr:=fun c hc s hs=>(v.fr c hc s hs).push (hS s hs) }
theorem Held.lists {W':Nat→List (Nat × Nat)} {c:Nat} (hh:Held T S C W c) (hW:∀l,c∈(W l).map Prod.fst→c∈(W' l).map Prod.fst):Held T S C W' c:=by
 rcases hh with⟨a,b,e,h1,h2⟩|hh
 · exact Or.inl ⟨a,b,e,hW a h1,hW b h2⟩
 · exact Or.inr hh
theorem VS.keep {p:Nat × Nat} {x:Nat} (v:VS nv nc A T S C W h gone K (p::R)) (hg:gone<2*(nv+1)) (hx:x∈(C p.1).lits) (hd:Done T S C h gone (p.1,x)):VS nv nc A T S C W h gone (K++[(p.1,x)]) R:=by
 have ms:∀l,((upd W gone (K++[(p.1,x)]++R)) l).map Prod.fst=((upd W gone (K++p::R)) l).map Prod.fst:=by
  intro l;by_cases e:l=gone
  · subst e;simp[upd_same]
  · rw[upd_other _ _ e,upd_other _ _ e]
 refine { wi:=⟨?_,?_⟩,d1:=v.d1,d2:=?_,he:=?_,fr:=v.fr }
 ·
  intro l hl q hq;by_cases e:l=gone
  ·
   subst e;rw[upd_same]at hq;simp only[List.append_assoc,List.mem_append,List.mem_cons,List.singleton_append]at hq;have key:=fun q hq=>v.wi.w1 l hl q (by rw[upd_same];exact hq)
   rcases hq with hq|rfl|hq
   · exact key q (by simp[hq])
   ·
    obtain⟨h1,h2,h3⟩:=key p (by simp)
    exact⟨h1,h2,hx⟩
   · exact key q (by simp[hq])
  · rw[upd_other _ _ e]at hq;exact v.wi.w1 l hl q (by rw[upd_other _ _ e];exact hq)
 · intro l hl;rw[ms];exact v.wi.w2 l hl
 ·
  intro q hq;rcases List.mem_append.1 hq with hq|hq
  · exact v.d2 q hq
  · simp at hq;subst hq;exact hd
 · intro c hc;exact (v.he c hc).lists (fun l hl=>by rw[ms];exact hl)
theorem Held.perm {c k:Nat} {L:List Nat} (hp:L.Perm (C k).lits) (hh:Held T S C W c) (h2:c=k→∀a b,Two (C k).lits a b→k∈(W a).map Prod.fst→k∈(W b).map Prod.fst→∃a b,Two L a b∧k∈(W a).map Prod.fst∧k∈(W b).map Prod.fst) :
  Held T S (upd C k { C k with lits:=L }) W c:=by
 by_cases e:c=k
 ·
  subst e;rcases hh with⟨a,b,e1,h3,h4⟩|⟨m,h3,h4⟩
  · left;rw[upd_same];exact h2 rfl a b e1 h3 h4
  · right;rw[upd_same];exact⟨m,hp.mem_iff.2 h3,h4⟩
 · unfold Held;rw[upd_other _ _ e];exact hh
theorem Done.perm {k l:Nat} {L:List Nat} {p:Nat × Nat} (hp:L.Perm (C k).lits) (hd:Done T S C h l p):Done T S (upd C k { C k with lits:=L }) h l p :=
  hd.turn (fun o ho=>by
    by_cases e:p.1=k
    · rw[e,upd_same];rw[e]at ho;exact hp.mem_iff.2 ho
    · rw[upd_other _ _ e];exact ho)
theorem Free.perm {k c s:Nat} {L:List Nat} (hp:L.Perm (C k).lits) (hf:Free T s (C c).lits):Free T s (upd C k { C k with lits:=L } c).lits:=by
 by_cases e:c=k
 · subst e;rw[upd_same];exact hf.turn (fun m=>hp.mem_iff.symm)
 · rw[upd_other _ _ e];exact hf
theorem VS.swap (v:VS nv nc A T S C W h gone K R) {k a b:Nat} {r:List Nat} (e:(C k).lits=a::b::r):VS nv nc A T S (upd C k { C k with lits:=b::a::r }) W h gone K R:=by
 have hp:(b::a::r).Perm (C k).lits:=by rw[e];exact List.Perm.swap a b r
 refine { wi:=⟨?_,v.wi.w2⟩,d1:=fun l hl hg p hp'=>(v.d1 l hl hg p hp').perm hp,d2:=fun p hp'=>(v.d2 p hp').perm hp,he:=?_,fr:=fun c hc s hs=>(v.fr c hc s hs).perm hp }
 ·
  intro l hl p hp';obtain⟨h1,⟨x,y,⟨r',e1⟩,h2⟩,h3⟩:=v.wi.w1 l hl p hp';by_cases ek:p.1=k
  · rw[ek]at e1 h3 h1;rw[ek,upd_same];rw[e]at e1;injection e1 with e1 e2;injection e2 with e2 e3;exact⟨h1,⟨b,a,⟨r,rfl⟩,by rw[e1,e2];exact h2.symm⟩,hp.mem_iff.2 h3⟩
  · rw[upd_other _ _ ek];exact⟨h1,⟨x,y,⟨r',e1⟩,h2⟩,h3⟩
 · intro c hc;refine (v.he c hc).perm hp ?_;rintro - x y ⟨r',e1⟩ h1 h2;rw[e]at e1;injection e1 with e1 e2;injection e2 with e2 e3;exact⟨b,a,⟨r,rfl⟩,by rw[e2];exact h2,by rw[e1];exact h1⟩
theorem perm_move (x g:Nat) (r:List Nat) (i:Nat) (hi:i<r.length):(x::r[i]::r.set i g).Perm (x::g::r):=by
 refine List.Perm.cons x ?_;induction r generalizing i with
 | nil=>simp at hi
 | cons y r ih =>
  cases i with
  | zero=>simp only[List.getElem_cons_zero,List.set_cons_zero];exact List.Perm.swap g y r
  | succ i =>
   simp only[List.getElem_cons_succ,List.set_cons_succ];exact (List.Perm.swap y _ _).trans ((List.Perm.cons y (ih i (by simpa using hi))).trans (List.Perm.swap g y r))
theorem VS.move {p:Nat × Nat} {x i:Nat} {r:List Nat} (v:VS nv nc A T S C W h gone K (p::R)) (ci:CI nv nc C) (hg:gone<2*(nv+1)) (e:(C p.1).lits=x::gone::r) (hi:i<r.length) (hf:ng r[i] ∉ T) :
  VS nv nc A T S (upd C p.1 { C p.1 with lits:=x::r[i]::r.set i gone }) (upd W r[i] (W r[i]++[(p.1,x)])) h gone K R:=by
 have hp:(x::r[i]::r.set i gone).Perm (C p.1).lits:=by rw[e];exact perm_move x gone r i hi
 have hlt:p.1<nc:=(v.wi.w1 gone hg p (by rw[upd_same];simp)).1
 have nd:=ci.nd _ hlt;rw[e]at nd;simp only[List.map_cons,List.nodup_cons,List.mem_cons,not_or]at nd;have hmem:r[i]∈r:=List.getElem_mem hi;have vi:r[i] / 2∈r.map (· / 2):=List.mem_map.2 ⟨_,hmem,rfl⟩;have nx:r[i]≠x:=fun e2=>nd.1.2 (e2 ▸ vi)
 have ngo:r[i]≠gone:=fun e2=>nd.2.1 (e2 ▸ vi)
 have xg:x≠gone:=fun e2=>nd.1.1 (by rw[e2])
 have hri:=(ci.ok _ hlt r[i] (by rw[e];simp[hmem])).2
 -- entries of this clause lie in the lists of x and of gone alone
 have only:∀l,l<2*(nv+1)→∀q∈upd W gone (K++p::R) l,q.1=p.1→l=x∨l=gone:=by
  intro l hl q hq e3;obtain⟨-,⟨a,b,⟨r',e4⟩,h5⟩,-⟩:=v.wi.w1 l hl q hq;rw[e3,e]at e4;injection e4 with e4 e5;injection e5 with e5 _;rcases h5 with h5|h5
  · exact Or.inl (h5.trans e4.symm)
  · exact Or.inr (h5.trans e5.symm)
 have w2g:=v.wi.w2 gone hg;rw[upd_same]at w2g;simp only[List.map_append,List.map_cons]at w2g;have pK:p.1 ∉ (K++R).map Prod.fst:=by
  have h9:=(List.perm_middle (l₁:=K.map Prod.fst) (l₂:=R.map Prod.fst) (a:=p.1)).nodup_iff.1 w2g;have h8:=(List.nodup_cons.1 h9).1;simpa using h8
 have wv:∀l,l≠gone→upd W gone (K++p::R) l=W l:=fun l hl=>upd_other _ _ hl
 have old:∀l,l<2*(nv+1)→∀q∈upd W gone (K++p::R) l,q.1<nc∧(q.1≠p.1∨l=x∨l=gone):=fun l hl q hq=>⟨(v.wi.w1 l hl q hq).1,by
  by_cases h9:q.1=p.1
  · exact Or.inr (only l hl q hq h9)
  · exact Or.inl h9⟩
 refine { wi:=⟨?_,?_⟩,d1:=?_,d2:=fun q hq=>(v.d2 q hq).perm hp,he:=?_,fr:=fun c hc s hs=>(v.fr c hc s hs).perm hp }
 ·
  intro l hl q hq;by_cases eg:l=gone
  ·
   subst eg;rw[upd_same]at hq;have hne:q.1≠p.1:=fun h9=>pK (h9 ▸ List.mem_map_of_mem hq)
   rw[upd_other _ _ hne];exact v.wi.w1 l hl q (by rw[upd_same];rcases List.mem_append.1 hq with h9|h9<;>simp[h9])
  ·
   rw[upd_other _ _ eg]at hq;by_cases el:l=r[i]
   ·
    subst el;rw[upd_same]at hq;rcases List.mem_append.1 hq with hq|hq
    ·
     have hne:q.1≠p.1:=fun h9=>by
      rcases only _ hl q (by rw[wv _ eg];exact hq) h9 with h8|h8
      · exact nx h8
      · exact ngo h8
     rw[upd_other _ _ hne];exact v.wi.w1 _ hl q (by rw[wv _ eg];exact hq)
    · simp at hq;subst hq;rw[upd_same];exact⟨hlt,⟨x,r[i],⟨_,rfl⟩,Or.inr rfl⟩,by simp⟩
   ·
    rw[upd_other _ _ el]at hq;obtain⟨h1,⟨a,b,h4,h5⟩,h3⟩:=v.wi.w1 l hl q (by rw[wv _ eg];exact hq)
    by_cases h9:q.1=p.1
    ·
     rcases only l hl q (by rw[wv _ eg];exact hq) h9 with h8|h8
     · rw[h9,upd_same];rw[h9]at h3;exact⟨hlt,⟨x,r[i],⟨_,rfl⟩,Or.inl h8⟩,hp.mem_iff.2 h3⟩
     · exact absurd h8 eg
    · rw[upd_other _ _ h9];exact⟨h1,⟨a,b,h4,h5⟩,h3⟩
 ·
  intro l hl;by_cases eg:l=gone
  · subst eg;rw[upd_same];have h9:=(List.perm_middle (l₁:=K.map Prod.fst) (l₂:=R.map Prod.fst) (a:=p.1)).nodup_iff.1 w2g;have h8:=(List.nodup_cons.1 h9).2;simpa using h8
  ·
   rw[upd_other _ _ eg];have h9:=v.wi.w2 l hl;rw[wv l eg]at h9;by_cases el:l=r[i]
   ·
    subst el;rw[upd_same,List.map_append,List.nodup_append];refine⟨h9,by simp,?_⟩
    intro a ha b hb;simp at hb;subst hb;intro e9;obtain⟨q,hq,rfl⟩:=List.mem_map.1 ha;rcases only _ hl q (by rw[wv _ eg];exact hq) e9 with h8|h8
    · exact nx h8
    · exact ngo h8
   · rw[upd_other _ _ el];exact h9
 ·
  intro l hl hne q hq;by_cases el:l=r[i]
  · subst el;rw[upd_same]at hq;intro t ht he;exact absurd (List.mem_of_getElem? he) hf
  · rw[upd_other _ _ el]at hq;exact (v.d1 l hl hne q hq).perm hp
 ·
  intro c hc;have hh:=v.he c hc;by_cases ec:c=p.1
  ·
   subst ec;rcases hh with⟨a,b,⟨r',e4⟩,h1,h2⟩|⟨m,hm,hlow⟩
   ·
    left
    rw[e]at e4;injection e4 with e4 e5;subst e4;refine⟨x,r[i],by rw[upd_same];exact⟨_,rfl⟩,?_,?_⟩
    · rw[upd_other _ _ xg,upd_other _ _ nx.symm];rwa [wv x xg]at h1
    · rw[upd_other _ _ ngo,upd_same];simp
   ·
    right
    rw[upd_same];exact⟨m,hp.mem_iff.2 hm,hlow⟩
  ·
   have h1:Held T S (upd C p.1 { C p.1 with lits:=x::r[i]::r.set i gone }) (upd W gone (K++p::R)) c:=hh.perm hp (fun h9=>absurd h9 ec)
   refine h1.lists (fun l hl=>?_)
   by_cases eg:l=gone
   ·
    subst eg;rw[upd_same]at hl ⊢;simp only[List.map_append,List.map_cons,List.mem_append,List.mem_cons]at hl ⊢;rcases hl with hl|hl|hl
    · exact Or.inl hl
    · exact absurd hl ec
    · exact Or.inr hl
   ·
    rw[upd_other _ _ eg];rw[wv l eg]at hl;by_cases el:l=r[i]
    · subst el;rw[upd_same,List.map_append];exact List.mem_append_left _ hl
    · rw[upd_other _ _ el];exact hl
end
end Sat
namespace Sat
structure Bp (T S:List Nat) (F:Nat→Fc) (C:Nat→Cl) (clash:Nat) (M:Nat→Int) (a:Nat) (out:List Nat):Prop where
  va:∀v,M v=0∨M v=1∨M v=2
  on:∀v,M v≠0→∃i,∃hi:i<T.length,T[i] / 2=v∧0<lvl S i
  re:∀v,M v≠0→∀keep,(∀u,M u=2→u ∉ keep)→Rc F C clash keep v
  se:∀v,M v=2→∃r:Nat,(F v).reason=(r:Int)∧∀m∈(C r).lits,m / 2≠v→(F (m / 2)).level=0∨M (m / 2)≠0
  cl:∀m∈(C clash).lits,(F (m / 2)).level=0∨M (m / 2)≠0
  li:∀m∈a::out,ng m∈T∧M (m / 2)=1
  ke:∀v,M v=1→v∈(a::out).map (· / 2)
  nd:((a::out).map (· / 2)).Nodup
  ha:(F (a / 2)).level=S.length
  ho:∀m∈out,(F (m / 2)).level≠S.length
def Fol (F:Nat→Fc) (C:Nat→Cl) (M:Nat→Int) (v:Nat):Prop:=∃r:Nat,(F v).reason=(r:Int)∧∀m∈(C r).lits,m / 2≠v→(F (m / 2)).level=0∨M (m / 2)=1∨M (m / 2)=2
structure JM (T S:List Nat) (F:Nat→Fc) (C:Nat→Cl) (M:Nat→Int):Prop where
  va:∀v,M v=0∨M v=1∨M v=2∨M v=3
  on:∀v,M v≠0→∃i,∃hi:i<T.length,T[i] / 2=v∧0<lvl S i
  se:∀v,M v=2→Fol F C M v
def Ext (M M':Nat→Int):Prop:=(∀v,M v≠0→M' v=M v)∧∀v,M v=0→M' v≠1
theorem Ext.refl (M:Nat→Int):Ext M M:=⟨fun _ _=>rfl,fun v h=>by omega⟩
theorem Ext.trans {M M' M'':Nat→Int} (h:Ext M M') (k:Ext M' M''):Ext M M'':=by
 refine⟨fun v hv=>?_,fun v hv=>?_⟩
 · rw[k.1 v (by rw[h.1 v hv];exact hv)];exact h.1 v hv
 ·
  by_cases e:M' v=0
  · exact k.2 v e
  · rw[k.1 v e];exact h.2 v hv
theorem Fol.ext {F:Nat→Fc} {C:Nat→Cl} {M M':Nat→Int} {v:Nat} (h:Fol F C M v) (e:Ext M M'):Fol F C M' v:=by
 obtain⟨r,h1,h2⟩:=h;refine⟨r,h1,fun m hm hne=>?_⟩
 rcases h2 m hm hne with h3|h3|h3
 · exact Or.inl h3
 · exact Or.inr (Or.inl (by rw[e.1 _ (by omega)];exact h3))
 · exact Or.inr (Or.inr (by rw[e.1 _ (by omega)];exact h3))
section
variable {nv:Nat} {V:Nat→Int} {T S:List Nat} {F:Nat→Fc} {nc:Nat} {C:Nat→Cl} {clash:Nat} {M M':Nat→Int}
theorem BI.bp {E out:List Nat} {from_ at_:Nat} (h:TI nv V T S F nc C) (hc:∀m∈(C clash).lits,ng m∈T) (b:BI nv T S F nc C clash M E out from_ (C from_).lits at_) {i:Nat} (hi:i<T.length) (hE:E=[T[i] / 2]):Bp T S F C clash M (ng T[i]) out:=by
 obtain⟨e1,e2⟩:=(b.le (T[i] / 2)).1 (by rw[hE];simp)
 refine { va:=b.va,on:=fun v hv=>?_,re:=b.re,se:=fun v hv=>?_,cl:=fun m hm=>?_,li:=fun m hm=>?_,ke:=fun v hv=>?_,nd:=?_,ha:=by rw[ng_var];exact e2,ho:=fun m hm=>(b.ou m hm).2.2 }
 · obtain⟨j,hj,ej,h1,-⟩:=b.on v hv;exact⟨j,hj,ej,h1⟩
 ·
  obtain⟨r,h1,h2⟩:=b.se v hv;refine⟨r,h1,fun m hm hne=>?_⟩
  rcases h2 m hm hne with⟨h3,h4⟩|h3
  · subst h3;exact absurd hm h4
  · exact h3
 ·
  rcases b.cl m hm with⟨h3,h4⟩|h3
  · subst h3;exact absurd hm h4
  · exact h3
 ·
  rcases List.mem_cons.1 hm with e|e
  · subst e;rw[ng_ng,ng_var];exact⟨List.getElem_mem hi,e1⟩
  · exact⟨(b.ou m e).1,(b.ou m e).2.1⟩
 ·
  by_cases e:(F v).level=S.length
  · have:=(b.le v).2 ⟨hv,e⟩;rw[hE]at this;simp at this;subst this;rw[List.map_cons,ng_var];simp
  · obtain⟨m,hm,em⟩:=b.ov v hv e;rw[List.map_cons];exact List.mem_cons_of_mem _ (List.mem_map.2 ⟨m,hm,em⟩)
 ·
  rw[List.map_cons,List.nodup_cons,ng_var];refine⟨fun h9=>?_,b.nd⟩
  obtain⟨m,hm,em⟩:=List.mem_map.1 h9;exact (b.ou m hm).2.2 (by rw[em];exact e2)
theorem Bp.jm {a:Nat} {out:List Nat} (b:Bp T S F C clash M a out):JM T S F C M:=by
 refine⟨fun v=>?_,b.on,fun v hv=>?_⟩
 · rcases b.va v with h|h|h<;>simp[h]
 ·
  obtain⟨r,h1,h2⟩:=b.se v hv;refine⟨r,h1,fun m hm hne=>?_⟩
  rcases h2 m hm hne with h3|h3
  · exact Or.inl h3
  ·
   rcases b.va (m / 2) with h|h|h
   · exact absurd h h3
   · exact Or.inr (Or.inl h)
   · exact Or.inr (Or.inr h)
theorem Bp.cut {a:Nat} {out out':List Nat} (h:TI nv V T S F nc C) (hc:∀m∈(C clash).lits,ng m∈T) (b:Bp T S F C clash M a out) (j:JM T S F C M') (e:Ext M M') (hs:List.Sublist out' out) (hr:∀m∈out,m ∉ out'→Fol F C M' (m / 2)) :
  Cut T S F C clash (a::out') (fun v=>M' v=1∨M' v=2):=by
 have sub:∀m∈a::out',m∈a::out:=fun m hm=>by
  rcases List.mem_cons.1 hm with h9|h9
  · simp[h9]
  · exact List.mem_cons_of_mem _ (hs.subset h9)
 have n1:∀v,M v≠0→M' v=1∨M' v=2:=fun v hv=>by
  rw[e.1 v hv];rcases b.va v with h9|h9|h9
  · exact absurd h9 hv
  · exact Or.inl h9
  · exact Or.inr h9
 have hsub:((a::out').map (· / 2)).Sublist ((a::out).map (· / 2)):=(List.Sublist.cons_cons a hs).map _;refine { cl:=fun m hm=>⟨hc m hm,?_⟩,go:=fun v hv=>⟨?_,?_⟩,li:=fun m hm=>?_,nd:=b.nd.sublist hsub }
 ·
  rcases b.cl m hm with h1|h1
  · exact Or.inl h1
  · exact Or.inr (n1 _ h1)
 ·
  obtain⟨i,hi,ei,h2⟩:=j.on v (by omega)
  have:=(h.pl i hi).2;rw[ei]at this;omega
 ·
  rcases hv with hv|hv
  ·
   have hM:M v=1:=by
    by_cases e0:M v=0
    · exact absurd hv (e.2 v e0)
    · rw[e.1 v e0]at hv;exact hv
   obtain⟨m,hm,em⟩:=List.mem_map.1 (b.ke v hM);by_cases hm':m∈a::out'
   · exact Or.inl (List.mem_map.2 ⟨m,hm',em⟩)
   ·
    right
    rcases List.mem_cons.1 hm with h9|h9
    · exact absurd (by rw[h9];simp) hm'
    ·
     have:=hr m h9 (fun h8=>hm' (List.mem_cons_of_mem _ h8))
     rw[em]at this;exact this
  · exact Or.inr (j.se v hv)
 ·
  obtain⟨h1,h2⟩:=b.li m (sub m hm);refine⟨h1,n1 _ (by omega),b.re _ (by omega) _ (fun u hu hk=>?_)⟩
  obtain⟨m',hm',em'⟩:=List.mem_map.1 hk;have:=(b.li m' (sub m' hm')).2;rw[em']at this;omega
structure SI (nv:Nat) (V:Nat→Int) (T S:List Nat) (F:Nat→Fc) (nc:Nat) (C:Nat→Cl) (W:Nat→List (Nat × Nat)) (h:Nat) (Q U:List Nat):Prop where
  ti:TI nv V T S F nc C
  ci:CI nv nc C
  wi:WI nv nc C W
  w4:W4 nv T S C W h
  he:∀c,c<nc→c ∉ Q→Held T S C W c
  fr:∀c,c<nc→c ∉ Q→∀s∈S,Free T s (C c).lits
  hl:h≤T.length
  hs:∀s∈S,s≤h
  uc:∀c,c<nc→c ∉ Q→∀m∈(C c).lits,m / 2∈U
  ut:∀t∈T,t / 2∈U
theorem take_take_le {s k:Nat} (h:s≤k):(T.take k).take s=T.take s:=by rw[List.take_take,Nat.min_eq_left h]
theorem Free.cut {s k:Nat} {l:List Nat} (hf:Free T s l) (h:s≤k):Free (T.take k) s l:=by unfold Free at hf ⊢;rw[take_take_le h];exact hf
section
variable {W:Nat→List (Nat × Nat)} {h:Nat} {Q U:List Nat}
theorem SI.cut (s:SI nv V T S F nc C W h Q U) {k:Nat} (hk:k<S.length) {V':Nat→Int} {F':Nat→Fc} (hV:∀l,l<2*(nv+1)→V' l=vl (T.take S[k]) l)
  (hF:∀i (hi:i<T.length),(F' (T[i] / 2)).level=(F (T[i] / 2)).level∧(F' (T[i] / 2)).place=(F (T[i] / 2)).place∧(F' (T[i] / 2)).reason=(F (T[i] / 2)).reason∧(F' (T[i] / 2)).unit=(F (T[i] / 2)).unit) :
  SI nv V' (T.take S[k]) (S.take k) F' nc C W S[k] Q U:=by
 have hb:=s.ti.st _ (List.getElem_mem hk);have t:=s.ti.cut hk hV hF;have sk:∀x∈S.take k,x≤S[k]:=fun x hx=>by have:=t.st x hx;rw[List.length_take]at this;omega
 refine { ti:=t,ci:=s.ci,wi:=s.wi,w4:=?_,he:=fun c hc hq=>(s.he c hc hq).cut s.ti.up hk,fr:=fun c hc hq x hx=>(s.fr c hc hq x (List.mem_of_mem_take hx)).cut (sk x hx),hl:=by rw[List.length_take];omega,hs:=sk,uc:=s.uc,ut:=fun x hx=>s.ut x (List.mem_of_mem_take hx) }
 intro l hl p hp;exact ((s.w4 l hl p hp).less (s.hs _ (List.getElem_mem hk))).cut s.ti.up hk
theorem SI.pick (s:SI nv V T S F nc C W T.length Q U) {l:Nat} {u:Int} {lst:Bool} {mk:Int} (hl:2≤l∧l<2*(nv+1)) (h0:vl T l=0) (hU:l / 2∈U)
  {V':Nat→Int} (hV:∀k,k<2*(nv+1)→V' k=if k=l then 1 else if k=ng l then -1 else V k) :
  SI nv V' (T++[l]) (S++[T.length]) (upd F (l / 2) { level:=(S.length+1:Nat),place:=T.length,reason:=-1,unit:=u,last:=lst,mark:=mk }) nc C W T.length Q U:=by
 have lo:∀i,i<T.length→lvl (S++[T.length]) i=lvl S i:=fun i hi=>by rw[lvl_append,if_neg (by omega)];rfl
 refine { ti:=s.ti.pick hl h0 hV,ci:=s.ci,wi:=s.wi,w4:=?_,he:=?_,fr:=?_,hl:=by simp,hs:=?_,uc:=s.uc,ut:=?_ }
 · intro x hx p hp i hi he;rw[List.getElem?_append_left hi]at he;obtain⟨j,o,h1,h2,h3⟩:=s.w4 x hx p hp i hi he;have hj:=(List.getElem?_eq_some_iff.1 h2).1;exact⟨j,o,h1,by rw[List.getElem?_append_left hj];exact h2,by rw[lo i hi,lo j hj];exact h3⟩
 ·
  intro c hc hq;rcases s.he c hc hq with h9|⟨m,hm,i,h1,h2⟩
  · exact Or.inl h9
  · have hi:=(List.getElem?_eq_some_iff.1 h1).1;exact Or.inr ⟨m,hm,i,by rw[List.getElem?_append_left hi];exact h1,by rw[lo i hi];exact h2⟩
 ·
  intro c hc hq x hx;rcases List.mem_append.1 hx with hx|hx
  · exact (s.fr c hc hq x hx).push (Nat.le_of_lt (s.ti.st x hx))
  · simp at hx;subst hx;exact (held_free s.ti.nd s.ci s.w4 hc (s.he c hc hq)).push (Nat.le_refl _)
 ·
  intro x hx;rcases List.mem_append.1 hx with hx|hx
  · exact Nat.le_of_lt (s.ti.st x hx)
  · simp at hx;omega
 ·
  intro t ht;rcases List.mem_append.1 ht with ht|ht
  · exact s.ut t ht
  · simp at ht;subst ht;exact hU
theorem SI.visit (s:SI nv V T S F nc C W h Q U) (hh:h<T.length):VS nv nc (fun c=>c<nc∧c ∉ Q) T S C W (h+1) (ng T[h]) [] (W (ng T[h])):=by
 have e:upd W (ng T[h]) ([]++W (ng T[h]))=W:=by
  funext l
  by_cases e:l=ng T[h]
  · subst e;rw[upd_same];rfl
  · rw[upd_other _ _ e]
 refine { wi:=by rw[e];exact s.wi,d1:=?_,d2:=fun p hp=>by (cases hp),he:=fun c hc=>by rw[e];exact s.he c hc.1 hc.2,fr:=fun c hc=>s.fr c hc.1 hc.2 }
 intro l hl hne p hp i hi he;by_cases e2:i=h
 · subst e2;rw[List.getElem?_eq_getElem hh]at he;injection he with he;exact absurd (by rw[he,ng_ng]) hne
 · exact s.w4 l hl p hp i (by omega) he
theorem VS.end_ {gone:Nat} {K:List (Nat × Nat)} (v:VS nv nc (fun c=>c<nc∧c ∉ Q) T S C W h gone K []) (ti:TI nv V T S F nc C) (ci:CI nv nc C) (hl:h≤T.length) (hs:∀s∈S,s≤h) (uc:∀c,c<nc→c ∉ Q→∀m∈(C c).lits,m / 2∈U) (ut:∀t∈T,t / 2∈U) :
  SI nv V T S F nc C (upd W gone K) h Q U:=by
 have e:K++[]=K:=by simp
 refine { ti:=ti,ci:=ci,wi:=by have:=v.wi;rwa [e]at this,w4:=?_,he:=fun c h1 h2=>by have:=v.he c ⟨h1,h2⟩;rwa [e]at this,fr:=fun c h1 h2=>v.fr c ⟨h1,h2⟩,hl:=hl,hs:=hs,uc:=uc,ut:=ut }
 intro l hl p hp;by_cases e2:l=gone
 · subst e2;rw[upd_same]at hp;exact v.d2 p hp
 · rw[upd_other _ _ e2]at hp;exact v.d1 l hl e2 p hp
theorem VS.stop {gone:Nat} {K R:List (Nat × Nat)} (v:VS nv nc (fun c=>c<nc∧c ∉ Q) T S C W (h+1) gone K R) (ti:TI nv V T S F nc C) (ci:CI nv nc C) (hg:T[h]?=some (ng gone)) (hl:h≤T.length) (hs:∀s∈S,s≤h) (uc:∀c,c<nc→c ∉ Q→∀m∈(C c).lits,m / 2∈U) (ut:∀t∈T,t / 2∈U) :
  SI nv V T S F nc C (upd W gone (K++R)) h Q U:=by
 refine { ti:=ti,ci:=ci,wi:=v.wi,w4:=?_,he:=fun c h1 h2=>v.he c ⟨h1,h2⟩,fr:=fun c h1 h2=>v.fr c ⟨h1,h2⟩,hl:=hl,hs:=hs,uc:=uc,ut:=ut }
 intro l hl p hp;by_cases e2:l=gone
 ·
  subst e2;intro i hi he;have h1:=(List.getElem?_eq_some_iff.1 hg);have h2:=(List.getElem?_eq_some_iff.1 he);have:=nd_inj ti.nd h1.1 h2.1 (by rw[h1.2,h2.2])
  omega
 · rw[upd_other _ _ e2]at hp;exact (v.d1 l hl e2 p hp).less (by omega)
theorem SI.fresh (s:SI nv V T S F nc C W h Q U) {a:Nat} {out:List Nat} (hS:S≠[]) (hf:∀m∈a::out,ng m∈T) (ho:∀m∈out,(F (m / 2)).level≠S.length) {c:Nat} (hc:c<nc) (hq:c ∉ Q):¬ ∀m,m∈(C c).lits↔m∈a::out:=by
 intro hm;obtain⟨x,hx,hlast⟩:∃x∈S,∀y∈S,y≤x:=by
  refine⟨S.getLast hS,List.getLast_mem hS,fun y hy=>?_⟩
  obtain⟨i,hi,rfl⟩:=List.mem_iff_getElem.1 hy;rw[List.getLast_eq_getElem];by_cases e:i=S.length - 1
  · subst e;exact Nat.le_refl _
  · exact Nat.le_of_lt (List.pairwise_iff_getElem.1 s.ti.up i (S.length - 1) hi (by omega) (by omega))
 rcases s.fr c hc hq x hx with⟨m,h1,h2⟩|⟨m,h1,m',h2,h3,h4,h5⟩
 · exact nd_ng s.ti.nd (List.mem_of_mem_take h2) (hf m ((hm m).1 h1))
 ·
  have key:∀m,m∈(C c).lits→ng m ∉ T.take x→m=a:=fun m h1 h4=>by
   rcases List.mem_cons.1 ((hm m).1 h1) with e|e
   · exact e
   ·
    exfalso
    obtain⟨i,hi,ei⟩:=List.mem_iff_getElem.1 (hf m ((hm m).1 h1));have hix:x≤i:=by
     rcases Nat.lt_or_ge i x with h9|h9
     · exact absurd (List.mem_iff_getElem.2 ⟨i,by rw[List.length_take];omega,by rw[List.getElem_take];exact ei⟩) h4
     · exact h9
    have:=(s.ti.pl i hi).2;rw[ei,ng_var,lvl_full (fun y hy=>Nat.le_trans (hlast y hy) hix)]at this
    exact ho m e this
  exact h3 ((key m h1 h4).trans (key m' h2 h5).symm)
theorem SI.two (s:SI nv V T S F nc C W h Q U) (hS:S≠[]) {c:Nat} (hc:c<nc) (hq:c ∉ Q) (hf:∀m∈(C c).lits,ng m∈T):∃m∈(C c).lits,(F (m / 2)).level=S.length:=by
 obtain⟨x,hx,hlast⟩:∃x∈S,∀y∈S,y≤x:=by
  refine⟨S.getLast hS,List.getLast_mem hS,fun y hy=>?_⟩
  obtain⟨i,hi,rfl⟩:=List.mem_iff_getElem.1 hy;rw[List.getLast_eq_getElem];by_cases e:i=S.length - 1
  · subst e;exact Nat.le_refl _
  · exact Nat.le_of_lt (List.pairwise_iff_getElem.1 s.ti.up i (S.length - 1) hi (by omega) (by omega))
 rcases s.fr c hc hq x hx with⟨m,h1,h2⟩|⟨m,h1,m',h2,h3,h4,h5⟩
 · exact absurd (hf m h1) (nd_ng s.ti.nd (List.mem_of_mem_take h2))
 ·
  refine⟨m,h1,?_⟩;obtain⟨i,hi,ei⟩:=List.mem_iff_getElem.1 (hf m h1);have hix:x≤i:=by
   rcases Nat.lt_or_ge i x with h9|h9
   · exact absurd (List.mem_iff_getElem.2 ⟨i,by rw[List.length_take];omega,by rw[List.getElem_take];exact ei⟩) h4
   · exact h9
  have:=(s.ti.pl i hi).2;rw[ei,ng_var,lvl_full (fun y hy=>Nat.le_trans (hlast y hy) hix)]at this
  exact this
end
end
end Sat
namespace Sat
section
variable {nv:Nat} {V:Nat→Int} {T S:List Nat} {F:Nat→Fc} {nc:Nat} {C:Nat→Cl} {W:Nat→List (Nat × Nat)} {h:Nat} {Q U:List Nat}
theorem CI.grow (ci:CI nv nc C) {x:Cl} (ok:∀m∈x.lits,2≤m∧m<2*(nv+1)) (nd:(x.lits.map (· / 2)).Nodup):CI nv (nc+1) (upd C nc x):=by
 refine⟨fun c hc=>?_,fun c hc=>?_⟩
 ·
  by_cases e:c=nc
  · subst e;rw[upd_same];exact ok
  · rw[upd_other _ _ e];exact ci.ok c (by omega)
 ·
  by_cases e:c=nc
  · subst e;rw[upd_same];exact nd
  · rw[upd_other _ _ e];exact ci.nd c (by omega)
theorem CI.perm (ci:CI nv nc C) {k:Nat} {L:List Nat} (hp:L.Perm (C k).lits):CI nv nc (upd C k { C k with lits:=L }):=by
 refine⟨fun c hc=>?_,fun c hc=>?_⟩
 ·
  by_cases e:c=k
  · subst e;rw[upd_same];exact fun m hm=>ci.ok c hc m (hp.mem_iff.1 hm)
  · rw[upd_other _ _ e];exact ci.ok c hc
 ·
  by_cases e:c=k
  · subst e;rw[upd_same];exact ((hp.map _).nodup_iff).2 (ci.nd c hc)
  · rw[upd_other _ _ e];exact ci.nd c hc
theorem TI.grow (t:TI nv V T S F nc C) (x:Cl):TI nv V T S F (nc+1) (upd C nc x) :=
  t.turn (Nat.le_succ _) (fun c hc=>by rw[upd_other _ _ (by omega)]) (fun _ _=>⟨rfl,rfl,rfl,rfl⟩)
theorem TI.perm (t:TI nv V T S F nc C) {k:Nat} {L:List Nat} (hp:L.Perm (C k).lits):TI nv V T S F nc (upd C k { C k with lits:=L }) :=
  t.turn (Nat.le_refl _) (fun c hc=>by
    by_cases e:c=k
    · subst e;rw[upd_same];exact hp
    · rw[upd_other _ _ e]) (fun _ _=>⟨rfl,rfl,rfl,rfl⟩)
theorem WI.grow (w:WI nv nc C W) (x:Cl):WI nv (nc+1) (upd C nc x) W :=
  ⟨fun l hl p hp=>by
    obtain⟨h1,h2,h3⟩:=w.w1 l hl p hp
    rw[upd_other _ _ (by omega)]
    exact⟨by omega,h2,h3⟩,w.w2⟩
theorem Done.grow {x:Cl} {l:Nat} {p:Nat × Nat} (d:Done T S C h l p) (hp:p.1<nc):Done T S (upd C nc x) h l p:=d.turn (fun o ho=>by rw[upd_other _ _ (by omega)];exact ho)
theorem Held.grow {x:Cl} {c:Nat} (hh:Held T S C W c) (hc:c<nc):Held T S (upd C nc x) W c:=by unfold Held at hh ⊢;rw[upd_other _ _ (by omega)];exact hh
theorem VS.grow {gone:Nat} {K R:List (Nat × Nat)} (v:VS nv nc (fun c=>c<nc∧c ∉ Q) T S C W h gone K R) (hg:gone<2*(nv+1)) {x:Cl} {l:Nat} (hx:x.lits=[l]) (hl:low T S l) (hS:S=[]):VS nv (nc+1) (fun c=>c<nc+1∧c ∉ Q) T S (upd C nc x) W h gone K R:=by
 refine { wi:=v.wi.grow x,d1:=fun l hl hne p hp=>(v.d1 l hl hne p hp).grow (v.wi.w1 l hl p (by rw[upd_other _ _ hne];exact hp)).1,d2:=fun p hp=>(v.d2 p hp).grow (v.wi.w1 gone hg p (by rw[upd_same];exact List.mem_append_left _ hp)).1,he:=fun c hc=>?_,fr:=fun c hc s hs=>by rw[hS]at hs;cases hs }
 by_cases e:c=nc
 · subst e;right;rw[upd_same,hx];exact⟨l,by simp,hl⟩
 · exact (v.he c ⟨by omega,hc.2⟩).grow (by omega)
theorem SI.push0 (s:SI nv V T [] F nc C W h Q U) {l:Nat} {F':Nat→Fc} {nc':Nat} {C':Nat→Cl} {V':Nat→Int} (t:TI nv V' (T++[l]) [] F' nc' C') (hn:nc'=nc∧C'=C∨nc'=nc+1∧∃x,x.lits=[l]∧C'=upd C nc x) (hl:2≤l∧l<2*(nv+1)) (hU:l / 2∈U) :
  SI nv V' (T++[l]) [] F' nc' C' W h Q U:=by
 have lo:low (T++[l]) [] l:=⟨T.length,by simp,rfl⟩
 have ut:∀t∈T++[l],t / 2∈U:=fun t ht=>by
  rcases List.mem_append.1 ht with ht|ht
  · exact s.ut t ht
  · simp at ht;subst ht;exact hU
 rcases hn with⟨rfl,rfl⟩|⟨rfl,x,hx,rfl⟩
 · exact { ti:=t,ci:=s.ci,wi:=s.wi,w4:=s.w4.push s.hl,he:=fun c h1 h2=>(s.he c h1 h2).push,fr:=fun c h1 h2 x hx=>by (cases hx),hl:=by have:=s.hl;simp;omega,hs:=fun x hx=>by (cases hx),uc:=s.uc,ut:=ut }
 ·
  refine { ti:=t,ci:=s.ci.grow (by rw[hx];simpa using hl) (by rw[hx];simp),wi:=s.wi.grow x,w4:=fun l hl p hp=>((s.w4 l hl p hp).push s.hl).grow (s.wi.w1 l hl p hp).1,he:=fun c h1 h2=>?_,fr:=fun c h1 h2 x hx=>by (cases hx),hl:=by have:=s.hl;simp;omega,hs:=fun x hx=>by (cases hx),uc:=fun c h1 h2=>?_,ut:=ut }
  ·
   by_cases e:c=nc
   · subst e;right;rw[upd_same,hx];exact⟨l,by simp,lo⟩
   · exact (s.he c (by omega) h2).push.grow (by omega)
  ·
   by_cases e:c=nc
   · subst e;rw[upd_same,hx];intro m hm;simp at hm;subst hm;exact hU
   · rw[upd_other _ _ e];exact s.uc c (by omega) h2
theorem SI.learn2 (s:SI nv V T S F nc C W T.length Q U) {a b:Nat} {r:List Nat} {x:Cl} (hx:x.lits=a::b::r) (ok:∀m∈a::b::r,2≤m∧m<2*(nv+1)) (nd:((a::b::r).map (· / 2)).Nodup) (ha:vl T a=0) (hb:∃i,T[i]?=some (ng b)∧lvl S i=S.length) (hr:∀m∈r,ng m∈T) (hU:∀m∈a::b::r,m / 2∈U) (hS:S≠[])
  {u:Int} {lst:Bool} {mk:Int} {V':Nat→Int} (hV:∀k,k<2*(nv+1)→V' k=if k=a then 1 else if k=ng a then -1 else V k) :
  SI nv V' (T++[a]) S (upd F (a / 2) { level:=S.length,place:=T.length,reason:=(nc:Nat),unit:=u,last:=lst,mark:=mk }) (nc+1) (upd C nc x) (upd (upd W a (W a++[(nc,b)])) b (W b++[(nc,a)])) T.length Q U:=by
 obtain⟨i,hi,hli⟩:=hb;have hbT:ng b∈T:=List.mem_of_getElem? hi;obtain⟨z1,z2⟩:=vl_zero.1 ha;have ab:a≠b:=fun e=>by rw[e]at nd;simp at nd
 have xin:∀m,m∈x.lits↔m∈a::b::r:=fun m=>by rw[hx]
 have t0:=s.ti.grow x;have t1:TI nv V' (T++[a]) S (upd F (a / 2) { level:=S.length,place:=T.length,reason:=(nc:Nat),unit:=u,last:=lst,mark:=mk }) (nc+1) (upd C nc x):=by
  refine t0.push (ok a (by simp)) ha (Nat.lt_succ_self _) (by rw[upd_same,hx];simp) (fun m hm hne=>?_) (fun e=>absurd e hS) hV
  rw[upd_same,hx]at hm;rcases List.mem_cons.1 hm with e|hm
  · exact absurd e hne
  ·
   rcases List.mem_cons.1 hm with e|hm
   · subst e;exact hbT
   · exact hr m hm
 have oldW:∀l,l<2*(nv+1)→∀p∈upd (upd W a (W a++[(nc,b)])) b (W b++[(nc,a)]) l,p∈W l∨(l=a∧p=(nc,b))∨(l=b∧p=(nc,a)):=by
  intro l hl p hp;by_cases e:l=b
  ·
   subst e;rw[upd_same]at hp;rcases List.mem_append.1 hp with hp|hp
   · exact Or.inl hp
   · simp at hp;exact Or.inr (Or.inr ⟨rfl,hp⟩)
  ·
   rw[upd_other _ _ e]at hp;by_cases e2:l=a
   ·
    subst e2;rw[upd_same]at hp;rcases List.mem_append.1 hp with hp|hp
    · exact Or.inl hp
    · simp at hp;exact Or.inr (Or.inl ⟨rfl,hp⟩)
   · rw[upd_other _ _ e2]at hp;exact Or.inl hp
 have keepW:∀l,∀c,c∈(W l).map Prod.fst→c∈((upd (upd W a (W a++[(nc,b)])) b (W b++[(nc,a)])) l).map Prod.fst:=by
  intro l c hc;by_cases e:l=b
  · subst e;rw[upd_same,List.map_append];exact List.mem_append_left _ hc
  ·
   rw[upd_other _ _ e];by_cases e2:l=a
   · subst e2;rw[upd_same,List.map_append];exact List.mem_append_left _ hc
   · rw[upd_other _ _ e2];exact hc
 have ppos:∀s∈S,s≤i:=fun y hy=>(lvl_full_iff.1 hli) y hy
 refine { ti:=t1,ci:=s.ci.grow (by rw[hx];exact ok) (by rw[hx];exact nd),wi:=⟨?_,?_⟩,w4:=?_,he:=?_,fr:=?_,hl:=by simp,hs:=fun y hy=>Nat.le_of_lt (s.ti.st y hy),uc:=?_,ut:=?_ }
 ·
  intro l hl p hp;rcases oldW l hl p hp with hp|⟨rfl,rfl⟩|⟨rfl,rfl⟩
  ·
   obtain⟨h1,h2,h3⟩:=s.wi.w1 l hl p hp;rw[upd_other _ _ (by omega)]
   exact⟨by omega,h2,h3⟩
  ·
   show nc<nc+1∧_
   refine⟨by omega,?_⟩
   simp only[upd_same];rw[hx];exact⟨⟨_,_,⟨r,rfl⟩,Or.inl rfl⟩,by simp⟩
  ·
   show nc<nc+1∧_
   refine⟨by omega,?_⟩
   simp only[upd_same];rw[hx];exact⟨⟨_,_,⟨r,rfl⟩,Or.inr rfl⟩,by simp⟩
 ·
  intro l hl;have h9:=s.wi.w2 l hl;have fresh:∀l,l<2*(nv+1)→nc ∉ (W l).map Prod.fst:=fun l hl hc=>by
   obtain⟨p,hp,e⟩:=List.mem_map.1 hc;have:=(s.wi.w1 l hl p hp).1;omega
  by_cases e:l=b
  · subst e;rw[upd_same,List.map_append,List.nodup_append];exact⟨h9,by simp,fun y hy z hz=>by simp at hz;subst hz;rintro rfl;exact fresh _ hl hy⟩
  ·
   rw[upd_other _ _ e];by_cases e2:l=a
   · subst e2;rw[upd_same,List.map_append,List.nodup_append];exact⟨h9,by simp,fun y hy z hz=>by simp at hz;subst hz;rintro rfl;exact fresh _ hl hy⟩
   · rw[upd_other _ _ e2];exact h9
 ·
  intro l hl p hp;rcases oldW l hl p hp with hp|⟨rfl,rfl⟩|⟨rfl,rfl⟩
  · exact ((s.w4 l hl p hp).push (Nat.le_refl _)).grow (s.wi.w1 l hl p hp).1
  · intro j hj he;rw[List.getElem?_append_left hj]at he;exact absurd (List.mem_of_getElem? he) z2
  ·
   intro j hj he;rw[List.getElem?_append_left hj]at he;have h1:=List.getElem?_eq_some_iff.1 he;have h2:=List.getElem?_eq_some_iff.1 hi;have:=nd_inj s.ti.nd h1.1 h2.1 (by rw[h1.2,h2.2])
   subst this;refine⟨T.length,a,by rw[upd_same,hx];simp,by simp,?_⟩
   rw[hli];exact lvl_le _ _
 ·
  intro c hc hq;by_cases e:c=nc
  ·
   subst e;left
   refine⟨a,b,by rw[upd_same,hx];exact⟨r,rfl⟩,?_,?_⟩
   · rw[upd_other _ _ ab,upd_same];simp
   · rw[upd_same];simp
  · exact (((s.he c (by omega) hq).push).grow (by omega)).lists (fun l hl=>keepW l c hl)
 ·
  intro c hc hq y hy;by_cases e:c=nc
  ·
   subst e;rw[upd_same,hx];right
   refine⟨a,by simp,b,by simp,ab,?_,?_⟩
   · rw[List.take_append_of_le_length (Nat.le_of_lt (s.ti.st y hy))];exact fun h9=>z2 (List.mem_of_mem_take h9)
   · rw[List.take_append_of_le_length (Nat.le_of_lt (s.ti.st y hy))];intro h9;have h2:=List.getElem?_eq_some_iff.1 hi;have:=lt_of_take s.ti.nd h2.1 h2.2 h9;have:=ppos y hy;omega
  · rw[upd_other _ _ e];exact (s.fr c (by omega) hq y hy).push (Nat.le_of_lt (s.ti.st y hy))
 ·
  intro c hc hq;by_cases e:c=nc
  · subst e;rw[upd_same,hx];exact hU
  · rw[upd_other _ _ e];exact s.uc c (by omega) hq
 ·
  intro t ht;rcases List.mem_append.1 ht with ht|ht
  · exact s.ut t ht
  · simp at ht;subst ht;exact hU _ (by simp)
theorem SI.learn1 (s:SI nv V T [] F nc C W T.length Q U) {a:Nat} {x:Cl} (hx:x.lits=[a]) (hl:2≤a∧a<2*(nv+1)) (ha:vl T a=0) (hU:a / 2∈U)
  {lst:Bool} {mk:Int} {V':Nat→Int} (hV:∀k,k<2*(nv+1)→V' k=if k=a then 1 else if k=ng a then -1 else V k) :
  SI nv V' (T++[a]) [] (upd F (a / 2) { level:=(([]:List Nat).length:Nat),place:=T.length,reason:=(nc:Nat),unit:=(nc:Nat),last:=lst,mark:=mk }) (nc+1) (upd C nc x) W T.length Q U:=by
 refine s.push0 ?_ (Or.inr ⟨rfl,x,hx,rfl⟩) hl hU;refine (s.ti.grow x).push hl ha (Nat.lt_succ_self _) (by rw[upd_same,hx];simp) (fun m hm hne=>?_) (fun _=>⟨nc,Nat.lt_succ_self _,rfl,by rw[upd_same,hx]⟩) hV
 rw[upd_same,hx]at hm;simp at hm;exact absurd hm hne
end
/-! ## How many clauses there can be -/
def code (U:List Nat) (lits:List Nat):Nat:=U.foldr (fun v n=>3*n+(if 2*v∈lits then 1 else if 2*v+1∈lits then 2 else 0)) 0
theorem code_lt (U lits:List Nat):code U lits<3 ^ U.length:=by
 induction U with
 | nil=>simp[code]
 | cons v U ih =>
  have e:code (v::U) lits=3*code U lits+(if 2*v∈lits then 1 else if 2*v+1∈lits then 2 else 0):=rfl
  rw[e,List.length_cons,Nat.pow_succ];split
  · omega
  · split<;>omega
theorem code_inj {U l l':List Nat} (hl:∀m∈l,m / 2∈U∧ng m ∉ l) (hl':∀m∈l',m / 2∈U∧ng m ∉ l') (h:code U l=code U l'):∀m,m∈l↔m∈l':=by
 have key:∀U:List Nat,code U l=code U l'→∀v∈U,(2*v∈l↔2*v∈l')∧(2*v ∉ l→(2*v+1∈l↔2*v+1∈l')):=by
  intro U;induction U with
  | nil=>intro _ v hv;cases hv
  | cons x U ih =>
   intro h v hv;have e:∀lits,code (x::U) lits=3*code U lits+(if 2*x∈lits then 1 else if 2*x+1∈lits then 2 else 0):=fun _=>rfl
   rw[e,e]at h;have b:∀lits:List Nat,(if 2*x∈lits then 1 else if 2*x+1∈lits then 2 else 0)<3:=fun lits=>by
    split
    · omega
    · split<;>omega
   have b1:=b l;have b2:=b l';have h1:code U l=code U l':=by omega
   have h2:(if 2*x∈l then 1 else if 2*x+1∈l then 2 else 0)=(if 2*x∈l' then 1 else if 2*x+1∈l' then 2 else 0):=by omega
   rcases List.mem_cons.1 hv with rfl|hv
   · by_cases c1:2*v∈l<;>by_cases c2:2*v∈l'<;>by_cases c3:2*v+1∈l<;>by_cases c4:2*v+1∈l'<;>simp[c1,c2,c3,c4]at h2 ⊢
   · exact ih h1 v hv
 have k:=key U h;have ng2:∀v,ng (2*v+1)=2*v:=fun v=>by unfold ng;split<;>omega
 have even:∀v,v∈U→(2*v∈l↔2*v∈l'):=fun v hv=>(k v hv).1
 have odd:∀v,v∈U→(2*v+1∈l↔2*v+1∈l'):=fun v hv=>by
  constructor
  ·
   intro h9;have n1:2*v ∉ l:=by have:=(hl _ h9).2;rwa [ng2]at this
   exact ((k v hv).2 n1).1 h9
  ·
   intro h9;have n1:2*v ∉ l':=by have:=(hl' _ h9).2;rwa [ng2]at this
   have n2:2*v ∉ l:=fun h8=>n1 ((k v hv).1.1 h8)
   exact ((k v hv).2 n2).2 h9
 intro m;have par:m=2*(m / 2)∨m=2*(m / 2)+1:=by omega
 constructor
 ·
  intro hm;have hv:=(hl m hm).1;rcases par with e|e
  ·
   rw[e]at hm ⊢;have:2*(m / 2) / 2=m / 2:=by omega
   exact (even _ hv).1 hm
  · rw[e]at hm ⊢;exact (odd _ hv).1 hm
 ·
  intro hm;have hv:=(hl' m hm).1;rcases par with e|e
  · rw[e]at hm ⊢;exact (even _ hv).2 hm
  · rw[e]at hm ⊢;exact (odd _ hv).2 hm
theorem nodup_le:∀(N:Nat) (l:List Nat),l.Nodup→(∀x∈l,x<N)→l.length≤N
 | 0,l,_,h=>by
  cases l with
  | nil=>simp
  | cons x _=>exact absurd (h x (List.mem_cons_self ..)) (by omega)
 | N+1,l,hn,h=>by
  have h1:=nodup_le N (l.erase N) (hn.erase _) (fun x hx=>by
   have:=h x (List.mem_of_mem_erase hx);have:x≠N:=fun e=>by subst e;exact hn.not_mem_erase hx
   omega)
  have h2:l.length≤(l.erase N).length+1:=by
   by_cases e:N∈l
   · rw[List.length_erase_of_mem e];omega
   · rw[List.erase_of_not_mem e];omega
  omega
end Sat
end Go.Proofs.YtbmkkhpoaicclabGreat
