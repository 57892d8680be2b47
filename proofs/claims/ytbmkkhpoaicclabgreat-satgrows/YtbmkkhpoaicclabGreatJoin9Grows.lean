/- Joined: SatD, SatE, SatCp, SatVl: words and contracts; no statement of the seat is proved here. -/
import Derived.Test.YtbmkkhpoaicclabGreatJoin7Grows
import Derived.Test.YtbmkkhpoaicclabGreatJoin8Grows
import Derived.Laws.CopyOwn
import Derived.Deep.RegionLaw
import Derived.Deep.DeepCutAuto
namespace Go.Proofs.YtbmkkhpoaicclabGreat
open Go.RowKit
set_option linter.unusedVariables false
namespace Sat
def Fb (C:Nat→Cl) (f:Nat) (x:Cl):Prop:=∃X:List Nat,X.Nodup∧(∀v∈X,∃m∈(C f).lits,m / 2=v)∧x.links.length≤30000+X.length
def From (C:Nat→Cl) (I:List (List Nat)) (c:Nat) (x:Cl):Prop :=
  (∃(n:Nat) (L:List Nat),x.num=(n:Int)∧I[n]?=some L∧∀m,m∈x.lits↔m∈L) ∨
  (x.num=-1∧∃f:Nat,x.first=(f:Int)∧f<c∧(∀p∈x.links,p.1<c)∧Rsl C (·∈(C f).lits) x.links (·∈x.lits)∧Fb C f x)
def Dv (nc:Nat) (C:Nat→Cl) (I:List (List Nat)):Prop:=∀c,c<nc→From C I c (C c)
theorem From.congr {C C':Nat→Cl} {I:List (List Nat)} {c:Nat} {x x':Cl} (h:From C I c x) (hx:x'.num=x.num∧x'.first=x.first∧x'.links=x.links) (hl:∀m,m∈x.lits↔m∈x'.lits) (hC:∀i,i<c→∀m,m∈(C i).lits↔m∈(C' i).lits):From C' I c x':=by
 obtain⟨e1,e2,e3⟩:=hx;rcases h with⟨n,L,h1,h2,h3⟩|⟨h1,f,h2,h3,h4,h5,X,h6,h7,h8⟩
 · exact Or.inl ⟨n,L,e1.trans h1,h2,fun m=>(hl m).symm.trans (h3 m)⟩
 ·
  refine Or.inr ⟨e1.trans h1,f,e2.trans h2,h3,by rw[e3];exact h4,?_,X,h6,fun v hv=>?_,by rw[e3];exact h8⟩
  rotate_left
  · obtain⟨m,k1,k2⟩:=h7 v hv;exact⟨m,(hC f h3 m).1 k1,k2⟩
  rw[e3];exact h5.congr (hC f h3) hl (fun p hp=>hC p.1 (h4 p hp))
theorem perm_mem {C:Nat→Cl} {k:Nat} {L:List Nat} (hp:L.Perm (C k).lits) (i m:Nat):m∈(C i).lits↔m∈(upd C k { C k with lits:=L } i).lits:=by
 by_cases e:i=k
 · subst e;rw[upd_same];exact hp.mem_iff.symm
 · rw[upd_other _ _ e]
theorem Dv.perm {nc:Nat} {C:Nat→Cl} {I:List (List Nat)} (h:Dv nc C I) {k:Nat} {L:List Nat} (hp:L.Perm (C k).lits):Dv nc (upd C k { C k with lits:=L }) I:=by
 intro c hc;refine (h c hc).congr ?_ (perm_mem hp c) (fun i _=>perm_mem hp i)
 by_cases e:c=k
 · subst e;rw[upd_same];exact⟨rfl,rfl,rfl⟩
 · rw[upd_other _ _ e];exact⟨rfl,rfl,rfl⟩
theorem Dv.more {nc:Nat} {C:Nat→Cl} {I:List (List Nat)} (h:Dv nc C I) {x:Cl} (hx:From C I nc x):Dv (nc+1) (upd C nc x) I:=by
 have hC:∀i,i<nc→∀m,m∈(C i).lits↔m∈(upd C nc x i).lits:=fun i hi m=>by rw[upd_other _ _ (by omega)]
 intro c hc;by_cases e:c=nc
 · subst e;rw[upd_same];exact hx.congr ⟨rfl,rfl,rfl⟩ (fun _=>Iff.rfl) hC
 · rw[upd_other _ _ e];exact (h c (by omega)).congr ⟨rfl,rfl,rfl⟩ (fun _=>Iff.rfl) (fun i hi=>hC i (by omega))
theorem Dv.grow {nc:Nat} {C:Nat→Cl} {I J:List (List Nat)} (h:Dv nc C I):Dv nc C (I++J):=by
 intro c hc;rcases h c hc with⟨n,L,h1,h2,h3⟩|h9
 · exact Or.inl ⟨n,L,h1,by rw[List.getElem?_append_left (List.getElem?_eq_some_iff.1 h2).1];exact h2,h3⟩
 · exact Or.inr h9
def fixd (T S:List Nat):Nat:=S.headD T.length
structure Bs (d:Dt) (I:List (List Nat)) (A:Nat) (Q U:List Nat):Prop where
  ti:TI d.nv d.V d.T d.S d.F d.nc d.C
  ci:CI d.nv d.nc d.C
  uc:∀c,c<d.nc→c ∉ Q→∀m∈(d.C c).lits,m / 2∈U
  ut:∀t∈d.T,t / 2∈U
  dv:Dv d.nc d.C I
  cn:d.nc≤A+fixd d.T d.S
section
variable {d:Dt} {I:List (List Nat)} {A:Nat} {Q U:List Nat}
theorem asg_V (V:Nat→Int) (l k:Nat):upd (upd V l 1) (ng l) (-1) k=if k=l then 1 else if k=ng l then -1 else V k:=by
 by_cases e:k=l
 · subst e;rw[if_pos rfl,upd_other _ _ (Ne.symm (ng_ne k)),upd_same]
 ·
  rw[if_neg e];by_cases e2:k=ng l
  · subst e2;rw[if_pos rfl,upd_same]
  · rw[if_neg e2,upd_other _ _ e2,upd_other _ _ e]
theorem Bs.perm (b:Bs d I A Q U) {k:Nat} {L:List Nat} (hp:L.Perm (d.C k).lits):Bs (d.lits k L) I A Q U :=
  { ti:=b.ti.perm hp,ci:=b.ci.perm hp,uc:=fun c h1 h2 m hm=>b.uc c h1 h2 m ((perm_mem hp c m).2 hm),ut:=b.ut,dv:=b.dv.perm hp,cn:=b.cn }
theorem Bs.wl (b:Bs d I A Q U) (l:Nat) (L:List (Nat × Nat)):Bs (d.wl l L) I A Q U:=⟨b.ti,b.ci,b.uc,b.ut,b.dv,b.cn⟩
theorem ut_push {T U:List Nat} {l:Nat} (h:∀t∈T,t / 2∈U) (hU:l / 2∈U):∀t∈T++[l],t / 2∈U:=fun t ht=>by
  rcases List.mem_append.1 ht with ht|ht
  · exact h t ht
  · simp at ht;subst ht;exact hU
theorem Bs.asg (b:Bs d I A Q U) {l r:Nat} (hS:d.S≠[]) (hl:2≤l∧l<2*(d.nv+1)) (h0:vl d.T l=0) (hr:r<d.nc) (hm:l∈(d.C r).lits) (hf:∀m∈(d.C r).lits,m≠l→ng m∈d.T) (hU:l / 2∈U):Bs (d.asg l (r:Int)) I A Q U :=
 by
  have e:fixd (d.T++[l]) d.S=fixd d.T d.S:=by
   cases h:d.S with
   | nil=>exact absurd h hS
   | cons s S=>rfl
  refine⟨b.ti.push hl h0 hr hm hf (fun e=>absurd e hS) (fun k _=>asg_V d.V l k),b.ci,b.uc,ut_push b.ut hU,b.dv,?_⟩
  show d.nc≤A+fixd (d.T++[l]) d.S
  rw[e];exact b.cn
theorem vrs_mem {L:List Nat} {l v:Nat}:v∈vrs L (l:Int)↔∃m∈L,m≠l∧m / 2=v:=by
 unfold vrs;constructor
 ·
  intro h;obtain⟨m,h1,h2⟩:=List.mem_map.1 h;obtain⟨h3,h4⟩:=List.mem_filter.1 h1;have h5:(m:Int)≠(l:Int):=by simpa using h4
  exact⟨m,h3,fun e=>h5 (by rw[e]),h2⟩
 ·
  rintro⟨m,h1,h2,h3⟩;have h5:(m:Int)≠(l:Int):=by omega
  exact List.mem_map.2 ⟨m,List.mem_filter.2 ⟨h1,by simpa using h5⟩,h3⟩
theorem vrs_nil {L:List Nat} {l:Nat} (hn:(L.map (· / 2)).Nodup) (hl:l∈L) (h:vrs L (l:Int)=[]):L=[l]:=by
 have key:∀m∈L,m=l:=fun m hm=>by
  by_cases e:m=l
  · exact e
  · have:m / 2∈vrs L (l:Int):=vrs_mem.2 ⟨m,hm,e,rfl⟩;rw[h]at this;cases this
 match L,hn,hl,key with
 | [m],_,_,key=>rw[key m (by simp)]
 | m::m'::L,hn,_,key =>
  exfalso
  have e1:=key m (by simp)
  have e2:=key m' (by simp)
  subst e1;rw[e2]at hn;simp at hn
theorem vrs_nd {L:List Nat} (l:Nat) (hn:(L.map (· / 2)).Nodup):(vrs L (l:Int)).Nodup:=by
 unfold vrs;exact List.Nodup.sublist (List.Sublist.map _ List.filter_sublist) hn
theorem fixd_nil {T:List Nat}:fixd T []=T.length:=rfl
theorem Bs.units (b:Bs d I A Q U) {l r:Nat} (hS:d.S=[]) (hf:∀m∈(d.C r).lits,m≠l→ng m∈d.T):∀v∈vrs (d.C r).lits (l:Int),∃t∈d.T,t / 2=v∧ng t∈(d.C r).lits∧∃u,u<d.nc∧(d.F v).unit=((u:Nat):Int)∧(d.C u).lits=[t]:=by
 intro v hv;obtain⟨m,h1,h2,h3⟩:=vrs_mem.1 hv;obtain⟨i,hi,ei⟩:=List.mem_iff_getElem.1 (hf m h1 h2);obtain⟨u,u1,u2,u3⟩:=b.ti.un i hi (by rw[hS];rfl)
 rw[ei]at u2 u3;rw[ng_var,h3]at u2;exact⟨ng m,hf m h1 h2,by rw[ng_var,h3],by rw[ng_ng];exact h1,u,u1,u2,u3⟩
theorem Bs.asg0 (b:Bs d I A Q U) {l r:Nat} (hS:d.S=[]) (hl:2≤l∧l<2*(d.nv+1)) (h0:vl d.T l=0) (hr:r<d.nc) (hm:l∈(d.C r).lits) (hf:∀m∈(d.C r).lits,m≠l→ng m∈d.T) (hU:l / 2∈U) (hv:vrs (d.C r).lits (l:Int)=[]):Bs (d.asg0 l r r) I A Q U:=by
 have e:=vrs_nil (b.ci.nd r hr) hm hv;refine { ti:=b.ti.push hl h0 hr hm hf (fun _=>⟨r,hr,rfl,e⟩) (fun k _=>asg_V d.V l k),ci:=b.ci,uc:=b.uc,ut:=ut_push b.ut hU,dv:=b.dv,cn:=?_ }
 have h9:=b.cn;show d.nc≤A+fixd (d.T++[l]) d.S
 rw[hS,fixd_nil]at h9 ⊢;simp;omega
theorem Bs.asg1 (b:Bs d I A Q U) {l r:Nat} {us:Nat→Nat} (hS:d.S=[]) (hl:2≤l∧l<2*(d.nv+1)) (h0:vl d.T l=0) (hr:r<d.nc) (hm:l∈(d.C r).lits) (hf:∀m∈(d.C r).lits,m≠l→ng m∈d.T) (hU:l / 2∈U) (hus:∀v∈vrs (d.C r).lits (l:Int),(d.F v).unit=(us v:Int)) :
  Bs ((d.asg0 l r d.nc).more (unitC l r (vrs (d.C r).lits (l:Int)) us)) I A Q U:=by
 have un:=b.units (l:=l) hS hf;obtain⟨x,hx⟩:∃x,unitC l r (vrs (d.C r).lits (l:Int)) us=x:=⟨_,rfl⟩;have xl:x.lits=[l]:=by rw[← hx]
 have Cr:upd d.C d.nc x r=d.C r:=upd_other _ _ (by omega)
 have fr:From d.C I d.nc x:=by
  rw[← hx];refine Or.inr ⟨rfl,r,rfl,hr,?_,?_,vrs (d.C r).lits (l:Int),vrs_nd l (b.ci.nd r hr),fun v hv=>?_,?_⟩
  rotate_right
  ·
   show (List.map _ _).length≤_
   rw[List.length_map];omega
  rotate_right
  · obtain⟨m,k1,k2,k3⟩:=vrs_mem.1 hv;exact⟨m,k1,k3⟩
  ·
   intro p hp;obtain⟨v,hv,rfl⟩:=List.mem_map.1 hp;obtain⟨t,-,-,-,u,u1,u2,-⟩:=un v hv;have:=hus v hv;show us v<d.nc
   omega
  ·
   refine (rsl_units d.T b.ti.nd us (vrs (d.C r).lits (l:Int)) (·∈(d.C r).lits) (vrs_nd l (b.ci.nd r hr)) ?_ ?_).congr (fun _=>Iff.rfl) (fun m=>?_) (fun _ _ _=>Iff.rfl)
   ·
    intro v hv;obtain⟨t,t1,t2,t3,u,u1,u2,u3⟩:=un v hv;have e:us v=u:=by have:=hus v hv;omega
    exact⟨t,t1,t2,by rw[e];exact u3,t3⟩
   ·
    intro m hm' hX;obtain⟨m',k1,k2,k3⟩:=vrs_mem.1 hX;have:m=m':=by
     have nd:=b.ci.nd r hr;exact nd_one nd hm' k1 k3.symm
    rw[this];exact hf m' k1 k2
   ·
    show m∈(d.C r).lits∧m / 2 ∉ vrs (d.C r).lits (l:Int)↔m∈[l]
    constructor
    ·
     rintro⟨h1,h2⟩;by_cases e:m=l
     · rw[e];simp
     · exact absurd (vrs_mem.2 ⟨m,h1,e,rfl⟩) h2
    ·
     intro h1;simp at h1;subst h1;refine⟨hm,fun h2=>?_⟩
     obtain⟨m',k1,k2,k3⟩:=vrs_mem.1 h2;exact k2 (nd_one (b.ci.nd r hr) k1 hm k3)
 rw[hx];refine { ti:=?_,ci:=?_,uc:=?_,ut:=ut_push b.ut hU,dv:=b.dv.more fr,cn:=?_ }
 · exact (b.ti.grow x).push hl h0 (Nat.lt_succ_of_lt hr) (by rw[Cr];exact hm) (fun m h1 h2=>hf m (by rw[Cr]at h1;exact h1) h2) (fun _=>⟨d.nc,Nat.lt_succ_self _,rfl,by rw[upd_same,xl]⟩) (fun k _=>asg_V d.V l k)
 · exact b.ci.grow (fun m h1=>by rw[xl]at h1;simp at h1;subst h1;exact hl) (by rw[xl];simp)
 ·
  intro c h1 h2 m h3;by_cases e:c=d.nc
  · subst e;have h3':m∈(upd d.C d.nc x d.nc).lits:=h3;rw[upd_same,xl]at h3';simp at h3';subst h3';exact hU
  · have h3':m∈(upd d.C d.nc x c).lits:=h3;rw[upd_other _ _ e]at h3';have h1':c<d.nc+1:=h1;exact b.uc c (by omega) h2 m h3'
 ·
  have h9:=b.cn;show d.nc+1≤A+fixd (d.T++[l]) d.S
  rw[hS,fixd_nil]at h9 ⊢;simp;omega
end
end Sat
namespace Sat
section
variable {nv nc:Nat} {P:Nat→Prop} {T S:List Nat} {C:Nat→Cl} {W:Nat→List (Nat × Nat)} {h gone:Nat} {K R:List (Nat × Nat)}
theorem VS.other {p:Nat × Nat} {x:Nat} (v:VS nv nc P T S C W h gone K (p::R)) (hx:x∈(C p.1).lits):VS nv nc P T S C W h gone K ((p.1,x)::R):=by
 have ms:∀l,((upd W gone (K++(p.1,x)::R)) l).map Prod.fst=((upd W gone (K++p::R)) l).map Prod.fst:=by
  intro l;by_cases e:l=gone
  · subst e;simp[upd_same]
  · rw[upd_other _ _ e,upd_other _ _ e]
 refine { wi:=⟨?_,?_⟩,d1:=v.d1,d2:=v.d2,he:=?_,fr:=v.fr }
 ·
  intro l hl q hq;by_cases e:l=gone
  ·
   subst e;rw[upd_same]at hq;simp only[List.mem_append,List.mem_cons]at hq;have key:=fun q hq=>v.wi.w1 l hl q (by rw[upd_same];exact hq)
   rcases hq with hq|rfl|hq
   · exact key q (by simp[hq])
   ·
    obtain⟨h1,h2,h3⟩:=key p (by simp)
    exact⟨h1,h2,hx⟩
   · exact key q (by simp[hq])
  · rw[upd_other _ _ e]at hq;exact v.wi.w1 l hl q (by rw[upd_other _ _ e];exact hq)
 · intro l hl;rw[ms];exact v.wi.w2 l hl
 · intro c hc;exact (v.he c hc).lists (fun l hl=>by rw[ms];exact hl)
theorem VS.wl (v:VS nv nc P T S C W h gone K R) (L:List (Nat × Nat)):VS nv nc P T S C (upd W gone L) h gone K R :=
 { wi:=by rw[upd_upd];exact v.wi,d1:=fun l hl hg p hp=>v.d1 l hl hg p (by rw[upd_other _ _ hg]at hp;exact hp),d2:=v.d2,he:=fun c hc=>by rw[upd_upd];exact v.he c hc,fr:=v.fr }
theorem done_at (nd:(T.map (· / 2)).Nodup) (th:T[h]?=some (ng gone)) (hs:∀s∈S,s≤h) {p:Nat × Nat} {o:Nat} (ho:o∈(C p.1).lits) (hT:o∈T):Done T S C (h+1) gone p:=by
 intro i hi he;obtain⟨h1,e1⟩:=List.getElem?_eq_some_iff.1 th;obtain⟨h2,e2⟩:=List.getElem?_eq_some_iff.1 he;have:i=h:=nd_inj nd h2 h1 (by rw[e1,e2])
 subst this;obtain⟨j,hj,e3⟩:=List.mem_iff_getElem.1 hT;exact⟨j,o,ho,by rw[List.getElem?_eq_getElem hj,e3],by rw[lvl_full hs];exact lvl_le S j⟩
end
structure VI (d:Dt) (I:List (List Nat)) (A:Nat) (U:List Nat) (h gone:Nat) (K R:List (Nat × Nat)):Prop where
  bs:Bs d I A [] U
  vs:VS d.nv d.nc (fun c=>c<d.nc∧c ∉ ([]:List Nat)) d.T d.S d.C d.W (h+1) gone K R
  th:d.T[h]?=some (ng gone)
  hs:∀s∈d.S,s≤h
section
variable {d:Dt} {I:List (List Nat)} {A:Nat} {U:List Nat} {h gone:Nat} {K R:List (Nat × Nat)}
theorem VI.hl (v:VI d I A U h gone K R):h+1≤d.T.length:=(List.getElem?_eq_some_iff.1 v.th).1
theorem VI.go (v:VI d I A U h gone K R):2≤gone∧gone<2*(d.nv+1):=by
 have h9:=v.bs.ti.ok _ (List.mem_of_getElem? v.th);have h8:=ng_lt h9.2;have h7:=ng_ge h9.1;rw[ng_ng]at h8 h7;exact⟨h7,h8⟩
theorem VI.wl (v:VI d I A U h gone K R) (L:List (Nat × Nat)):VI (d.wl gone L) I A U h gone K R:=⟨v.bs.wl _ _,v.vs.wl L,v.th,v.hs⟩
theorem VI.head {p:Nat × Nat} (v:VI d I A U h gone K (p::R)):p.1<d.nc∧(∃x r,(d.C p.1).lits=x::gone::r∨(d.C p.1).lits=gone::x::r)∧p.2∈(d.C p.1).lits:=by
 obtain⟨h1,⟨a,b,⟨r,e⟩,h2⟩,h3⟩:=v.vs.wi.w1 gone v.go.2 p (by rw[upd_same];simp)
 refine⟨h1,?_,h3⟩;rcases h2 with rfl|rfl
 · exact⟨b,r,Or.inr e⟩
 · exact⟨a,r,Or.inl e⟩
theorem VI.true_ {p:Nat × Nat} {x:Nat} (v:VI d I A U h gone K (p::R)) (hx:x∈(d.C p.1).lits) (hT:x∈d.T):VI d I A U h gone (K++[(p.1,x)]) R :=
  ⟨v.bs,v.vs.keep v.go.2 hx (done_at v.bs.ti.nd v.th v.hs hx hT),v.th,v.hs⟩
theorem VI.swap (v:VI d I A U h gone K R) {k a b:Nat} {r:List Nat} (e:(d.C k).lits=a::b::r):VI (d.lits k (b::a::r)) I A U h gone K R :=
  ⟨v.bs.perm (by rw[e];exact List.Perm.swap a b r),v.vs.swap e,v.th,v.hs⟩
theorem VI.move {p:Nat × Nat} {x i:Nat} {r:List Nat} (v:VI d I A U h gone K (p::R)) (e:(d.C p.1).lits=x::gone::r) (hi:i<r.length) (hf:ng r[i] ∉ d.T) :
    VI ((d.lits p.1 (x::r[i]::r.set i gone)).wl r[i] (d.W r[i]++[(p.1,x)])) I A U h gone K R :=
  ⟨(v.bs.perm (by rw[e];exact perm_move x gone r i hi)).wl _ _,v.vs.move v.bs.ci v.go.2 e hi hf,v.th,v.hs⟩
theorem VI.th_push (v:VI d I A U h gone K R) (x:Nat):(d.T++[x])[h]?=some (ng gone):=by
 rw[List.getElem?_append_left (by have:=v.hl;omega)];exact v.th
theorem VI.asg {p:Nat × Nat} {x:Nat} (v:VI d I A U h gone K (p::R)) (hS:d.S≠[]) (hx:x∈(d.C p.1).lits) (h0:vl d.T x=0) (hf:∀m∈(d.C p.1).lits,m≠x→ng m∈d.T):VI (d.asg x (p.1:Nat)) I A U h gone (K++[(p.1,x)]) R:=by
 obtain⟨h1,-,-⟩:=v.head;have b:=v.bs.asg hS (v.bs.ci.ok _ h1 x hx) h0 h1 hx hf (v.bs.uc _ h1 (by simp) x hx)
 have vs1:=v.vs.push (x:=x) v.hl (fun s hs=>by have:=v.hs s hs;have:=v.hl;omega)
 exact⟨b,vs1.keep v.go.2 hx (done_at b.ti.nd (v.th_push x) v.hs hx (by simp)),v.th_push x,v.hs⟩
theorem VI.asg0 {p:Nat × Nat} {x:Nat} (v:VI d I A U h gone K (p::R)) (hS:d.S=[]) (hx:x∈(d.C p.1).lits) (h0:vl d.T x=0) (hf:∀m∈(d.C p.1).lits,m≠x→ng m∈d.T) (hv:vrs (d.C p.1).lits (x:Int)=[]):VI (d.asg0 x p.1 p.1) I A U h gone (K++[(p.1,x)]) R:=by
 obtain⟨h1,-,-⟩:=v.head;have b:=v.bs.asg0 hS (v.bs.ci.ok _ h1 x hx) h0 h1 hx hf (v.bs.uc _ h1 (by simp) x hx) hv
 have vs1:=v.vs.push (x:=x) v.hl (fun s hs=>by have:=v.hs s hs;have:=v.hl;omega)
 exact⟨b,vs1.keep v.go.2 hx (done_at b.ti.nd (v.th_push x) v.hs hx (by simp)),v.th_push x,v.hs⟩
theorem VI.asg1 {p:Nat × Nat} {x:Nat} {us:Nat→Nat} (v:VI d I A U h gone K (p::R)) (hS:d.S=[]) (hx:x∈(d.C p.1).lits) (h0:vl d.T x=0) (hf:∀m∈(d.C p.1).lits,m≠x→ng m∈d.T) (hus:∀v∈vrs (d.C p.1).lits (x:Int),(d.F v).unit=(us v:Int)) :
  VI ((d.asg0 x p.1 d.nc).more (unitC x p.1 (vrs (d.C p.1).lits (x:Int)) us)) I A U h gone (K++[(p.1,x)]) R:=by
 obtain⟨h1,-,-⟩:=v.head;have b:=v.bs.asg1 (us:=us) hS (v.bs.ci.ok _ h1 x hx) h0 h1 hx hf (v.bs.uc _ h1 (by simp) x hx) hus
 have vs1:=v.vs.push (x:=x) v.hl (fun s hs=>by have:=v.hs s hs;have:=v.hl;omega)
 have vs2:=vs1.keep v.go.2 hx (done_at (C:=d.C) b.ti.nd (v.th_push x) v.hs hx (by simp))
 have vs3:=vs2.grow v.go.2 (x:=unitC x p.1 (vrs (d.C p.1).lits (x:Int)) us) (l:=x) rfl ⟨d.T.length,by simp,by rw[hS];rfl⟩ hS
 exact⟨b,vs3,v.th_push x,v.hs⟩
theorem VI.end_ (v:VI d I A U h gone K []):Bs (d.wl gone K) I A [] U∧SI d.nv d.V d.T d.S d.F d.nc d.C (upd d.W gone K) (h+1) [] U :=
  ⟨v.bs.wl _ _,v.vs.end_ v.bs.ti v.bs.ci v.hl (fun s hs=>by have:=v.hs s hs;omega) v.bs.uc v.bs.ut⟩
theorem VI.stop {p:Nat × Nat} {x:Nat} (v:VI d I A U h gone K (p::R)) (hx:x∈(d.C p.1).lits):Bs (d.wl gone (K++(p.1,x)::R)) I A [] U∧SI d.nv d.V d.T d.S d.F d.nc d.C (upd d.W gone (K++(p.1,x)::R)) h [] U :=
  ⟨v.bs.wl _ _,(v.vs.other hx).stop v.bs.ti v.bs.ci v.th (by have:=v.hl;omega) v.hs v.bs.uc v.bs.ut⟩
theorem CI.len {nv nc:Nat} {C:Nat→Cl} (ci:CI nv nc C) {c:Nat} (hc:c<nc):(C c).lits.length≤nv+1:=by
 have h9:=nodup_le (nv+1) ((C c).lits.map (· / 2)) (ci.nd c hc) (fun v hv=>by
  obtain⟨m,hm,rfl⟩:=List.mem_map.1 hv;have:=(ci.ok c hc m hm).2;omega)
 rwa [List.length_map]at h9
theorem TI.len {nv:Nat} {V:Nat→Int} {T S:List Nat} {F:Nat→Fc} {nc:Nat} {C:Nat→Cl} (t:TI nv V T S F nc C):T.length≤nv+1:=by
 have h9:=nodup_le (nv+1) (T.map (· / 2)) t.nd (fun v hv=>by
  obtain⟨m,hm,rfl⟩:=List.mem_map.1 hv;have:=(t.ok m hm).2;omega)
 rwa [List.length_map]at h9
theorem TI.lenS {nv:Nat} {V:Nat→Int} {T S:List Nat} {F:Nat→Fc} {nc:Nat} {C:Nat→Cl} (t:TI nv V T S F nc C):S.length≤nv+1:=by
 have h9:=nodup_le T.length S (t.up.imp (fun h=>Nat.ne_of_lt h)) t.st
 have:=t.len;omega
theorem Bs.num (b:Bs d I A [] U):d.nc≤A+d.nv+1:=by
 have h9:=b.cn;have h8:=b.ti.len;have:fixd d.T d.S≤d.T.length:=by
  unfold fixd;cases h:d.S with
  | nil=>exact Nat.le_refl _
  | cons s S=>exact Nat.le_of_lt (b.ti.st s (by rw[h];simp))
 omega
theorem WI.len {nv nc:Nat} {C:Nat→Cl} {W:Nat→List (Nat × Nat)} (wi:WI nv nc C W) {l:Nat} (hl:l<2*(nv+1)):(W l).length≤nc:=by
 have h9:=nodup_le nc ((W l).map Prod.fst) (wi.w2 l hl) (fun c hc=>by
  obtain⟨p,hp,rfl⟩:=List.mem_map.1 hc;exact (wi.w1 l hl p hp).1)
 rwa [List.length_map]at h9
end
structure Sm (d0 d:Dt):Prop where
  eq:d={ d0 with nc:=d.nc,C:=d.C,V:=d.V,W:=d.W,F:=d.F,T:=d.T }
  pre:∃Y,d.T=d0.T++Y
  mr:∀v,(d.F v).mark=(d0.F v).mark
  le:d0.nc≤d.nc
  ol:∀c,c<d0.nc→∀m,m∈(d.C c).lits↔m∈(d0.C c).lits
theorem Sm.refl (d:Dt):Sm d d:=⟨rfl,⟨[],by simp⟩,fun _=>rfl,Nat.le_refl _,fun _ _ _=>Iff.rfl⟩
theorem Sm.trans {d0 d1 d2:Dt} (h:Sm d0 d1) (k:Sm d1 d2):Sm d0 d2:=by
 refine⟨?_,?_,fun v=>(k.mr v).trans (h.mr v),Nat.le_trans h.le k.le,fun c hc m=>(k.ol c (Nat.lt_of_lt_of_le hc h.le) m).trans (h.ol c hc m)⟩
 · rw[k.eq,h.eq]
 · obtain⟨Y,e⟩:=h.pre;obtain⟨Z,e2⟩:=k.pre;exact⟨Y++Z,by rw[e2,e,List.append_assoc]⟩
theorem Sm.wl (d:Dt) (l:Nat) (L:List (Nat × Nat)):Sm d (d.wl l L):=⟨rfl,⟨[],by simp⟩,fun _=>rfl,Nat.le_refl _,fun _ _ _=>Iff.rfl⟩
theorem Sm.lits (d:Dt) (c:Nat) (L:List Nat) (hL:∀m,m∈L↔m∈(d.C c).lits):Sm d (d.lits c L):=⟨rfl,⟨[],by simp⟩,fun _=>rfl,Nat.le_refl _,fun i _ m=>by
  show m∈(upd d.C c _ i).lits↔_
  by_cases e:i=c
  · subst e;rw[upd_same];exact hL m
  · rw[upd_other _ _ e]⟩
theorem Sm.asg (d:Dt) (l:Nat) (z:Int):Sm d (d.asg l z):=⟨rfl,⟨[l],rfl⟩,fun v=>by
  show (upd d.F (l / 2) _ v).mark=_
  by_cases e:v=l / 2
  · subst e;rw[upd_same]
  · rw[upd_other _ _ e],Nat.le_refl _,fun _ _ _=>Iff.rfl⟩
theorem Sm.asg0 (d:Dt) (l r u:Nat):Sm d (d.asg0 l r u):=⟨rfl,⟨[l],rfl⟩,fun v=>by
  show (upd d.F (l / 2) _ v).mark=_
  by_cases e:v=l / 2
  · subst e;rw[upd_same]
  · rw[upd_other _ _ e],Nat.le_refl _,fun _ _ _=>Iff.rfl⟩
theorem Sm.more (d:Dt) (x:Cl):Sm d (d.more x):=⟨rfl,⟨[],by simp⟩,fun _=>rfl,Nat.le_succ _,fun i hi m=>by
  show m∈(upd d.C d.nc x i).lits↔_
  rw[upd_other _ _ (by omega)]⟩
theorem Sm.nv {d0 d:Dt} (h:Sm d0 d):d.nv=d0.nv:=by rw[h.eq]
theorem Sm.S {d0 d:Dt} (h:Sm d0 d):d.S=d0.S:=by rw[h.eq]
end Sat
namespace Sat
open Euf (OL App)
theorem run_copy_sz {P:Program} (w:World) (dT sT ty elem:TypeId) (sz g o dLen dCap:Nat) (a:Addr) (sLen sCap n:Nat) (cur:Array Value) (t:TypeId) (cs:List Value)
  (hu:P.underlying dT=some (.slice elem)) (hs:(P.info? elem).map (·.size)=some sz)
  (hg:w.heap[g]?=some (.cells cur t (0,0))) (hn:n=Nat.min sLen dLen) (hcs:cs.length=n*sz)
  (hsrc:∀j v,cs[j]?=some v→w.cell? (a.add j)=some v) (hfit:o+cs.length≤cur.size) (h1:∀v∈cs,v.oneCell'=true) :
  (Builtin.copy_ #[dT,sT] ty #[.slice (some ⟨g,o,none⟩) dLen dCap,.slice (some a) sLen sCap]).run P w =
   .ok (goInt n) (w.setRow g (cur.toList.take o++cs++cur.toList.drop (o+cs.length)).toArray):=by
 have hl:=run_loadCells_list (P:=P) w a cs hsrc;have hst:=run_storeCells_at P g o t cs 0 cur w hg (by simpa using hfit) h1
 cases hq:P.info? elem with
 | none=>simp[hq]at hs
 | some i =>
  have hi:i.size=sz:=by simpa [hq] using hs
  rw[hcs]at hl;simp[Builtin.copy_,run_underlying hu,Builtin.lenOf,Builtin.firstCells,sizeOf,typeInfo,hq,hi,← hn,hl,hst]
theorem run_copy_zero {P:Program} (w:World) (dT sT ty elem:TypeId) (sz:Nat) (dp sp:Option Addr) (dLen dCap sLen sCap:Nat) (hu:P.underlying dT=some (.slice elem)) (hs:(P.info? elem).map (·.size)=some sz) (hn:Nat.min sLen dLen=0) :
  (Builtin.copy_ #[dT,sT] ty #[.slice dp dLen dCap,.slice sp sLen sCap]).run P w=.ok (goInt 0) w:=by
 cases hq:P.info? elem with
 | none=>simp[hq]at hs
 | some i =>
  cases dp<;>cases sp<;>simp[Builtin.copy_,run_underlying hu,Builtin.lenOf,Builtin.firstCells,sizeOf,typeInfo,hq,hn,loadCells,loadCellsFrom,storeCells]
theorem step_copy_sz {P:Program} {ops:Array Oper} {o:Oper} {a:Act} {w:World} {K:Act→World→Prop} {Q:Exit→Act→World→Prop} {E:Prop} (hgd:o.guard=none) (d s:Operand) (dT sT:TypeId)
  (ho:o.op=.call { callee:=.builtin .copy,args:=#[d,s],argTypes:=#[dT,sT] }) (elem:TypeId) (sz:Nat) (hu:P.underlying dT=some (.slice elem)) (hsz:(P.info? elem).map (·.size)=some sz)
  (dp sp:Option Addr) (dLen dCap sLen sCap:Nat) (hd:a.eval d=.slice dp dLen dCap) (hs:a.eval s=.slice sp sLen sCap)
  (g off:Nat) (cur:Array Value) (t:TypeId) (hg:w.heap[g]?=some (.cells cur t (0,0))) (n:Nat) (hn:n=Nat.min sLen dLen) (cs:List Value) (hcs:cs.length=n*sz)
  (hpos:0<n→dp=some ⟨g,off,none⟩∧∃ad,sp=some ad∧∀j v,cs[j]?=some v→w.cell? (ad.add j)=some v)
  (hfit:off+cs.length≤cur.size) (h1:∀v∈cs,v.oneCell'=true) (w':World) (hw':w.setRow g (cur.toList.take off++cs++cur.toList.drop (off+cs.length)).toArray=w')
  (h:K (a.put o.dst (goInt n)) w') :
  if Region.wanted o (yielded ops a.tmps)=true then Oper.wp P o a w K Q else E:=by
 have hw:Region.wanted o (yielded ops a.tmps)=true:=by simp[Region.wanted,hgd]
 rw[if_pos hw];by_cases h0:n=0
 ·
  subst h0;obtain rfl:cs=[]:=List.eq_nil_of_length_eq_zero (by omega)
  have e:w'=w:=by rw[← hw'];simp[setRow_self w g cur t (0,0) hg]
  subst e;have hrun:=run_copy_zero (P:=P) w' dT sT o.type elem sz dp sp dLen dCap sLen sCap hu hsz hn.symm;unfold Oper.wp;simp[execOp,ho,resolve,invoke,builtin,hd,hs,hrun,Result.andThen];exact h
 ·
  obtain⟨rfl,ad,rfl,hsrc⟩:=hpos (by omega)
  have hrun:=run_copy_sz (P:=P) w dT sT o.type elem sz g off dLen dCap ad sLen sCap n cur t cs hu hsz hg hn hcs hsrc hfit h1;rw[hw']at hrun;unfold Oper.wp;simp[execOp,ho,resolve,invoke,builtin,hd,hs,hrun,Result.andThen];exact h
def cpy {α:Type} (L:List α) (t f m:Nat):List α:=L.take t++(L.drop f).take m++L.drop (t+m)
theorem cpy_len {α:Type} (L:List α) {t f m:Nat} (h1:t+m≤L.length) (h2:f+m≤L.length):(cpy L t f m).length=L.length:=by simp[cpy];omega
theorem cpy_get {α:Type} (L:List α) {t f m:Nat} (h1:t+m≤L.length) (h2:f+m≤L.length) (q:Nat):(cpy L t f m)[q]?=if t≤q∧q<t+m then L[f+(q - t)]? else L[q]?:=by
 unfold cpy;have e1:(L.take t).length=t:=by rw[List.length_take];omega
 have e2:((L.drop f).take m).length=m:=by rw[List.length_take,List.length_drop];omega
 by_cases h3:q<t
 · rw[if_neg (by omega),List.append_assoc,List.getElem?_append_left (by omega),List.getElem?_take,if_pos h3]
 ·
  rw[List.append_assoc,List.getElem?_append_right (by omega),e1]
  by_cases h4:q<t+m
  · rw[if_pos ⟨by omega,h4⟩,List.getElem?_append_left (by omega),List.getElem?_take,if_pos (by omega),List.getElem?_drop]
  ·
   rw[if_neg (by omega),List.getElem?_append_right (by omega),e2,List.getElem?_drop]
   congr 1;omega
theorem cpy_take {α:Type} (K X R:List α):(cpy (K++X++R) K.length (K++X).length R.length).take (K++R).length=K++R:=by
 apply List.ext_getElem?
 intro q;rw[List.getElem?_take];by_cases h:q<(K++R).length
 ·
  rw[if_pos h,cpy_get _ (by simp only[List.length_append];omega) (by simp only[List.length_append];omega)]
  rw[List.length_append]at h;by_cases h2:q<K.length
  · rw[if_neg (by omega),List.append_assoc,List.getElem?_append_left h2,List.getElem?_append_left h2]
  ·
   rw[if_pos ⟨by omega,h⟩,List.getElem?_append_right (by omega),List.getElem?_append_right (by omega)]
   congr 1;omega
 · rw[if_neg h,List.getElem?_eq_none (by omega)]
section
variable {w w' w1:World} {g:Nat} {d:Dt} {a:Key→Value}
theorem prC_get (L:List (Nat × Nat)) {L':List (Nat × Nat)} {i j:Nat} (h:L[i]?=L'[j]?):prC L i=prC L' j:=by unfold prC;rw[List.getD_eq_getElem?_getD,List.getD_eq_getElem?_getD,h]
theorem add_off (b o j:Nat):(⟨b,o,none⟩:Addr).add j=⟨b,o+j,none⟩:=by unfold Addr.add;split<;>simp_all
theorem SW.copyW (h:SW w g d a) {l b cap t f m:Nat} (hl:l<2*(d.nv+1)) (hv:a (kWl l)=.slice (some ⟨b,0,none⟩) (d.W l).length cap) (h1:t+m≤(d.W l).length) (h2:f+m≤(d.W l).length) :
  ∃(cur:Array Value) (cs:List Value) (w':World),w.heap[b]?=some (.cells cur 133 (0,0))∧cs.length=m*2∧(∀j v,cs[j]?=some v→w.cell? ((⟨b,f*2,none⟩:Addr).add j)=some v)∧(∀v∈cs,v.oneCell'=true)∧t*2+cs.length≤cur.size ∧
   w.setRow b (cur.toList.take (t*2)++cs++cur.toList.drop (t*2+cs.length)).toArray=w'∧SW w' g (d.wl l (cpy (d.W l) t f m)) a∧Mo g d a w (d.wl l (cpy (d.W l) t f m)) a w':=by
 have h0:OL 2 133 w (a (kWl l)) (d.W l).length (prC (d.W l)):=h.ol (k:=kWl l) hl;have hb:(a (kWl l)).ownBlock=some b:=by rw[hv];rfl
 rcases h0 with⟨e,-⟩|⟨b',cap',cur,e,hg,hc1,hc2,hsz,hf⟩
 · rw[hv]at e;cases e
 rw[hv]at e;simp only[Value.slice.injEq,Option.some.injEq,Addr.mk.injEq]at e;obtain⟨⟨rfl,-,-⟩,-,rfl⟩:=e;have hcl:cur.toList.length=cap*2:=by simpa using hsz
 obtain⟨cs,hcs⟩:∃cs,cs=(cur.toList.drop (f*2)).take (m*2):=⟨_,rfl⟩;have hl1:cs.length=m*2:=by rw[hcs,List.length_take,List.length_drop];omega
 have hget:∀j,j<m*2→cs[j]?=cur[f*2+j]?:=fun j hj=>by rw[hcs,List.getElem?_take,if_pos hj,List.getElem?_drop];simp
 have hcell:∀q,w.cell? ⟨b,q,none⟩=cur[q]?:=fun q=>cell_of_row w b q _ _ (0,0) hg
 have hfix:∀j,j<m*2→cur[f*2+j]?=(prC (d.W l) (f+j / 2))[j % 2]?:=fun j hj=>by
  rw[← hf (f+j / 2) (by omega) (j % 2) (by omega)]
  congr 1;omega
 have eqW:cur.toList.take (t*2)++cs++cur.toList.drop (t*2+cs.length)=cpy cur.toList (t*2) (f*2) (m*2):=by unfold cpy;rw[hl1,hcs]
 refine⟨cur,cs,_,hg,hl1,?_,?_,by rw[hl1,hsz];omega,rfl,?_⟩
 ·
  intro j v hj;have hj2:j<m*2:=by rw[← hl1];exact (List.getElem?_eq_some_iff.1 hj).1
  rw[add_off,hcell,← hget j hj2];exact hj
 ·
  intro v hv';obtain⟨j,hj,rfl⟩:=List.mem_iff_getElem.1 hv';have hj2:j<m*2:=by rw[← hl1];exact hj
  have e1:cs[j]?=some cs[j]:=List.getElem?_eq_getElem hj;rw[hget j hj2,hfix j hj2]at e1;have e2:j % 2=0∨j % 2=1:=by omega
  rcases e2 with e2|e2<;>rw[e2]at e1<;>simp only[prC,List.getElem?_cons_zero,List.getElem?_cons_succ,Option.some.injEq]at e1<;>rw[← e1]<;>rfl
 ·
  rw[eqW];have oth:∀q,q≠b→(w.setRow b (cpy cur.toList (t*2) (f*2) (m*2)).toArray).heap[q]?=w.heap[q]?:=fun q hq=>setRow_other w b q _ hq
  have ol2:OL 2 133 (w.setRow b (cpy cur.toList (t*2) (f*2) (m*2)).toArray) (a (kWl l)) (cpy (d.W l) t f m).length (prC (cpy (d.W l) t f m)):=by
   refine Or.inr ⟨b,cap,(cpy cur.toList (t*2) (f*2) (m*2)).toArray,by rw[hv,cpy_len _ h1 h2],setRow_heap w b cur _ _ _ hg,by rw[cpy_len _ h1 h2];exact hc1,hc2,?_,?_⟩
   · simp only[List.size_toArray];rw[cpy_len _ (by omega) (by omega),hcl]
   ·
    intro i hi j hj;rw[cpy_len _ h1 h2]at hi;have hc3:((cpy cur.toList (t*2) (f*2) (m*2)).toArray)[i*2+j]?=(cpy cur.toList (t*2) (f*2) (m*2))[i*2+j]?:=by simp
    rw[hc3,cpy_get _ (by omega) (by omega)]
    by_cases hr:t≤i∧i<t+m
    ·
     rw[if_pos (by omega),prC_get (L':=d.W l) (j:=f+(i - t)) _ (by rw[cpy_get _ h1 h2,if_pos hr]),← hf (f+(i - t)) (by omega) j hj]
     simp only[Array.getElem?_toList];congr 1;omega
    ·
     rw[if_neg (by omega),prC_get (L':=d.W l) (j:=i) _ (by rw[cpy_get _ h1 h2,if_neg hr]),← hf i hi j hj]
     simp only[Array.getElem?_toList]
  refine⟨⟨?_,?_⟩,⟨⟨rfl,rfl,rfl,by simp[World.setRow],fun q hq hn=>oth q (fun e=>hn (Or.inr ⟨kWl l,hl,by rw[hb,e]⟩))⟩,fun b hb=>Or.inl hb,fun _ _=>rfl,Nat.le_refl _⟩⟩
  · rw[oth g (fun e=>h.ne (k:=kWl l) hl (by rw[hb,e]))];exact h.blk
  ·
   refine h.rw_.upd (kWl l) (fun j hj=>Or.inl hj) (rows_W d a l _) (fun _=>?_) (fun b' hb'=>Or.inl ⟨hl,hb'⟩) (fun j b' hj _ hne hb'=>?_)
   ·
    show OL 2 133 _ (a (kWl l)) (upd d.W l _ l).length (prC (upd d.W l _ l))
    rw[upd_same];exact ol2
   · rw[rows_v]at hb';exact oth b' (fun e=>h.apart (k:=kWl l) hj hl hne hb' (by rw[hb,e]))
end
end Sat
namespace Sat
open Euf (OL App)
section
variable {w:World} {g:Nat} {d:Dt} {a:Key→Value}
theorem SW.cutW (h:SW w g d a) {l cap k n bW cW:Nat} {q:Option Addr} (hl:l<2*(d.nv+1)) (hW:a kWat=.slice (some ⟨bW,0,none⟩) (2*(d.nv+1)) cW) (hv:a (kWl l)=.slice q n cap) (hn:n=(d.W l).length) (hk:k≤n) :
  SW (w.setCell ⟨bW,l,none⟩ (.slice q k cap)) g (d.wl l ((d.W l).take k)) (updK a (kWl l) (.slice q k cap))∧Mo g d a w (d.wl l ((d.W l).take k)) (updK a (kWl l) (.slice q k cap)) (w.setCell ⟨bW,l,none⟩ (.slice q k cap)):=by
 have h0:OL 2 133 w (a (kWl l)) (d.W l).length (prC (d.W l)):=h.ol (k:=kWl l) hl;refine h.putW hl hW (Mv.refl _ w) (fun b hb=>Or.inl (by rw[hv];cases q<;>exact hb)) ?_
 rw[List.length_take,Nat.min_eq_left (by omega)]
 rcases h0 with⟨e,e0⟩|⟨b,cap',cur,e,-⟩
 ·
  rw[hv]at e;simp only[Value.slice.injEq]at e;obtain⟨rfl,-,rfl⟩:=e;obtain rfl:k=0:=by omega
  exact Euf.OL.nil _ _ _ _
 · have h1:OL 2 133 w (a (kWl l)) (d.W l).length (prC (d.W l)):=h.ol (k:=kWl l) hl;have e2:=e;rw[hv]at e2;simp only[Value.slice.injEq]at e2;obtain⟨rfl,-,rfl⟩:=e2;rw[e]at h1;exact (h1.take k (by omega)).congr (fun i hi=>prC_get _ (by rw[List.getElem?_take,if_pos hi]))
end
def VsEnd (g:Nat) (d0:Dt) (a0:Key→Value) (I:List (List Nat)) (A:Nat) (U:List Nat) (h:Nat) (w:World) (e:Ending) (w':World):Prop :=
  ∃d a,SW w' g d a∧Mo g d0 a0 w d a w'∧Sm d0 d∧Bs d I A [] U∧((e=.returned (.int .i64 (-1))∧SI d.nv d.V d.T d.S d.F d.nc d.C d.W (h+1) [] U) ∨
    ∃c:Nat,e=.returned (.int .i64 (c:Nat))∧c<d.nc∧(∀m∈(d.C c).lits,ng m∈d.T)∧SI d.nv d.V d.T d.S d.F d.nc d.C d.W h [] U)
structure LI (g:Nat) (d0:Dt) (a0:Key→Value) (I:List (List Nat)) (A:Nat) (U:List Nat) (h gone:Nat) (w:World) (q:Option Addr) (n cap i k:Nat) (d:Dt) (a:Key→Value) (K X R:List (Nat × Nat)) (wr:World):Prop where
  sw:SW wr g d a
  mo:Mo g d0 a0 w d a wr
  sm:Sm d0 d
  vi:VI d I A U h gone K R
  wg:d.W gone=K++X++R
  kl:K.length=k
  xl:k+X.length=i
  le:(d.W gone).length=n
  av:a (kWl gone)=.slice q n cap
section
variable {g:Nat} {d0:Dt} {a0:Key→Value} {I:List (List Nat)} {A:Nat} {U:List Nat} {h gone:Nat} {w:World} {q:Option Addr} {n cap i k:Nat} {d:Dt} {a:Key→Value} {K X R:List (Nat × Nat)} {wr wr':World}
theorem LI.below (L:LI g d0 a0 I A U h gone w q n cap i k d a K X R wr) (hb:Below wr.heap.size wr wr'):LI g d0 a0 I A U h gone w q n cap i k d a K X R wr':={ L with sw:=L.sw.below hb,mo:=L.mo.below hb }
theorem LI.drewN (L:LI g d0 a0 I A U h gone w q n cap i k d a K X R wr) (m:Nat):LI g d0 a0 I A U h gone w q n cap i k d a K X R (wr.drewN m):={ L with sw:=L.sw.drewN m,mo:=L.mo.drewN m }
theorem LI.fin (L:LI g d0 a0 I A U h gone w q n cap n k d a K X R wr) {bW cW:Nat} (hW:a kWat=.slice (some ⟨bW,0,none⟩) (2*(d.nv+1)) cW):VsEnd g d0 a0 I A U h w (.returned (.int .i64 (-1))) (wr.setCell ⟨bW,gone,none⟩ (.slice q k cap)):=by
 have hk:=L.kl;have hx:=L.xl;have hl:=L.le;have hw:=L.wg;have hR:R=[]:=by
  rw[hw,List.length_append,List.length_append]at hl;exact List.eq_nil_of_length_eq_zero (by omega)
 subst hR;obtain⟨s,m⟩:=L.sw.cutW (k:=k) L.vi.go.2 hW L.av hl.symm (by omega)
 have e:(d.W gone).take k=K:=by rw[hw,← hk];simp
 rw[e]at s m;obtain⟨b,si⟩:=L.vi.end_;exact⟨_,_,s,L.mo.trans m,L.sm.trans (Sm.wl _ _ _),b,Or.inl ⟨rfl,si⟩⟩
theorem set_gap (K X R:List (Nat × Nat)) (p p':Nat × Nat):∃X',(K++X++p::R).set K.length p'=(K++[p'])++X'++R∧X'.length=X.length:=by
 cases X with
 | nil=>exact⟨[],by simp,rfl⟩
 | cons x X=>exact⟨X++[p],by simp,by simp⟩
theorem LI.setk {c o x b:Nat} (L:LI g d0 a0 I A U h gone w (some ⟨b,0,none⟩) n cap i k d a K X ((c,o)::R) wr) :
  SW ((wr.setCell ⟨b,k*2,none⟩ (.int .i32 (c:Nat))).setCell ⟨b,k*2+1,none⟩ (.int .i32 (x:Nat))) g (d.wl gone ((d.W gone).set k (c,x))) a∧Mo g d0 a0 w (d.wl gone ((d.W gone).set k (c,x))) a ((wr.setCell ⟨b,k*2,none⟩ (.int .i32 (c:Nat))).setCell ⟨b,k*2+1,none⟩ (.int .i32 (x:Nat))) ∧
  ∃X',(d.W gone).set k (c,x)=(K++[(c,x)])++X'++R∧X'.length=X.length:=by
 have hk:=L.kl;have hw:=L.wg;have hkn:k<(d.W gone).length:=by rw[hw,← hk];simp only[List.length_append,List.length_cons];omega
 obtain⟨s,m⟩:=L.sw.setW (l:=gone) (i:=k) (p:=(c,x)) L.vi.go.2 (by rw[L.av,L.le]) hkn
 exact⟨s,L.mo.trans m,by rw[hw,← hk];exact set_gap K X R (c,o) (c,x)⟩
theorem LI.true_ {c o x b:Nat} (L:LI g d0 a0 I A U h gone w (some ⟨b,0,none⟩) n cap i k d a K X ((c,o)::R) wr) (hx:x∈(d.C c).lits) (hT:x∈d.T) :
  ∃X',LI g d0 a0 I A U h gone w (some ⟨b,0,none⟩) n cap (i+1) (k+1) (d.wl gone ((d.W gone).set k (c,x))) a (K++[(c,x)]) X' R ((wr.setCell ⟨b,k*2,none⟩ (.int .i32 (c:Nat))).setCell ⟨b,k*2+1,none⟩ (.int .i32 (x:Nat))):=by
 obtain⟨s,m,X',e,hX⟩:=L.setk (x:=x);have hk:=L.kl;have hx':=L.xl;refine⟨X',s,m,L.sm.trans (Sm.wl _ _ _),(L.vi.true_ hx hT).wl _,?_,?_,?_,?_,L.av⟩
 · show upd d.W gone _ gone=_;rw[upd_same];exact e
 · simp[hk]
 · omega
 · show (upd d.W gone _ gone).length=_;rw[upd_same,List.length_set];exact L.le
theorem swapped_mem {lits r:List Nat} {p0 p1 gone x:Nat} (hL:lits=p0::p1::r) (hp:(p0=gone∧p1=x)∨(p0=x∧p1=gone∧p0≠gone)) (m:Nat):m∈x::gone::r↔m∈lits:=by
 rw[hL];rcases hp with⟨rfl,rfl⟩|⟨rfl,rfl,-⟩
 ·
  simp only[List.mem_cons];constructor
  ·
   rintro (h|h|h)
   · exact Or.inr (Or.inl h)
   · exact Or.inl h
   · exact Or.inr (Or.inr h)
  ·
   rintro (h|h|h)
   · exact Or.inr (Or.inl h)
   · exact Or.inl h
   · exact Or.inr (Or.inr h)
 · exact Iff.rfl
theorem moved_mem {lits r:List Nat} {p0 p1 gone x j:Nat} (hL:lits=p0::p1::r) (hp:(p0=gone∧p1=x)∨(p0=x∧p1=gone∧p0≠gone)) (hj:j<r.length) (m:Nat):m∈x::r[j]::r.set j gone↔m∈lits:=by
 rw[← swapped_mem hL hp m];have h1:m∈r[j]::r.set j gone↔m∈gone::r:=by
  constructor
  ·
   intro h;rcases List.mem_cons.1 h with h|h
   · rw[h];exact List.mem_cons_of_mem _ (List.getElem_mem hj)
   ·
    rcases List.mem_or_eq_of_mem_set h with h|h
    · exact List.mem_cons_of_mem _ h
    · rw[h];exact List.mem_cons_self
  ·
   intro h;rcases List.mem_cons.1 h with h|h
   · rw[h];exact List.mem_cons_of_mem _ (List.mem_set hj gone)
   ·
    obtain⟨i,hi,rfl⟩:=List.mem_iff_getElem.1 h;by_cases e:i=j
    · subst e;exact List.mem_cons_self
    ·
     refine List.mem_cons_of_mem _ (List.mem_iff_getElem.2 ⟨i,by rw[List.length_set];exact hi,?_⟩)
     rw[List.getElem_set_ne (by omega)]
 simp only[List.mem_cons]at h1 ⊢;rw[h1]
theorem LI.swapped {c o x p0 p1:Nat} {r:List Nat} (L:LI g d0 a0 I A U h gone w q n cap i k d a K X ((c,o)::R) wr) (hL:(d.C c).lits=p0::p1::r) (hp:(p0=gone∧p1=x)∨(p0=x∧p1=gone∧p0≠gone)) (s:SW wr' g (d.lits c (x::gone::r)) a) (m:Mo g d a wr (d.lits c (x::gone::r)) a wr') :
  LI g d0 a0 I A U h gone w q n cap i k (d.lits c (x::gone::r)) a K X ((c,o)::R) wr':=by
 refine⟨s,L.mo.trans m,L.sm.trans (Sm.lits _ _ _ (fun m9=>swapped_mem hL hp m9)),?_,L.wg,L.kl,L.xl,L.le,L.av⟩
 rcases hp with⟨rfl,rfl⟩|⟨rfl,rfl,-⟩
 · exact L.vi.swap hL
 ·
  have h9:d.lits c (p0::p1::r)=d:=by rw[← hL];exact lits_self d c
  rw[h9];exact L.vi
theorem LI.moved {c o x p0 p1 j:Nat} {r:List Nat} {a':Key→Value} (L:LI g d0 a0 I A U h gone w q n cap i k d a K X ((c,o)::R) wr) (hL:(d.C c).lits=p0::p1::r) (hp:(p0=gone∧p1=x)∨(p0=x∧p1=gone∧p0≠gone)) (hj:j<r.length) (hV:d.V r[j]≠-1)
  (s:SW wr' g ((d.lits c (x::r[j]::r.set j gone)).wl r[j] (d.W r[j]++[(c,x)])) a') (m:Mo g d a wr ((d.lits c (x::r[j]::r.set j gone)).wl r[j] (d.W r[j]++[(c,x)])) a' wr') (ha:∀k,k≠kWl r[j]→a' k=a k) :
  LI g d0 a0 I A U h gone w q n cap (i+1) k ((d.lits c (x::r[j]::r.set j gone)).wl r[j] (d.W r[j]++[(c,x)])) a' K (X++[(c,o)]) R wr':=by
 have hc:c<d.nc:=L.vi.head.1;have ndc:=L.vi.bs.ci.nd c hc;have hmem:r[j]∈r:=List.getElem_mem hj;have hok:=(L.vi.bs.ci.ok c hc r[j] (by rw[hL];simp[hmem])).2
 have hne:r[j]≠gone:=by
  intro e;rw[hL]at ndc;simp only[List.map_cons,List.nodup_cons,List.mem_cons,not_or]at ndc;have hvi:r[j] / 2∈r.map (· / 2):=List.mem_map.2 ⟨_,hmem,rfl⟩;rcases hp with⟨rfl,rfl⟩|⟨rfl,rfl,-⟩
  · exact ndc.1.2 (e ▸ hvi)
  · exact ndc.2.1 (e ▸ hvi)
 have v1:VI (d.lits c (x::gone::r)) I A U h gone K ((c,o)::R):=by
  rcases hp with⟨rfl,rfl⟩|⟨rfl,rfl,-⟩
  · exact L.vi.swap hL
  ·
   have h9:d.lits c (p0::p1::r)=d:=by rw[← hL];exact lits_self d c
   rw[h9];exact L.vi
 have v2:=v1.move (x:=x) (i:=j) (r:=r) (by show (upd d.C c _ c).lits=_;rw[upd_same]) hj (fun h9=>hV (by rw[L.vi.bs.ti.va _ hok];exact (vl_neg L.vi.bs.ti.nd).2 h9))
 have e2:(d.lits c (x::gone::r)).lits c (x::r[j]::r.set j gone)=d.lits c (x::r[j]::r.set j gone):=lits_lits d c _ _;have v3:VI ((d.lits c (x::r[j]::r.set j gone)).wl r[j] (d.W r[j]++[(c,x)])) I A U h gone K R:=by rw[← e2];exact v2
 have hx:=L.xl;refine⟨s,L.mo.trans m,(L.sm.trans (Sm.lits _ _ _ (fun m9=>moved_mem hL hp hj m9))).trans (Sm.wl _ _ _),v3,?_,L.kl,?_,?_,?_⟩
 · show upd d.W r[j] _ gone=_;rw[upd_other _ _ (Ne.symm hne),L.wg];simp
 · simp;omega
 · show (upd d.W r[j] _ gone).length=_;rw[upd_other _ _ (Ne.symm hne)];exact L.le
 · rw[ha _ (fun e=>hne (by injection e with _ e;exact e.symm))];exact L.av
theorem LI.asgn {c o x:Nat} {us:Nat→Nat} (L:LI g d0 a0 I A U h gone w q n cap i k d a K X ((c,o)::R) wr) (hx:x∈(d.C c).lits) (h0:vl d.T x=0) (hf:∀m∈(d.C c).lits,m≠x→ng m∈d.T) (hus:d.S=[]→∀v∈vrs (d.C c).lits (x:Int),(d.F v).unit=(us v:Int))
  {X':List (Nat × Nat)} {wa wb:World} (e:(d.W gone).set k (c,x)=(K++[(c,x)])++X'++R) (hX:X'.length=X.length) (m:Mo g d0 a0 w (d.wl gone ((d.W gone).set k (c,x))) a wa) (he:AsEnd g (d.wl gone ((d.W gone).set k (c,x))) a x (c:Int) us wa wb) :
  ∃d' a',LI g d0 a0 I A U h gone w q n cap (i+1) (k+1) d' a' (K++[(c,x)]) X' R wb:=by
 have hk:=L.kl;have hx':=L.xl;have hle:((d.W gone).set k (c,x)).length=n:=by rw[List.length_set];exact L.le
 have v:=L.vi.wl ((d.W gone).set k (c,x));have hkl:(K++[(c,x)]).length=k+1:=by simp[hk]
 have wgS:upd d.W gone ((d.W gone).set k (c,x)) gone=(d.W gone).set k (c,x):=upd_same _ _ _;rcases he with⟨hS,a',ha,s,m2⟩|⟨hS,r,hr,a',ha,h9⟩
 · exact⟨_,a',s,m.trans m2,(L.sm.trans (Sm.wl _ _ _)).trans (Sm.asg _ _ _),v.asg hS hx h0 hf,wgS.trans e,hkl,by omega,(congrArg List.length wgS).trans hle,(ha _).trans L.av⟩
 ·
  obtain rfl:c=r:=by omega
  rcases h9 with⟨hv,s,m2⟩|⟨hv,s,m2⟩
  · exact⟨_,a',s,m.trans m2,(L.sm.trans (Sm.wl _ _ _)).trans (Sm.asg0 _ _ _ _),v.asg0 hS hx h0 hf hv,wgS.trans e,hkl,by omega,(congrArg List.length wgS).trans hle,(ha _).trans L.av⟩
  · exact⟨_,a',s,m.trans m2,((L.sm.trans (Sm.wl _ _ _)).trans (Sm.asg0 _ _ _ _)).trans (Sm.more _ _),v.asg1 hS hx h0 hf (hus hS),wgS.trans e,hkl,by omega,(congrArg List.length wgS).trans hle,(ha _).trans L.av⟩
theorem LI.clash {c o x b bW cW:Nat} (L:LI g d0 a0 I A U h gone w (some ⟨b,0,none⟩) n cap i k d a K X ((c,o)::R) wr) (hx:x∈(d.C c).lits) (hf:∀m∈(d.C c).lits,ng m∈d.T) (hW:a kWat=.slice (some ⟨bW,0,none⟩) (2*(d.nv+1)) cW)
  {X':List (Nat × Nat)} {wa wb:World} (e:(d.W gone).set k (c,x)=(K++[(c,x)])++X'++R) (hX:X'.length=X.length) (s:SW wb g (d.wl gone (cpy ((d.W gone).set k (c,x)) (k+1) (i+1) R.length)) a) (m:Mo g d0 a0 w (d.wl gone (cpy ((d.W gone).set k (c,x)) (k+1) (i+1) R.length)) a wb) :
  VsEnd g d0 a0 I A U h w (.returned (.int .i64 (c:Nat))) (wb.setCell ⟨bW,gone,none⟩ (.slice (some ⟨b,0,none⟩) (k+1+R.length) cap)):=by
 have hk:=L.kl;have hx':=L.xl;have hle:=L.le;have hwg:=L.wg;have hln:n=i+1+R.length:=by rw[← hle,hwg];simp only[List.length_append,List.length_cons];omega
 have hki:k≤i:=by omega
 have el:(cpy ((d.W gone).set k (c,x)) (k+1) (i+1) R.length).length=n:=by
  rw[cpy_len _ (by rw[List.length_set,hle];omega) (by rw[List.length_set,hle];omega),List.length_set,hle]
 obtain⟨s2,m2⟩:=s.cutW (l:=gone) (k:=k+1+R.length) (n:=n) (q:=some ⟨b,0,none⟩) (cap:=cap) (bW:=bW) (cW:=cW) L.vi.go.2 hW L.av (by show n=(upd d.W gone _ gone).length;rw[upd_same,el]) (by omega)
 have e2:((d.wl gone (cpy ((d.W gone).set k (c,x)) (k+1) (i+1) R.length)).W gone).take (k+1+R.length)=K++(c,x)::R:=by
  show (upd d.W gone _ gone).take _=_
  rw[upd_same,e];have h9:=cpy_take (K++[(c,x)]) X' R;have e3:(K++[(c,x)]).length=k+1:=by simp[hk]
  have e4:(K++[(c,x)]++X').length=i+1:=by rw[List.length_append,e3];omega
  rw[List.length_append,e3,e4]at h9;rw[h9];simp
 rw[e2]at s2 m2;obtain⟨b1,si⟩:=L.vi.stop (p:=(c,o)) hx;have e5:(d.wl gone (cpy ((d.W gone).set k (c,x)) (k+1) (i+1) R.length)).wl gone (K++(c,x)::R)=d.wl gone (K++(c,x)::R):=by
  show ({ d with W:=upd (upd d.W gone _) gone _ }:Dt)=_
  rw[upd_upd]
 rw[e5]at s2 m2;exact⟨_,_,s2,m.trans m2,L.sm.trans (Sm.wl _ _ _),b1,Or.inr ⟨c,rfl,L.vi.head.1,hf,si⟩⟩
end
end Sat
end Go.Proofs.YtbmkkhpoaicclabGreat
