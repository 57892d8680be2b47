/- Joined: SatPf, SatPk, SatLa, SatOn: words and contracts; no statement of the seat is proved here. -/
import Derived.Test.YtbmkkhpoaicclabGreatJoin17Grows
import Derived.Test.YtbmkkhpoaicclabGreatJoin21Grows
import Derived.Test.YtbmkkhpoaicclabGreatJoin7Grows
import Derived.Defers
import Derived.Laws.Pointers
import Derived.Laws.LoneSync
import Derived.RegionCalls
namespace Go.Proofs.YtbmkkhpoaicclabGreat
open Go.RowKit
set_option linter.unusedVariables false
namespace Sat
structure Chn where
  clause:List Int
  first:Int
  steps:List (Int × Int)
inductive Out (ps:List (List Int)):List Int→List (Int × Int)→List Int→Prop where
  | nil (now:List Int):Out ps now [] now
  | cons {now b s r:List Int} {k v l:Int} {st:List (Int × Int)} (hk:0≤k) (hb:ps[k.toNat]?=some b) (hr:Rsv now b v l) (hs:Srt s) (hm:∀x,x∈s↔RI now b l x) (h:Out ps s st r):Out ps now ((k,v)::st) r
theorem Rsv.uniq {a b:List Int} {v l l':Int} (h:Rsv a b v l) (h':Rsv a b v l'):l=l':=by
 obtain⟨-,h⟩:=h;obtain⟨-,h'⟩:=h';rcases h with⟨e,h1,h2⟩|⟨e,h1,h2,h3⟩<;>rcases h' with⟨e',h1',h2'⟩|⟨e',h1',h2',h3'⟩
 · rw[e,e']
 · exact absurd ⟨h1,h2⟩ h1'
 · exact absurd ⟨h1',h2'⟩ h1
 · rw[e,e']
def Acc:List (List Int)→List Chn→List (List Int)→Prop
  | ps,[],qs=>qs=ps
  | ps,c::pf,qs=>∃b r,0≤c.first∧ps[c.first.toNat]?=some b∧Out ps b c.steps r∧SetOf c.clause r∧Acc (ps++[r]) pf qs
def OkPf (ps:List (List Int)) (pf:List Chn):Prop:=pf≠[]∧∃qs,Acc ps pf qs∧qs.getLast?=some []
/-! ## What is taken has no model -/
/-! ## A solver's own chains are taken -/
theorem srt_split:∀{s:List Int} {x:Int},Srt s→x ∉ s→∃p r,s=p++r∧(∀y∈p,bv y x)∧∀y∈r,bv x y
  | [],x,_,_=>⟨[],[],rfl,fun y hy=>(by cases hy),fun y hy=>(by cases hy)⟩
  | y::s,x,hs,hx=>by
    obtain⟨h1,h2⟩:=hs.tail
    rcases bv_tri y x with h|h|h
    · obtain⟨p,r,e,k1,k2⟩:=srt_split h1 (fun h9=>hx (List.mem_cons_of_mem _ h9))
      refine⟨y::p,r,by rw[e];rfl,fun z hz=>?_,k2⟩
      rcases List.mem_cons.1 hz with rfl|hz
      · exact h
      · exact k1 z hz
    · subst h;exact absurd List.mem_cons_self hx
    · refine⟨[],y::s,rfl,fun z hz=>(by cases hz),fun z hz=>?_⟩
      rcases List.mem_cons.1 hz with rfl|hz
      · exact h
      · exact bv_trans h (h2 z hz)
theorem exists_set (L:List Int):∃s,SetOf L s:=by
 have key:∀(n:Nat) (L:List Int),L.length=n→∃s,SetOf L s:=by
  intro n;induction n with
  | zero =>
   intro L hL;have:L=[]:=List.eq_nil_of_length_eq_zero hL;subst this;exact⟨[],Srt.nil,fun _=>Iff.rfl⟩
  | succ n ih =>
   intro L hL;obtain⟨L',x,rfl⟩:∃L' x,L=L'++[x]:=by
    have hne:L≠[]:=fun e=>by rw[e]at hL;simp at hL
    exact⟨L.dropLast,L.getLast hne,(List.dropLast_concat_getLast hne).symm⟩
   obtain⟨s,hs⟩:=ih L' (by simp at hL;exact hL)
   by_cases hx:x∈s
   · exact⟨s,hs.skip hx⟩
   · obtain⟨p,r,e,k1,k2⟩:=srt_split hs.1 hx;exact⟨_,hs.snoc e k1 k2⟩
 exact key L.length L rfl
theorem num_inj {m k:Nat} (hm:2≤m) (hk:2≤k) (h:num m=num k):m=k:=by
 unfold num at h;split at h<;>split at h<;>omega
theorem num_ng2 {m:Nat} (hm:2≤m):num (ng m)=- num m:=by
 unfold num ng;by_cases h:m % 2=0
 · rw[if_pos h,if_pos h,if_neg (by omega)];omega
 · rw[if_neg h,if_neg h,if_pos (by omega)];omega
theorem num_nz {m:Nat} (hm:2≤m):num m≠0:=by unfold num;split<;>omega
theorem lit_ge {x:Int} (hx:x≠0):2≤lit x:=by unfold lit;split<;>omega
structure SV (now:List Int) (P:Nat→Prop):Prop where
  so:Srt now
  nz:∀x∈now,x≠0
  ge:∀m,P m→2≤m
  iff_:∀m,2≤m→(P m↔num m∈now)
theorem SV.eq {a b:List Int} {P Q:Nat→Prop} (h:SV a P) (k:SV b Q) (e:∀m,P m↔Q m):a=b:=by
 refine h.so.ext k.so (fun x=>?_)
 constructor
 ·
  intro hx;have h0:=h.nz x hx;have h1:=(h.iff_ (lit x) (lit_ge h0)).2 (by rw[num_lit];exact hx)
  have h2:=(k.iff_ (lit x) (lit_ge h0)).1 ((e _).1 h1);rwa [num_lit]at h2
 ·
  intro hx;have h0:=k.nz x hx;have h1:=(k.iff_ (lit x) (lit_ge h0)).2 (by rw[num_lit];exact hx)
  have h2:=(h.iff_ (lit x) (lit_ge h0)).1 ((e _).2 h1);rwa [num_lit]at h2
theorem SV.congr {a:List Int} {P Q:Nat→Prop} (h:SV a P) (e:∀m,P m↔Q m):SV a Q:=⟨h.so,h.nz,fun m hm=>h.ge m ((e m).2 hm),fun m hm=>(e m).symm.trans (h.iff_ m hm)⟩
theorem SV.step {now b:List Int} {P Q:Nat→Prop} (h:SV now P) (k:SV b Q) {x:Nat} (h0:¬ P (ng x)) (h1:P x) (h2:Q (ng x)):∃s,Rsv now b ((x / 2:Nat):Int) (num x)∧Srt s∧(∀y,y∈s↔RI now b (num x) y)∧SV s (RS P Q x):=by
 have hx:=h.ge x h1;have m1:=(h.iff_ x hx).1 h1;have m2:- num x ∉ now:=fun h9=>h0 ((h.iff_ (ng x) (ng_ge hx)).2 (by rw[num_ng2 hx];exact h9))
 have m3:- num x∈b:=by have:=(k.iff_ (ng x) (ng_ge hx)).1 h2;rwa [num_ng2 hx]at this
 obtain⟨s,hs⟩:=exists_set (now.filter (fun y=>decide (y≠num x))++b.filter (fun y=>decide (y≠- num x)))
 have hm:∀y,y∈s↔RI now b (num x) y:=fun y=>by
  rw[hs.2 y,List.mem_append,List.mem_filter,List.mem_filter];unfold RI;simp
 refine⟨s,?_,hs.1,hm,hs.1,fun y hy=>?_,fun m hm'=>?_,fun m hm'=>?_⟩
 ·
  refine⟨by omega,?_⟩
  by_cases e:x % 2=0
  ·
   have e2:num x=((x / 2:Nat):Int):=by unfold num;rw[if_pos e]
   left
   rw[e2]at m1 m3;exact⟨e2,m1,m3⟩
  ·
   have e2:num x=-((x / 2:Nat):Int):=by unfold num;rw[if_neg e]
   right
   rw[e2]at m1 m2 m3;rw[Int.neg_neg]at m2 m3;exact⟨e2,fun h9=>m2 h9.1,m1,m3⟩
 ·
  rcases (hm y).1 hy with⟨h9,-⟩|⟨h9,-⟩
  · exact h.nz y h9
  · exact k.nz y h9
 ·
  rcases hm' with⟨h9,-⟩|⟨h9,-⟩
  · exact h.ge m h9
  · exact k.ge m h9
 ·
  rw[hm (num m)];unfold RS RI;rw[h.iff_ m hm',k.iff_ m hm'];have e1:m≠x↔num m≠num x:=⟨fun h9 h8=>h9 (num_inj hm' hx h8),fun h9 h8=>h9 (by rw[h8])⟩
  have e2:m≠ng x↔num m≠- num x:=by
   rw[← num_ng2 hx];exact⟨fun h9 h8=>h9 (num_inj hm' (ng_ge hx) h8),fun h9 h8=>h9 (by rw[h8])⟩
  rw[e1,e2]
theorem Rsl.out {C:Nat→Cl} {P Q:Nat→Prop} {ls:List (Nat × Nat)} (h:Rsl C P ls Q) {ps:List (List Int)} {pl:Nat→Int} (hp:∀p∈ls,∃b,0≤pl p.1∧ps[(pl p.1).toNat]?=some b∧SV b (·∈(C p.1).lits)):∀{now r:List Int},SV now P→SV r Q→Out ps now (ls.map (fun p=>(pl p.1,(p.2:Int)))) r:=by
 induction h with
 | nil h =>
  intro now r hn hr;have e:=hn.eq hr h;subst e;exact Out.nil _
 | @cons P Q k v ls x hx h0 h1 h2 h3 ih =>
  intro now r hn hr;obtain⟨b,b1,b2,b3⟩:=hp (k,v) (by simp)
  obtain⟨s,s1,s2,s3,s4⟩:=hn.step b3 h0 h1 h2;refine Out.cons b1 b2 (by rw[hx]at s1;exact s1) s2 s3 (ih (fun p hp'=>hp p (List.mem_cons_of_mem _ hp')) s4 hr)
end Sat
namespace Sat
structure Lay (d:Dt) (nd:Nat→Bool) (i:Nat) (pl:Nat→Int) (idx:List Nat) (cs:List Chn):Prop where
  le:cs.length=idx.length
  ad:∀c,c<i→(d.C c).num≠-1→pl c=(d.C c).num
  lr:∀c,c<i→(d.C c).num=-1→nd c=true→∃t:Nat,idx[t]?=some c∧pl c=-((t:Int)+1)
  ix:∀(t c:Nat),idx[t]?=some c→c<i∧(d.C c).num=-1∧nd c=true
  up:idx.Pairwise (·<·)
  ch:∀(t c:Nat) (x:Chn),idx[t]?=some c→cs[t]?=some x→x.first=pl (d.C c).first.toNat∧x.steps=(d.C c).links.map (fun p=>(pl p.1,(p.2:Int)))∧x.clause.Perm ((d.C c).lits.map num)∧x.clause.Pairwise (fun a b=>¬ bv b a)
def tld (N:Int) (k:Int):Int:=if k<0 then N - 1 - k else k
def Chn.told (N:Int) (x:Chn):Chn:=⟨x.clause,tld N x.first,x.steps.map (fun p=>(tld N p.1,p.2))⟩
theorem sv_sorted {L:List Nat} {s:List Int} (hL:(L.map (· / 2)).Nodup) (h2:∀m∈L,2≤m) (hp:s.Perm (L.map num)) (hs:s.Pairwise (fun a b=>¬ bv b a)):SV s (·∈L):=by
 have nd:(L.map num).Nodup:=by
  have h1:L.Nodup:=by
   have:=hL;rw[List.Nodup,List.pairwise_map]at this;exact this.imp (fun h e=>h (by rw[e]))
  refine List.pairwise_map.2 (h1.imp_of_mem ?_);intro a b ha hb hne e;exact hne (num_inj (h2 a ha) (h2 b hb) e)
 have nds:s.Nodup:=hp.nodup_iff.2 nd;have so:Srt s:=(hs.and nds).imp (fun {a b} ⟨h1,h9⟩=>by
  rcases bv_tri a b with h|h|h
  · exact h
  · exact absurd h h9
  · exact absurd h h1)
 refine⟨so,fun x hx=>?_,h2,fun m hm=>?_⟩
 · obtain⟨m,hm,rfl⟩:=List.mem_map.1 (hp.mem_iff.1 hx);exact num_nz (h2 m hm)
 ·
  rw[hp.mem_iff,List.mem_map];constructor
  · intro h;exact⟨m,h,rfl⟩
  · rintro⟨k,h1,h3⟩;rw[← num_inj (h2 k h1) hm h3];exact h1
theorem sv_set {zs p:List Int} (h:SetOf zs p) (h0:∀z∈zs,z≠0):SV p (·∈zs.map lit):=by
 refine⟨h.1,fun x hx=>h0 x ((h.2 x).1 hx),fun m hm=>?_,fun m hm=>?_⟩
 · obtain⟨z,hz,rfl⟩:=List.mem_map.1 hm;exact lit_ge (h0 z hz)
 ·
  rw[h.2 (num m),List.mem_map];constructor
  · rintro⟨z,hz,rfl⟩;rw[num_lit];exact hz
  · intro h9;exact⟨num m,h9,lit_num hm⟩
section
variable {d:Dt} {nd:Nat→Bool} {pl:Nat→Int} {idx:List Nat} {cs:List Chn} {ls:List (List Int)} {ps0:List (List Int)}
theorem Lay.sv (L:Lay d nd d.nc pl idx cs) (ci:CI d.nv d.nc d.C) {t c:Nat} {x:Chn} (ht:idx[t]?=some c) (hx:cs[t]?=some x):SV x.clause (·∈(d.C c).lits):=by
 obtain⟨-,-,h3,h4⟩:=L.ch t c x ht hx;have hc:=(L.ix t c ht).1;exact sv_sorted (ci.nd c hc) (fun m hm=>(ci.ok c hc m hm).1) h3 h4
theorem idx_lt (hu:idx.Pairwise (·<·)) {s t a b:Nat} (hs:idx[s]?=some a) (ht:idx[t]?=some b) (hab:a<b):s<t:=by
 obtain⟨hs1,hs2⟩:=List.getElem?_eq_some_iff.1 hs;obtain⟨ht1,ht2⟩:=List.getElem?_eq_some_iff.1 ht;apply Classical.byContradiction
 intro h;rcases Nat.lt_or_eq_of_le (Nat.le_of_not_lt h) with h9|h9
 · have:=List.pairwise_iff_getElem.1 hu t s ht1 hs1 h9;omega
 · subst h9;rw[hs2]at ht2;omega
theorem Lay.place (L:Lay d nd d.nc pl idx cs) (ci:CI d.nv d.nc d.C) (dv:Dv d.nc d.C (ls.map (·.map lit))) (hps:∀(n:Nat) (zs:List Int),ls[n]?=some zs→∃p,ps0[n]?=some p∧SetOf zs p) (h0:∀zs∈ls,∀z∈zs,z≠0) {t c c':Nat} (ht:idx[t]?=some c) (hc:c'<c) (hn:nd c'=true) :
  ∃b,0≤tld (ps0.length:Nat) (pl c')∧(ps0++(cs.map (·.clause)).take t)[(tld (ps0.length:Nat) (pl c')).toNat]?=some b∧SV b (·∈(d.C c').lits):=by
 have hcn:c'<d.nc:=by have:=(L.ix t c ht).1;omega
 rcases dv c' hcn with⟨n,Z,h1,h2,h3⟩|⟨h1,-⟩
 ·
  have e1:pl c'=(n:Int):=by rw[L.ad c' hcn (by omega),h1]
  have e2:tld (ps0.length:Nat) (pl c')=(n:Int):=by rw[e1];unfold tld;rw[if_neg (by omega)]
  rw[List.getElem?_map]at h2;obtain⟨zs,h4,h5⟩:=Option.map_eq_some_iff.1 h2;obtain⟨p,h6,h7⟩:=hps n zs h4;refine⟨p,by rw[e2];omega,?_,?_⟩
  · rw[e2,Int.toNat_natCast,List.getElem?_append_left (List.getElem?_eq_some_iff.1 h6).1];exact h6
  ·
   refine (sv_set h7 (h0 zs (List.mem_of_getElem? h4))).congr (fun m=>?_)
   rw[h3 m,← h5]
 ·
  obtain⟨t',k1,k2⟩:=L.lr c' hcn h1 hn;have htt:=idx_lt L.up k1 ht hc;have e2:tld (ps0.length:Nat) (pl c')=((ps0.length+t':Nat):Int):=by rw[k2];unfold tld;rw[if_pos (by omega)];omega
  have hl:t'<cs.length:=by rw[L.le];exact (List.getElem?_eq_some_iff.1 k1).1
  obtain⟨x,hx⟩:∃x,cs[t']?=some x:=⟨_,List.getElem?_eq_getElem hl⟩;refine⟨x.clause,by rw[e2];omega,?_,L.sv ci k1 hx⟩
  rw[e2,Int.toNat_natCast,List.getElem?_append_right (Nat.le_add_right _ _),Nat.add_sub_cancel_left,List.getElem?_take,if_pos htt,List.getElem?_map,hx];rfl
theorem Lay.acc (L:Lay d nd d.nc pl idx cs) (ci:CI d.nv d.nc d.C) (dv:Dv d.nc d.C (ls.map (·.map lit))) (clo:∀c,c<d.nc→Clo d nd c) (hps:∀(n:Nat) (zs:List Int),ls[n]?=some zs→∃p,ps0[n]?=some p∧SetOf zs p) (h0:∀zs∈ls,∀z∈zs,z≠0) :
  ∀k t,t+k=cs.length→Acc (ps0++(cs.map (·.clause)).take t) ((cs.map (Chn.told (ps0.length:Nat))).drop t) (ps0++cs.map (·.clause)):=by
 intro k;induction k with
 | zero =>
  intro t ht;have e1:(cs.map (Chn.told (ps0.length:Nat))).drop t=[]:=List.drop_eq_nil_of_le (by rw[List.length_map];omega)
  have e2:(cs.map (·.clause)).take t=cs.map (·.clause):=List.take_of_length_le (by rw[List.length_map];omega)
  rw[e1,e2];rfl
 | succ k ih =>
  intro t ht;have htl:t<cs.length:=by omega
  have hti:t<idx.length:=by rw[← L.le];exact htl
  obtain⟨x,hx⟩:∃x,cs[t]?=some x:=⟨_,List.getElem?_eq_getElem htl⟩;obtain⟨c,hc⟩:∃c,idx[t]?=some c:=⟨_,List.getElem?_eq_getElem hti⟩;have e1:(cs.map (Chn.told (ps0.length:Nat))).drop t=x.told (ps0.length:Nat)::(cs.map (Chn.told (ps0.length:Nat))).drop (t+1):=by
   rw[List.drop_eq_getElem_cons (by rw[List.length_map];exact htl),List.getElem_map]
   have e9:cs[t]=x:=by rw[List.getElem?_eq_getElem htl]at hx;injection hx
   rw[e9]
  rw[e1];obtain⟨c1,c2,c3⟩:=L.ix t c hc;obtain⟨f1,f2,f3,f4⟩:=L.ch t c x hc hx;obtain⟨k1,k2⟩:=clo c c1 c3 c2;rcases dv c c1 with⟨n,Z,h1,-,-⟩|⟨-,f,g1,g2,g3,g4,-⟩
  · omega
  ·
   have ef:(d.C c).first.toNat=f:=by rw[g1];simp
   rw[ef]at k1 f1;obtain⟨b,b1,b2,b3⟩:=L.place ci dv hps h0 hc g2 k1;have sx:=L.sv ci hc hx;refine⟨b,x.clause,by show 0≤tld _ x.first;rw[f1];exact b1,by show (_:List (List Int))[(tld _ x.first).toNat]?=_;rw[f1];exact b2,?_,SetOf.of_srt sx.so,?_⟩
   ·
    show Out _ b (x.steps.map (fun p=>(tld (ps0.length:Nat) p.1,p.2))) x.clause
    rw[f2,List.map_map];exact Rsl.out (pl:=fun c=>tld (ps0.length:Nat) (pl c)) g4 (fun p hp=>L.place ci dv hps h0 hc (g3 p hp) (k2 p hp)) b3 sx
   ·
    have e3:ps0++(cs.map (·.clause)).take t++[x.clause]=ps0++(cs.map (·.clause)).take (t+1):=by
     rw[List.append_assoc,List.take_add_one,List.getElem?_map,hx];rfl
    rw[e3];exact ih (t+1) (by omega)
theorem Lay.ok (L:Lay d nd d.nc pl idx cs) (ci:CI d.nv d.nc d.C) (dv:Dv d.nc d.C (ls.map (·.map lit))) (clo:∀c,c<d.nc→Clo d nd c) (hps:∀(n:Nat) (zs:List Int),ls[n]?=some zs→∃p,ps0[n]?=some p∧SetOf zs p) (h0:∀zs∈ls,∀z∈zs,z≠0) (la:nd (d.nc - 1)=true) (hl:∃n,d.nc=n+1∧(d.C n).lits=[]∧(d.C n).num=-1):OkPf ps0 (cs.map (Chn.told (ps0.length:Nat))):=by
 obtain⟨n,n1,n2,n3⟩:=hl;rw[n1,Nat.add_sub_cancel]at la;obtain⟨t,ht,-⟩:=L.lr n (by omega) n3 la
 have hti:=(List.getElem?_eq_some_iff.1 ht).1;have htl:t<cs.length:=by rw[L.le];exact hti
 obtain⟨x,hx⟩:∃x,cs[t]?=some x:=⟨_,List.getElem?_eq_getElem htl⟩;have hlast:t+1=cs.length:=by
  apply Classical.byContradiction
  intro h;have h1:t+1<idx.length:=by rw[← L.le];omega
  obtain⟨c,hc⟩:∃c,idx[t+1]?=some c:=⟨_,List.getElem?_eq_getElem h1⟩;have h2:=(L.ix (t+1) c hc).1;have h3:=List.pairwise_iff_getElem.1 L.up t (t+1) hti h1 (by omega)
  have e1:idx[t]=n:=(List.getElem?_eq_some_iff.1 ht).2;have e2:idx[t+1]=c:=(List.getElem?_eq_some_iff.1 hc).2;omega
 have hcl:x.clause=[]:=by
  obtain⟨-,-,f3,-⟩:=L.ch t n x ht hx;rw[n2]at f3;exact List.perm_nil.1 f3
 refine⟨fun e=>?_,ps0++cs.map (·.clause),?_,?_⟩
 ·
  have:(cs.map (Chn.told (ps0.length:Nat))).length=0:=by rw[e];rfl
  rw[List.length_map]at this;omega
 ·
  have h9:=L.acc ci dv clo hps h0 cs.length 0 (by omega)
  simpa using h9
 ·
  rw[List.getLast?_append,List.getLast?_map];have e9:cs.getLast?=some x:=by
   rw[List.getLast?_eq_getElem?];have:cs.length - 1=t:=by omega
   rw[this];exact hx
  rw[e9];simp[hcl]
end
end Sat
open Go Go.RowKit
namespace Sat
open Euf (OL App ONE5 wp_push1)
def skC (st:List (Int × Int)) (i:Nat):List Value:=[.int .i64 (st.getD i (0,0)).1,.int .i64 (st.getD i (0,0)).2]
def chC (cs:List Chn) (vc vs:Nat→Value) (t:Nat):List Value:=[vc t,.int .i64 (cs.getD t ⟨[],0,[]⟩).first,vs t]
def ChW (N B:Nat) (cs:List Chn) (vc vs:Nat→Value) (w:World):Prop:=∀(t:Nat) (x:Chn),cs[t]?=some x→OL 1 3 w (vc t) x.clause.length (izC x.clause)∧OL 2 100 w (vs t) x.steps.length (skC x.steps)∧(∀b,(vc t).ownBlock=some b→N≤b∧b≠B)∧∀b,(vs t).ownBlock=some b→N≤b
structure LyM (d:Dt) (nd:Nat→Bool) (BP i:Nat) (pl:Nat→Int) (idx:List Nat) (cs:List Chn) (vo:Value) (vc vs:Nat→Value) (w wr:World):Prop where
  ly:Lay d nd i pl idx cs
  op:OL 1 3 wr (.slice (some ⟨BP,0,none⟩) d.nc d.nc) d.nc (fun j=>[.int .i64 (pl j)])
  oo:OL 3 98 wr vo cs.length (chC cs vc vs)
  cw:ChW w.heap.size BP cs vc vs wr
  nn:OL 1 4 wr (.slice (some ⟨w.heap.size,0,none⟩) d.nc d.nc) d.nc (fun i=>[.bool (nd i)])
  bl:Below w.heap.size w wr
  bp:w.heap.size≤BP
  ow:∀b,vo.ownBlock=some b→w.heap.size≤b
  bd:∀j,j<d.nc→-100000001≤pl j∧pl j≤100000001
section
variable {d:Dt} {nd:Nat→Bool} {BP i:Nat} {pl:Nat→Int} {idx:List Nat} {cs:List Chn} {vo:Value} {vc vs:Nat→Value} {w wr wr':World}
theorem ChW.below {N B:Nat} (h:ChW N B cs vc vs wr) (hb:Below wr.heap.size wr wr'):ChW N B cs vc vs wr':=fun t x ht=>by
  obtain⟨h1,h2,h3,h4⟩:=h t x ht
  exact⟨h1.stay (fun b hb9=>hb.block b (h1.lt hb9)),h2.stay (fun b hb9=>hb.block b (h2.lt hb9)),h3,h4⟩
theorem LyM.below (h:LyM d nd BP i pl idx cs vo vc vs w wr) (hb:Below wr.heap.size wr wr'):LyM d nd BP i pl idx cs vo vc vs w wr' :=
  ⟨h.ly,h.op.stay (fun b hb9=>hb.block b (h.op.lt hb9)),h.oo.stay (fun b hb9=>hb.block b (h.oo.lt hb9)),h.cw.below hb,h.nn.stay (fun b hb9=>hb.block b (h.nn.lt hb9)),h.bl.trans (hb.mono (by have:=h.nn.lt (b:=w.heap.size) rfl;omega)),h.bp,h.ow,h.bd⟩
theorem App.toB {v v':Value} {w w':World} {n:Nat} (h:App v v' w w') (hn:n≤w.heap.size) (hv:∀b,v.ownBlock=some b→n≤b):Below n w w' :=
  ⟨h.os,h.tape,h.output,h.size,fun k hk=>h.other k (by omega) (fun e=>by have:=hv k e;omega)⟩
theorem up_le {idx:List Nat} (h:idx.Pairwise (·<·)) {i:Nat} (hb:∀(t c:Nat),idx[t]?=some c→c<i):idx.length≤i:=by
 have h1:idx.Nodup:=h.imp (fun h e=>by omega)
 have h2:=nodup_sub (List.range i) idx h1 (fun c hc=>by
  obtain⟨t,ht⟩:=List.mem_iff_getElem?.1 hc;exact List.mem_range.2 (hb t c ht))
 simpa using h2
def Ahd (d:Dt):Prop:=∀c,c<d.nc→(d.C c).num=-1→(∃f:Nat,(d.C c).first=(f:Int)∧f<c)∧∀p∈(d.C c).links,p.1<c
theorem Lay.upd_ (h:Lay d nd i pl idx cs) (hd:Ahd d) (hi:i<d.nc) (z:Int):Lay d nd i (upd pl i z) idx cs:=by
 refine⟨h.le,fun c hc e=>?_,fun c hc e en=>?_,h.ix,h.up,fun t c x ht hx=>?_⟩
 · rw[upd_other _ _ (by omega)];exact h.ad c hc e
 · rw[upd_other _ _ (by omega)];exact h.lr c hc e en
 ·
  obtain⟨h1,h2,h3,h4⟩:=h.ch t c x ht hx;obtain⟨k1,k2,k3⟩:=h.ix t c ht;obtain⟨⟨f,hf,hfc⟩,hl⟩:=hd c (by omega) k2
  refine⟨?_,?_,h3,h4⟩
  · rw[h1,hf,Int.toNat_natCast,upd_other _ _ (by omega)]
  ·
   rw[h2];apply List.map_congr_left
   intro p hp;have:=hl p hp;rw[upd_other _ _ (by omega)]
theorem Lay.skip (h:Lay d nd i pl idx cs) (e:(d.C i).num=-1) (hn:nd i=false):Lay d nd (i+1) pl idx cs:=by
 refine⟨h.le,fun c hc e1=>?_,fun c hc e1 en=>?_,fun t c ht=>?_,h.up,h.ch⟩
 ·
  by_cases e2:c=i
  · subst e2;exact absurd e e1
  · exact h.ad c (by omega) e1
 ·
  by_cases e2:c=i
  · subst e2;rw[hn]at en;cases en
  · exact h.lr c (by omega) e1 en
 · obtain⟨k1,k2⟩:=h.ix t c ht;exact⟨by omega,k2⟩
theorem Lay.added (h:Lay d nd i pl idx cs) (hd:Ahd d) (hi:i<d.nc) (e:(d.C i).num≠-1):Lay d nd (i+1) (upd pl i (d.C i).num) idx cs:=by
 have h0:=h.upd_ hd hi (d.C i).num;refine⟨h0.le,fun c hc e1=>?_,fun c hc e1 en=>?_,fun t c ht=>?_,h0.up,h0.ch⟩
 ·
  by_cases e2:c=i
  · subst e2;rw[upd_same]
  · exact h0.ad c (by omega) e1
 ·
  by_cases e2:c=i
  · subst e2;exact absurd e1 e
  · exact h0.lr c (by omega) e1 en
 · obtain⟨k1,k2⟩:=h.ix t c ht;exact⟨by omega,k2⟩
theorem Lay.learn (h:Lay d nd i pl idx cs) (hd:Ahd d) (hi:i<d.nc) (e:(d.C i).num=-1) (en:nd i=true) {x:Chn} (x1:x.first=pl (d.C i).first.toNat) (x2:x.steps=(d.C i).links.map (fun p=>(pl p.1,(p.2:Int)))) (x3:x.clause.Perm ((d.C i).lits.map num)) (x4:x.clause.Pairwise (fun a b=>¬ bv b a)):Lay d nd (i+1) (upd pl i (-((cs.length:Int)+1))) (idx++[i]) (cs++[x]):=by
 have h0:=h.upd_ hd hi (-((cs.length:Int)+1));refine⟨by simp[h.le],fun c hc e1=>?_,fun c hc e1 e2=>?_,fun t c ht=>?_,?_,fun t c y ht hy=>?_⟩
 ·
  by_cases e2:c=i
  · subst e2;exact absurd e e1
  · exact h0.ad c (by omega) e1
 ·
  by_cases e3:c=i
  · subst e3;exact⟨idx.length,by simp,by rw[upd_same,h.le]⟩
  ·
   obtain⟨t,h1,h2⟩:=h0.lr c (by omega) e1 e2
   refine⟨t,?_,h2⟩;rw[List.getElem?_append_left (List.getElem?_eq_some_iff.1 h1).1];exact h1
 ·
  rw[List.getElem?_append]at ht;split at ht
  · obtain⟨k1,k2⟩:=h.ix t c ht;exact⟨by omega,k2⟩
  ·
   have:t - idx.length=0:=by
    apply Classical.byContradiction
    intro h9;obtain⟨m,hm⟩:∃m,t - idx.length=m+1:=⟨t - idx.length - 1,by omega⟩
    rw[hm]at ht;simp at ht
   rw[this]at ht;simp at ht;subst ht;exact⟨by omega,e,en⟩
 ·
  rw[List.pairwise_append];refine⟨h.up,List.pairwise_singleton _ _,fun a ha b hb=>?_⟩
  simp at hb;subst hb;obtain⟨t,ht⟩:=List.mem_iff_getElem?.1 ha;exact (h.ix t a ht).1
 ·
  by_cases ht9:t<idx.length
  ·
   rw[List.getElem?_append_left ht9]at ht;rw[List.getElem?_append_left (by rw[h.le];exact ht9)]at hy
   exact h0.ch t c y ht hy
  ·
   have t9:t=idx.length:=by
    have:=(List.getElem?_eq_some_iff.1 ht).1;simp at this;omega
   subst t9;rw[← h.le]at hy;simp at ht hy;subst ht hy;obtain⟨⟨f,hf,hfc⟩,hl⟩:=hd i hi e;refine⟨?_,?_,x3,x4⟩
   · rw[x1,hf,Int.toNat_natCast,upd_other _ _ (by omega)]
   ·
    rw[x2];apply List.map_congr_left
    intro p hp;have:=hl p hp;rw[upd_other _ _ (by omega)]
theorem LyM.skip (h:LyM d nd BP i pl idx cs vo vc vs w wr) (e:(d.C i).num=-1) (hn:nd i=false):LyM d nd BP (i+1) pl idx cs vo vc vs w wr :=
  ⟨h.ly.skip e hn,h.op,h.oo,h.cw,h.nn,h.bl,h.bp,h.ow,h.bd⟩
theorem LyM.put (h:LyM d nd BP i pl idx cs vo vc vs w wr) {i':Nat} {idx':List Nat} (hi:i<d.nc) (z:Int) (h1:-100000001≤z) (h2:z≤100000001) (hl:Lay d nd i' (upd pl i z) idx' cs):LyM d nd BP i' (upd pl i z) idx' cs vo vc vs w (wr.setCell ⟨BP,i,none⟩ (.int .i64 z)):=by
 have oth:∀b,b≠BP→(wr.setCell ⟨BP,i,none⟩ (.int .i64 z)).heap[b]?=wr.heap[b]?:=fun b hb=>heap_setCell_other wr ⟨BP,i,none⟩ b _ hb
 have st:=h.op.set (i:=i) (j:=0) hi (by decide) (.int .i64 z) (f':=fun j=>[.int .i64 (upd pl i z j)]) (fun _ _=>rfl) (by simp[upd_same]) (fun k _ hk=>by simp[upd_other _ _ hk])
 rw[Nat.mul_one,Nat.add_zero]at st;have tp:∀{sz:Nat} {e:TypeId} {v:Value} {n:Nat} {f:Nat→List Value},OL sz e wr v n f→e≠3→OL sz e (wr.setCell ⟨BP,i,none⟩ (.int .i64 z)) v n f:=by
  intro sz e v n f ho he;refine ho.stay (fun b hb=>oth b ?_)
  intro e9;subst e9;exact h.op.ne ho (fun e9=>he e9.symm) (b:=b) rfl hb
 refine⟨hl,st,tp h.oo (by decide),fun t x ht=>?_,tp h.nn (by decide),h.bl.setCell (p:=⟨BP,i,none⟩) h.bp _,h.bp,h.ow,fun j hj=>?_⟩
 · obtain⟨c1,c2,c3,c4⟩:=h.cw t x ht;exact⟨c1.stay (fun b hb=>oth b (c3 b hb).2),tp c2 (by decide),c3,c4⟩
 ·
  by_cases e:j=i
  · subst e;rw[upd_same];exact⟨h1,h2⟩
  · rw[upd_other _ _ e];exact h.bd j hj
theorem LyM.added (h:LyM d nd BP i pl idx cs vo vc vs w wr) (hd:Ahd d) {nu:Int} (hi:i<d.nc) (e:(d.C i).num=nu) (hn:nu≠-1) (h1:-100000001≤nu) (h2:nu≤100000001):LyM d nd BP (i+1) (upd pl i nu) idx cs vo vc vs w (wr.setCell ⟨BP,i,none⟩ (.int .i64 nu)) :=
  h.put hi nu h1 h2 (by rw[← e];exact h.ly.added hd hi (by rw[e];exact hn))
theorem LyM.learn (h:LyM d nd BP i pl idx cs vo vc vs w wr) (hd:Ahd d) (hi:i<d.nc) (hm:d.nc≤100000000) (e:(d.C i).num=-1) (en:nd i=true) {x:Chn} (x1:x.first=pl (d.C i).first.toNat) (x2:x.steps=(d.C i).links.map (fun p=>(pl p.1,(p.2:Int)))) (x3:x.clause.Perm ((d.C i).lits.map num)) (x4:x.clause.Pairwise (fun a b=>¬ bv b a))
  {v' uc us:Value} {wa:World} (ap:App vo v' wr wa) (ho:OL 3 98 wa v' (cs.length+1) (chC (cs++[x]) (upd vc cs.length uc) (upd vs cs.length us)))
  (o1:OL 1 3 wr uc x.clause.length (izC x.clause)) (o2:OL 2 100 wr us x.steps.length (skC x.steps)) (b1:∀b,uc.ownBlock=some b→w.heap.size≤b∧b≠BP) (b2:∀b,us.ownBlock=some b→w.heap.size≤b):LyM d nd BP (i+1) (upd pl i (-((cs.length:Int)+1))) (idx++[i]) (cs++[x]) v' (upd vc cs.length uc) (upd vs cs.length us) w (wa.setCell ⟨BP,i,none⟩ (.int .i64 (-((cs.length:Int)+1)))):=by
 have hl:=h.ly.learn hd hi e en x1 x2 x3 x4;have hlen:cs.length≤i:=by
  rw[h.ly.le];exact up_le h.ly.up (fun t c ht=>(h.ly.ix t c ht).1)
 have tp:∀{sz:Nat} {e:TypeId} {v:Value} {n:Nat} {f:Nat→List Value},OL sz e wr v n f→e≠98→OL sz e wa v n f:=by
  intro sz e v n f ho9 he;refine ho9.stay (fun b hb=>ap.other b (ho9.lt hb) (fun e9=>?_))
  exact h.oo.ne ho9 (fun e9=>he e9.symm) (b:=b) e9 hb
 have oth:∀b,b≠BP→(wa.setCell ⟨BP,i,none⟩ (.int .i64 (-((cs.length:Int)+1)))).heap[b]?=wa.heap[b]?:=fun b hb=>heap_setCell_other wa ⟨BP,i,none⟩ b _ hb
 have op1:=tp h.op (by decide)
 have st:=op1.set (i:=i) (j:=0) hi (by decide) (.int .i64 (-((cs.length:Int)+1))) (f':=fun j=>[.int .i64 (upd pl i (-((cs.length:Int)+1)) j)]) (fun _ _=>rfl) (by simp[upd_same]) (fun k _ hk=>by simp[upd_other _ _ hk])
 rw[Nat.mul_one,Nat.add_zero]at st;have tq:∀{sz:Nat} {e:TypeId} {v:Value} {n:Nat} {f:Nat→List Value},OL sz e wa v n f→e≠3→OL sz e (wa.setCell ⟨BP,i,none⟩ (.int .i64 (-((cs.length:Int)+1)))) v n f:=by
  intro sz e v n f ho9 he;refine ho9.stay (fun b hb=>oth b ?_)
  intro e9;subst e9;exact op1.ne ho9 (fun e9=>he e9.symm) (b:=b) rfl hb
 have sz9:w.heap.size≤wr.heap.size:=h.bl.size;refine⟨hl,st,?_,fun t y ht=>?_,tq (tp h.nn (by decide)) (by decide),(h.bl.trans (App.toB ap sz9 h.ow)).setCell (p:=⟨BP,i,none⟩) h.bp _,h.bp,fun b hb=>?_,fun j hj=>?_⟩
 · rw[List.length_append];exact tq ho (by decide)
 ·
  by_cases e9:t<cs.length
  ·
   rw[List.getElem?_append_left e9]at ht;obtain⟨c1,c2,c3,c4⟩:=h.cw t y ht;rw[upd_other _ _ (by omega),upd_other _ _ (by omega)]
   exact⟨(tp c1 (by decide)).stay (fun b hb=>oth b (c3 b hb).2),tq (tp c2 (by decide)) (by decide),c3,c4⟩
  ·
   have t9:t=cs.length:=by
    have:=(List.getElem?_eq_some_iff.1 ht).1;simp at this;omega
   subst t9;simp at ht;subst ht;rw[upd_same,upd_same];exact⟨(tp o1 (by decide)).stay (fun b hb=>oth b (b1 b hb).2),tq (tp o2 (by decide)) (by decide),b1,b2⟩
 ·
  rcases ap.at_ with e9|⟨b9,e9,h9⟩
  · exact h.ow b (by rw[← e9];exact hb)
  · rw[e9]at hb;cases hb;omega
 ·
  by_cases e9:j=i
  · subst e9;rw[upd_same];omega
  · rw[upd_other _ _ e9];exact h.bd j hj
end
theorem CI.few {nv nc:Nat} {C:Nat→Cl} (h:CI nv nc C) {c:Nat} (hc:c<nc):(C c).lits.length≤nv+1:=by
 have h2:=nodup_sub (List.range (nv+1)) _ (h.nd c hc) (fun x hx=>by
  obtain⟨m,hm,rfl⟩:=List.mem_map.1 hx;have:=(h.ok c hc m hm).2;exact List.mem_range.2 (by omega))
 simpa using h2
theorem uLk:Tryz.prog.underlying 96=some (.slice 100):=by kernel_rfl
theorem iLk:(Tryz.prog.info? 100).map (fun i=>(i.zero,i.size,i.bytes))=some (some (.agg #[.int .i64 0,.int .i64 0]),2,16):=by kernel_rfl
theorem uCh:Tryz.prog.underlying 51=some (.slice 98):=by kernel_rfl
theorem iCh:(Tryz.prog.info? 98).map (fun i=>(i.zero,i.size,i.bytes))=some (some (.agg #[.slice none 0 0,.int .i64 0,.slice none 0 0]),3,56):=by kernel_rfl
def Oc (d:Dt) (i B:Nat) (ys:List Int) (u:Value) (wr:World):Prop:=OL 1 3 wr u ys.length (izC ys)∧ys.Perm ((d.C i).lits.map num)∧ys.Pairwise (fun a b=>¬ bv b a)∧∀b,u.ownBlock=some b→B≤b
def OcE (d:Dt) (i B:Nat) (u:Value) (wr:World):Prop:=∃ys,Oc d i B ys u wr
def Pq (B:Nat) (u:Value) (wr:World):Prop:=∃q,u=.pointer (some ⟨q,0,none⟩)∧B≤q∧wr.heap[q]?=some (.cells #[.slice none 0 0,.int .i64 0,.slice none 0 0] 98 (0,0))
def PQ (d:Dt) (i B:Nat) (z:Int) (u c:Value) (wr:World):Prop:=∃q ys,u=.pointer (some ⟨q,0,none⟩)∧B≤q∧wr.heap[q]?=some (.cells #[c,.int .i64 z,.slice none 0 0] 98 (0,0))∧Oc d i B ys c wr
theorem Oc.below {d:Dt} {i B:Nat} {ys:List Int} {u:Value} {wr wr':World} (h:Oc d i B ys u wr) (hb:Below wr.heap.size wr wr'):Oc d i B ys u wr':=⟨h.1.stay (fun b hb9=>hb.block b (h.1.lt hb9)),h.2⟩
theorem OcE.below {d:Dt} {i B:Nat} {u:Value} {wr wr':World} (h:OcE d i B u wr) (hb:Below wr.heap.size wr wr'):OcE d i B u wr':=by
 obtain⟨ys,h⟩:=h;exact⟨ys,h.below hb⟩
theorem Pq.below {B:Nat} {u:Value} {wr wr':World} (h:Pq B u wr) (hb:Below wr.heap.size wr wr'):Pq B u wr':=by
 obtain⟨q,h1,h2,h3⟩:=h;exact⟨q,h1,h2,(hb.block q (Array.getElem?_eq_some_iff.1 h3).1).trans h3⟩
structure InM (d:Dt) (i B q:Nat) (z:Int) (S:List (Int × Int)) (ys:List Int) (uc us:Value) (k:Nat) (w2 wr:World):Prop where
  bl:Below B w2 wr
  oc:Oc d i B ys uc wr
  hq:B≤q
  qb:wr.heap[q]?=some (.cells #[uc,.int .i64 z,us] 98 (0,0))
  os:OL 2 100 wr us k (skC S)
  bs:∀b,us.ownBlock=some b→B≤b
theorem InM.below {d:Dt} {i B q:Nat} {z:Int} {S:List (Int × Int)} {ys:List Int} {uc us:Value} {k:Nat} {w2 wr wr':World} (h:InM d i B q z S ys uc us k w2 wr) (hB:B≤wr.heap.size) (hb:Below wr.heap.size wr wr'):InM d i B q z S ys uc us k w2 wr' :=
  ⟨h.bl.trans (hb.mono hB),h.oc.below hb,h.hq,(hb.block q (Array.getElem?_eq_some_iff.1 h.qb).1).trans h.qb,h.os.stay (fun b hb9=>hb.block b (h.os.lt hb9)),h.bs⟩
theorem InM.push {d:Dt} {i B q:Nat} {z:Int} {S:List (Int × Int)} {ys:List Int} {uc us:Value} {k:Nat} {w2 wr wr':World} (h:InM d i B q z S ys uc us k w2 wr) (hB:B≤wr.heap.size) {v:Value} (ho:OL 2 100 wr' v (k+1) (skC S)) (ap:App us v wr wr'):InM d i B q z S ys uc v (k+1) w2 (wr'.setCell ⟨q,2,none⟩ v):=by
 have lq:=(Array.getElem?_eq_some_iff.1 h.qb).1;have q1:wr'.heap[q]?=some (.cells #[uc,.int .i64 z,us] 98 (0,0)):=(ap.other q lq (h.os.neB h.qb (by decide))).trans h.qb
 have oc1:Oc d i B ys uc wr':=⟨h.oc.1.stay (fun b hb=>ap.other b (h.oc.1.lt hb) (fun e9=>h.os.ne h.oc.1 (by decide) e9 hb)),h.oc.2⟩
 have bs1:∀b,v.ownBlock=some b→B≤b:=fun b hb=>by
  rcases ap.at_ with e9|⟨b9,e9,h9⟩
  · exact h.bs b (by rw[← e9];exact hb)
  · rw[e9]at hb;cases hb;omega
 have oth:∀b,b≠q→(wr'.setCell ⟨q,2,none⟩ v).heap[b]?=wr'.heap[b]?:=fun b hb=>heap_setCell_other wr' ⟨q,2,none⟩ b _ hb
 refine⟨(h.bl.trans (App.toB ap hB h.bs)).setCell (p:=⟨q,2,none⟩) h.hq _,⟨oc1.1.stay (fun b hb=>oth b (fun e9=>?_)),oc1.2⟩,h.hq,?_,ho.stay (fun b hb=>oth b (fun e9=>?_)),bs1⟩
 · subst e9;exact oc1.1.neB q1 (by decide) hb
 · exact heap_setCell_same wr' q 2 _ _ v q1
 · subst e9;exact ho.neB q1 (by decide) hb
set_option maxRecDepth 20000 in
set_option maxHeartbeats 16000000 in
theorem layOut_any (g:Nat) (d:Dt) (a:Key→Value) (w:World) (h:SK w g d a) (hn:0<d.nc) (hm:d.nc≤100000000) (hnv:d.nv≤5000) (ci:CI d.nv d.nc d.C) (hd:∀c,c<d.nc→(d.C c).num=-1→(∃f:Nat,(d.C c).first=(f:Int)∧f<c)∧∀p∈(d.C c).links,p.1<c) (hnum:∀c,c<d.nc→(d.C c).num≠-1→0≤(d.C c).num∧(d.C c).num≤100000000) (hlks:∀c,c<d.nc→(d.C c).num=-1→(d.C c).links.length≤1000000∧∀p∈(d.C c).links,p.2≤5000) :
  Calls Tryz.prog 54 #[.pointer (some ⟨g,0,none⟩)] w fun e w'=>∃nd BP pl idx cs vo vc vs,e=.returned vo∧LyM d nd BP d.nc pl idx cs vo vc vs w w'∧nd (d.nc - 1)=true∧∀c,c<d.nc→Clo d nd c:=by
 have HND:=hide (needed_any g d a w h hn hm hd);have hlg:=h.lt;obtain⟨bC,cC,hC,-⟩:=h.clzR hn;have H:=hide (And.intro h (And.intro ci (And.intro hd (And.intro hC (And.intro hnum hlks)))));have hnI:(d.nc:Int)≤100000000:=by omega
 obtain⟨nc,hnc⟩:∃nc,d.nc=nc:=⟨_,rfl⟩;have HNC:=hide hnc;rw[hnc]at hnI hn hm HND;clear h ci hd hC hnc hnum hlks;go_enter Tryz.func54,Tryz.ntmps54;go_wp2_with fail
 refine HND.out.mono ?_;rintro e w1 ⟨rfl,nd,hnd⟩;have s1:=H.out.1.below hnd.bl;have c2:w1.cell? ⟨g,2,none⟩=some (.slice (some ⟨bC,0,none⟩) nc cC):=by rw[← HNC.out];exact s1.c2.trans (congrArg some H.out.2.2.2.1)
 have lg1:=s1.lt;have HN1:=hide hnd;clear hnd s1 HND;go_wp2_with (at_make;refine wpList_make_ol _ rfl _ _ 35 rfl 3 (.int .i64 0) 1 8 u_cloneI i_cloneI rfl _ _ _ _ nc nc rfl rfl rfl rfl (Nat.le_refl _) (by decide) (by omega) ?_;intro w2 hr2 hb2 hz2;have k2:w2.cell? ⟨g,2,none⟩=some (.slice (some ⟨bC,0,none⟩) nc cC):=(World.cell?_of_block (a:=⟨g,2,none⟩) (hb2.block g lg1)).trans c2;have lg2:g<w2.heap.size:=Nat.lt_of_lt_of_le lg1 hb2.size;have H2:=hide (And.intro hr2 (And.intro hb2 hz2));clear hr2 hb2 hz2)
 have HS:Hid (LyM d nd w1.heap.size 0 (fun _=>0) [] [] (.slice none 0 0) (fun _=>.slice none 0 0) (fun _=>.slice none 0 0) w w2):=by
  have bl:Below w.heap.size w w2:=HN1.out.bl.trans (H2.out.2.1.mono HN1.out.bl.size);refine⟨⟨rfl,fun c hc=>absurd hc (Nat.not_lt_zero _),fun c hc=>absurd hc (Nat.not_lt_zero _),fun t c ht=>(by simp at ht),List.Pairwise.nil,fun t c x ht=>(by simp at ht)⟩,?_,OL.nil _ _ _ _,fun t x ht=>(by simp at ht),HN1.out.ol.stay (fun b hb=>H2.out.2.1.block b (HN1.out.ol.lt hb)),bl,HN1.out.bl.size,fun b hb=>(by cases hb),fun j hj=>⟨by omega,by omega⟩⟩
  rw[HNC.out];exact H2.out.1
 have HLA:=hide (And.intro HN1.out.la HN1.out.cl);obtain⟨BP,hBP⟩:∃BP,w1.heap.size=BP:=⟨_,rfl⟩;rw[hBP]at HS ⊢;clear c2 k2 lg2 H2 HN1 lg1 hBP;go_loopw [5,24] (fun v5 v24 wr=>∃(i:Nat) (pl:Nat→Int) (idx:List Nat) (cs:List Chn) (vc vs:Nat→Value) (qo:Option Addr) (nl co:Nat),v5=.slice qo nl co∧v24=.int .i64 (i:Nat)∧i≤nc∧Hid (LyM d nd BP i pl idx cs (.slice qo nl co) vc vs w wr∧nl=cs.length)) (fun _ v _=>nc - (intOf v).toNat)
 case atStart=>exact⟨0,_,_,_,_,_,none,0,0,rfl,rfl,Nat.zero_le _,HS.out,rfl⟩
 case round =>
  rename World=>wl
  clear HS;obtain⟨i,pl,idx,cs,vc,vs,qo,nl,co,rfl,rfl,hi,HJ0⟩:=hrel;have HJ:=hide HJ0.out.1;have HNL:=hide HJ0.out.2;clear HJ0;by_cases hlt:i<nc
  ·
   have hltI:(i:Int)<(nc:Int):=by omega
   have hcd:i<d.nc:=by rw[HNC.out];exact hlt
   have s1:=H.out.1.below HJ.out.bl;obtain⟨bC',cC',hC',lC',qC',-⟩:=s1.clzR (by omega)
   have e9:Value.slice (some ⟨bC,0,none⟩) d.nc cC=Value.slice (some ⟨bC',0,none⟩) d.nc cC':=H.out.2.2.2.1.symm.trans hC';cases e9
   obtain⟨q0,q1,q2,q3⟩:=qC' i hcd;have lg:g<wl.heap.size:=s1.lt;obtain⟨ql,cl,hvl,-⟩:=(s1.ol (k:=kLit i) hcd).shape;obtain⟨qk,ck,hvk,-⟩:=(s1.ol (k:=kLnk i) hcd).shape;have hvl':a (kLit i)=.slice ql (d.C i).lits.length cl:=hvl;have hvk':a (kLnk i)=.slice qk (d.C i).links.length ck:=hvk;rw[hvl']at q0;rw[hvk']at q3;obtain⟨ll,hll⟩:∃ll,(d.C i).lits.length=ll:=⟨_,rfl⟩;obtain⟨lk,hlk⟩:∃lk,(d.C i).links.length=lk:=⟨_,rfl⟩;rw[hll]at q0;rw[hlk]at q3;obtain⟨nu,hnu⟩:∃nu,(d.C i).num=nu:=⟨_,rfl⟩;obtain⟨fi,hfi⟩:∃fi,(d.C i).first=fi:=⟨_,rfl⟩
   rw[hnu]at q1;rw[hfi]at q2;obtain⟨w2,hw2⟩:∃w2,wl.alloc (.cells #[.slice ql ll cl,.int .i64 nu,.int .i64 fi,.slice qk lk ck] 86 (0,0))=w2:=⟨_,rfl⟩;have bl2:Below wl.heap.size wl w2:=by rw[← hw2];exact (Below.refl _ _).alloc (Nat.le_refl _) _
   have kb2:w2.heap[wl.heap.size]?=some (.cells #[.slice ql ll cl,.int .i64 nu,.int .i64 fi,.slice qk lk ck] 86 (0,0)):=by rw[← hw2];exact heap_alloc_new wl _
   have lw2:wl.heap.size<w2.heap.size:=by rw[← hw2];simp
   have p1:w2.cell? ⟨wl.heap.size,1,none⟩=some (.int .i64 nu):=cell_of_row w2 wl.heap.size 1 _ _ (0,0) kb2;have J2:=hide (HJ.out.below bl2);have qp:w2.cell? ⟨BP,i,none⟩=some (.int .i64 (pl i)):=by
    have h9:=J2.out.op.cell hcd (show 0<1 by decide)
    rw[Nat.mul_one,Nat.add_zero]at h9;exact h9
   have zp:w2.frozen? ⟨BP,i,none⟩=false:=J2.out.op.frozen i;have lBP:BP<w2.heap.size:=J2.out.op.lt rfl;have qn:w2.cell? ⟨w.heap.size,i,none⟩=some (.bool (nd i)):=by
    have h9:=J2.out.nn.cell hcd (show 0<1 by decide)
    rw[Nat.mul_one,Nat.add_zero]at h9;exact h9
   have lBN:w.heap.size<w2.heap.size:=J2.out.nn.lt rfl;have HOLs:=hide (And.intro (s1.ol (k:=kLit i) hcd) (And.intro hvl' hll));have HOLk:=hide (And.intro (s1.ol (k:=kLnk i) hcd) (And.intro hvk' hlk));have HQ:=hide (And.intro hnu hfi);have HB2:=hide (And.intro bl2 kb2);clear s1 hC' lC' qC' hvl hvk hvl' hvk' hll hlk hnu hfi bl2 kb2 HJ;by_cases hnu1:nu=-1
   ·
    subst hnu1;cases hndc:nd i with
    | false =>
     rw[hndc]at qn;have HE:Hid (LyM d nd BP (i+1) pl idx cs (.slice qo nl co) vc vs w w2):=J2.out.skip HQ.out.1 hndc;clear qp zp lBP;go_wp2;go_roundw
     case rel=>exact⟨i+1,pl,idx,cs,vc,vs,qo,nl,co,rfl,by go_num,by omega,HE.out,HNL.out⟩
     case measure=>simp[intOf]<;>omega
    | true =>
     rw[hndc]at qn;obtain⟨⟨f,hf,hfc⟩,hll9⟩:=H.out.2.2.1 i hcd HQ.out.1;obtain rfl:fi=(f:Int):=HQ.out.2.symm.trans hf;obtain⟨plf,hplf⟩:∃plf,pl f=plf:=⟨_,rfl⟩;have qf:w2.cell? ⟨BP,f,none⟩=some (.int .i64 plf):=by
      have h9:=J2.out.op.cell (i:=f) (by omega) (show 0<1 by decide)
      rw[Nat.mul_one,Nat.add_zero]at h9;rw[h9,← hplf];rfl
     have hfnI:(f:Int)<(nc:Int):=by omega
     have p0:w2.cell? ⟨wl.heap.size,0,none⟩=some (.slice ql ll cl):=cell_of_row w2 wl.heap.size 0 _ _ (0,0) HB2.out.2;have p2:w2.cell? ⟨wl.heap.size,2,none⟩=some (.int .i64 (f:Nat)):=cell_of_row w2 wl.heap.size 2 _ _ (0,0) HB2.out.2;have HO:Hid (∀wr,Below w2.heap.size w2 wr→Calls Tryz.prog 41 #[.slice ql ll cl] wr fun e w'=>∃v',e=.returned v'∧OcE d i w2.heap.size v' w'∧Below wr.heap.size wr w'):=by
      intro wr hb;have o9:=HOLs.out.1.stay (fun b hb9=>(HB2.out.1.trans (hb.mono HB2.out.1.size)).block b (HOLs.out.1.lt hb9))
      have e9:=H.out.2.1.few hcd;refine (outside_any (.slice ql ll cl) (d.C i).lits wr (by rw[← HOLs.out.2.2,← HOLs.out.2.1];exact o9) (fun m hm=>?_) (by omega)).mono ?_
      · have:=(H.out.2.1.ok i hcd m hm).2;omega
      · rintro e w' ⟨v',ys,he,h1,h2,h3,h4,h5⟩;exact⟨v',he,⟨ys,h3,h1,h2,fun b hb9=>by rw[h4]at hb9;cases hb9;exact hb.size⟩,h5⟩
     have HST:Hid (∀(wr:World) (q9:Nat) (qa:Option Addr) (na ca:Nat) (ys:List Int),Below w2.heap.size w2 wr→w2.heap.size≤q9→wr.heap[q9]?=some (.cells #[.slice none 0 0,.int .i64 0,.slice none 0 0] 98 (0,0))→Oc d i w2.heap.size ys (.slice qa na ca) wr→ys.length=na→Below w2.heap.size w2 (((wr.setCell ⟨q9,0,none⟩ (.slice qa na ca)).setCell ⟨q9,1,none⟩ (.int .i64 plf)).setCell ⟨q9,2,none⟩ (.slice none 0 0))∧Oc d i w2.heap.size ys (.slice qa na ca) (((wr.setCell ⟨q9,0,none⟩ (.slice qa na ca)).setCell ⟨q9,1,none⟩ (.int .i64 plf)).setCell ⟨q9,2,none⟩ (.slice none 0 0))∧PQ d i w2.heap.size plf (.pointer (some ⟨q9,0,none⟩)) (.slice qa na ca) (((wr.setCell ⟨q9,0,none⟩ (.slice qa na ca)).setCell ⟨q9,1,none⟩ (.int .i64 plf)).setCell ⟨q9,2,none⟩ (.slice none 0 0))):=by
      intro wr q9 qa na ca ys hb hq kb oc hna;have t3:=heap_setCell_same _ q9 2 _ _ (.slice none 0 0) (heap_setCell_same _ q9 1 _ _ (.int .i64 plf) (heap_setCell_same wr q9 0 _ _ (.slice qa na ca) kb));have oc3:Oc d i w2.heap.size ys (.slice qa na ca) (((wr.setCell ⟨q9,0,none⟩ (.slice qa na ca)).setCell ⟨q9,1,none⟩ (.int .i64 plf)).setCell ⟨q9,2,none⟩ (.slice none 0 0)):=by
       refine⟨oc.1.stay (fun b hb9=>?_),oc.2⟩
       have hne:b≠q9:=fun e9=>by subst e9;exact oc.1.neB kb (by decide) hb9
       rw[heap_setCell_other _ ⟨q9,2,none⟩ b _ hne,heap_setCell_other _ ⟨q9,1,none⟩ b _ hne,heap_setCell_other _ ⟨q9,0,none⟩ b _ hne]
      exact⟨((hb.setCell (p:=⟨q9,0,none⟩) hq _).setCell (p:=⟨q9,1,none⟩) hq _).setCell (p:=⟨q9,2,none⟩) hq _,oc3,⟨q9,ys,rfl,hq,t3,oc3⟩⟩
     have HP3:=hide (And.intro hplf (And.intro hfc hll9));clear qp zp hplf hf hfc hll9;go_wp2_with fail
     refine wp_region_E (by kernel_rfl) [some 42,some 43,some 44,some 45,some 46,some 47,some 48,some 49,some 50,some 8,none] [none,none,none,none,none,none,none,none,some 8,none,none,none,none,none,none,none,none,none,none,none,none,none,none,none,none,none,none,none,none,none,none,none,none,none,none,none,none,none,none,none,none,none,some 42,some 43,some 44,some 45,some 46,some 47,some 48,some 49,some 50] (fun U=>by kernel_rfl) [fun u=>u=(.pointer (some ⟨wl.heap.size,0,none⟩)),fun u=>u=(.slice ql ll cl),fun _=>True,fun u=>u=(.slice (some ⟨BP,0,none⟩) nc nc),fun u=>u=(.pointer (some ⟨wl.heap.size,2,none⟩)),fun u=>u=(.int .i64 (f:Nat)),fun u=>u=(.pointer (some ⟨BP,f,none⟩)),fun u=>u=(.int .i64 plf),fun _=>True,fun _=>True,fun _=>True] (fun L U wr=>Below w2.heap.size w2 wr∧(L 2=true→OcE d i w2.heap.size (U 44) wr)∧(L 8=true→U 50=.agg #[U 44,.int .i64 plf,.slice none 0 0])∧(L 9=true→L 10=false→Pq w2.heap.size (U 8) wr)∧(L 10=true→(L 0=true∧L 1=true∧L 2=true∧L 3=true∧L 4=true∧L 5=true∧L 6=true∧L 7=true∧L 8=true∧L 9=true)∧PQ d i w2.heap.size plf (U 8) (U 44) wr)) (by kernel_rfl) (by decide) (by kernel_rfl) (by kernel_rfl) ?_ ?_ ?_
     · exact fun U=>⟨(Below.refl _ _).drew,(fun h=>by cases h),(fun h=>by cases h),(fun h=>by cases h),(fun h=>by cases h)⟩
     ·
      refine StepsE.run rfl ?_ ?_
      ·
       intro L U wr hC hP hlk hcl haf A K hFm hK;simp[Aft,Region.binds]at haf;have e7:A.tmps[7]?=some (.pointer (some ⟨wl.heap.size,0,none⟩)):=(hFm.old 7 (by decide)).trans (by kernel_rfl)
       refine⟨?_⟩;have HC:Hid _:=hC;clear hC;go_simp;refine hK _ _ rfl ?_;obtain⟨c0,cA,c8,cP,cS⟩:=HC.out;exact⟨c0,(fun h=>by have h9:=cA (by simpa using h);simpa [updO,Go.Proofs.YtbmkkhpoaicclabGreat.upd] using h9),(fun h=>by have h9:=c8 (by simpa using h);simpa [updO,Go.Proofs.YtbmkkhpoaicclabGreat.upd] using h9),(fun h1 h2=>by have h9:=cP (by simpa using h1) (by simpa using h2);simpa [updO,Go.Proofs.YtbmkkhpoaicclabGreat.upd] using h9),fun h=>absurd (cS (by simpa using h)).1 (by simp[hlk])⟩
      refine StepsE.run rfl ?_ ?_
      ·
       intro L U wr hC hP hlk hcl haf A K hFm hK;simp[Aft,Region.binds]at haf;have g0:U 42=(.pointer (some ⟨wl.heap.size,0,none⟩)):=hP 0 42 (by simp[haf]) rfl
       have e42:A.tmps[42]?=some (.pointer (some ⟨wl.heap.size,0,none⟩)):=hFm.is 0 42 rfl g0;have m0:wr.cell? ⟨wl.heap.size,0,none⟩=some (.slice ql ll cl):=(World.cell?_of_block (a:=⟨wl.heap.size,0,none⟩) (hC.1.block _ lw2)).trans p0;have m2:wr.cell? ⟨wl.heap.size,2,none⟩=some (.int .i64 (f:Nat)):=(World.cell?_of_block (a:=⟨wl.heap.size,2,none⟩) (hC.1.block _ lw2)).trans p2;have mf:wr.cell? ⟨BP,f,none⟩=some (.int .i64 plf):=(World.cell?_of_block (a:=⟨BP,f,none⟩) (hC.1.block _ lBP)).trans qf;have ml1:wl.heap.size<wr.heap.size:=Nat.lt_of_lt_of_le lw2 hC.1.size;have ml2:BP<wr.heap.size:=Nat.lt_of_lt_of_le lBP hC.1.size;refine⟨?_⟩;have HC:Hid _:=hC;clear hC;go_simp;refine hK _ _ rfl ?_;obtain⟨c0,cA,c8,cP,cS⟩:=HC.out;exact⟨c0,(fun h=>by have h9:=cA (by simpa using h);simpa [updO,Go.Proofs.YtbmkkhpoaicclabGreat.upd] using h9),(fun h=>by have h9:=c8 (by simpa using h);simpa [updO,Go.Proofs.YtbmkkhpoaicclabGreat.upd] using h9),(fun h1 h2=>by have h9:=cP (by simpa using h1) (by simpa using h2);simpa [updO,Go.Proofs.YtbmkkhpoaicclabGreat.upd] using h9),fun h=>absurd (cS (by simpa using h)).1 (by simp[hlk])⟩
      refine StepsE.run rfl ?_ ?_
      ·
       intro L U wr hC hP hlk hcl haf A K hFm hK;simp[Aft,Region.binds]at haf;have g1:U 43=(.slice ql ll cl):=hP 1 43 (by simp[haf]) rfl
       have e43:A.tmps[43]?=some (.slice ql ll cl):=hFm.is 1 43 rfl g1;refine⟨?_⟩;have HC:Hid _:=hC;clear hC;go_simp;refine (HO.out wr HC.out.1).mono ?_;rintro e w1 ⟨v9,rfl,ho9,hb9⟩;go_simp;obtain⟨c0,cA,c8,cP,cS⟩:=HC.out;refine hK _ _ trivial ⟨c0.trans (hb9.mono c0.size),fun _=>?_,fun h=>?_,fun h1 h2=>?_,fun h=>absurd (cS (by simpa using h)).1 (by simp[hlk])⟩
       · simp only[updO,Go.Proofs.YtbmkkhpoaicclabGreat.upd,beq_self_eq_true,cond_true];exact ho9
       ·
        have h9:=hcl 8 _ rfl (by simpa using h)
        simp[Aft,Region.binds,hlk]at h9
       ·
        have h9:=cP (by simpa using h1) (by simpa using h2)
        simpa [updO,Go.Proofs.YtbmkkhpoaicclabGreat.upd] using h9.below hb9
      refine StepsE.run rfl ?_ ?_
      ·
       intro L U wr hC hP hlk hcl haf A K hFm hK;simp[Aft,Region.binds]at haf;have e4:A.tmps[4]?=some (.slice (some ⟨BP,0,none⟩) nc nc):=(hFm.old 4 (by decide)).trans (by kernel_rfl)
       refine⟨?_⟩;have HC:Hid _:=hC;clear hC;go_simp;refine hK _ _ rfl ?_;obtain⟨c0,cA,c8,cP,cS⟩:=HC.out;exact⟨c0,(fun h=>by have h9:=cA (by simpa using h);simpa [updO,Go.Proofs.YtbmkkhpoaicclabGreat.upd] using h9),(fun h=>by have h9:=c8 (by simpa using h);simpa [updO,Go.Proofs.YtbmkkhpoaicclabGreat.upd] using h9),(fun h1 h2=>by have h9:=cP (by simpa using h1) (by simpa using h2);simpa [updO,Go.Proofs.YtbmkkhpoaicclabGreat.upd] using h9),fun h=>absurd (cS (by simpa using h)).1 (by simp[hlk])⟩
      refine StepsE.run rfl ?_ ?_
      ·
       intro L U wr hC hP hlk hcl haf A K hFm hK;simp[Aft,Region.binds]at haf;have e7:A.tmps[7]?=some (.pointer (some ⟨wl.heap.size,0,none⟩)):=(hFm.old 7 (by decide)).trans (by kernel_rfl)
       refine⟨?_⟩;have HC:Hid _:=hC;clear hC;go_simp;refine hK _ _ rfl ?_;obtain⟨c0,cA,c8,cP,cS⟩:=HC.out;exact⟨c0,(fun h=>by have h9:=cA (by simpa using h);simpa [updO,Go.Proofs.YtbmkkhpoaicclabGreat.upd] using h9),(fun h=>by have h9:=c8 (by simpa using h);simpa [updO,Go.Proofs.YtbmkkhpoaicclabGreat.upd] using h9),(fun h1 h2=>by have h9:=cP (by simpa using h1) (by simpa using h2);simpa [updO,Go.Proofs.YtbmkkhpoaicclabGreat.upd] using h9),fun h=>absurd (cS (by simpa using h)).1 (by simp[hlk])⟩
      refine StepsE.run rfl ?_ ?_
      ·
       intro L U wr hC hP hlk hcl haf A K hFm hK;simp[Aft,Region.binds]at haf;have g4:U 46=(.pointer (some ⟨wl.heap.size,2,none⟩)):=hP 4 46 (by simp[haf]) rfl
       have e46:A.tmps[46]?=some (.pointer (some ⟨wl.heap.size,2,none⟩)):=hFm.is 4 46 rfl g4;have m0:wr.cell? ⟨wl.heap.size,0,none⟩=some (.slice ql ll cl):=(World.cell?_of_block (a:=⟨wl.heap.size,0,none⟩) (hC.1.block _ lw2)).trans p0;have m2:wr.cell? ⟨wl.heap.size,2,none⟩=some (.int .i64 (f:Nat)):=(World.cell?_of_block (a:=⟨wl.heap.size,2,none⟩) (hC.1.block _ lw2)).trans p2;have mf:wr.cell? ⟨BP,f,none⟩=some (.int .i64 plf):=(World.cell?_of_block (a:=⟨BP,f,none⟩) (hC.1.block _ lBP)).trans qf;have ml1:wl.heap.size<wr.heap.size:=Nat.lt_of_lt_of_le lw2 hC.1.size;have ml2:BP<wr.heap.size:=Nat.lt_of_lt_of_le lBP hC.1.size;refine⟨?_⟩;have HC:Hid _:=hC;clear hC;go_simp;refine hK _ _ rfl ?_;obtain⟨c0,cA,c8,cP,cS⟩:=HC.out;exact⟨c0,(fun h=>by have h9:=cA (by simpa using h);simpa [updO,Go.Proofs.YtbmkkhpoaicclabGreat.upd] using h9),(fun h=>by have h9:=c8 (by simpa using h);simpa [updO,Go.Proofs.YtbmkkhpoaicclabGreat.upd] using h9),(fun h1 h2=>by have h9:=cP (by simpa using h1) (by simpa using h2);simpa [updO,Go.Proofs.YtbmkkhpoaicclabGreat.upd] using h9),fun h=>absurd (cS (by simpa using h)).1 (by simp[hlk])⟩
      refine StepsE.run rfl ?_ ?_
      ·
       intro L U wr hC hP hlk hcl haf A K hFm hK;simp[Aft,Region.binds]at haf;have g3:U 45=(.slice (some ⟨BP,0,none⟩) nc nc):=hP 3 45 (by simp[haf]) rfl
       have e45:A.tmps[45]?=some (.slice (some ⟨BP,0,none⟩) nc nc):=hFm.is 3 45 rfl g3;have g5:U 47=(.int .i64 (f:Nat)):=hP 5 47 (by simp[haf]) rfl
       have e47:A.tmps[47]?=some (.int .i64 (f:Nat)):=hFm.is 5 47 rfl g5;refine⟨?_⟩;have HC:Hid _:=hC;clear hC;go_simp;refine hK _ _ rfl ?_;obtain⟨c0,cA,c8,cP,cS⟩:=HC.out;exact⟨c0,(fun h=>by have h9:=cA (by simpa using h);simpa [updO,Go.Proofs.YtbmkkhpoaicclabGreat.upd] using h9),(fun h=>by have h9:=c8 (by simpa using h);simpa [updO,Go.Proofs.YtbmkkhpoaicclabGreat.upd] using h9),(fun h1 h2=>by have h9:=cP (by simpa using h1) (by simpa using h2);simpa [updO,Go.Proofs.YtbmkkhpoaicclabGreat.upd] using h9),fun h=>absurd (cS (by simpa using h)).1 (by simp[hlk])⟩
      refine StepsE.run rfl ?_ ?_
      ·
       intro L U wr hC hP hlk hcl haf A K hFm hK;simp[Aft,Region.binds]at haf;have g6:U 48=(.pointer (some ⟨BP,f,none⟩)):=hP 6 48 (by simp[haf]) rfl
       have e48:A.tmps[48]?=some (.pointer (some ⟨BP,f,none⟩)):=hFm.is 6 48 rfl g6;have m0:wr.cell? ⟨wl.heap.size,0,none⟩=some (.slice ql ll cl):=(World.cell?_of_block (a:=⟨wl.heap.size,0,none⟩) (hC.1.block _ lw2)).trans p0;have m2:wr.cell? ⟨wl.heap.size,2,none⟩=some (.int .i64 (f:Nat)):=(World.cell?_of_block (a:=⟨wl.heap.size,2,none⟩) (hC.1.block _ lw2)).trans p2;have mf:wr.cell? ⟨BP,f,none⟩=some (.int .i64 plf):=(World.cell?_of_block (a:=⟨BP,f,none⟩) (hC.1.block _ lBP)).trans qf;have ml1:wl.heap.size<wr.heap.size:=Nat.lt_of_lt_of_le lw2 hC.1.size;have ml2:BP<wr.heap.size:=Nat.lt_of_lt_of_le lBP hC.1.size;refine⟨?_⟩;have HC:Hid _:=hC;clear hC;go_simp;refine hK _ _ rfl ?_;obtain⟨c0,cA,c8,cP,cS⟩:=HC.out;exact⟨c0,(fun h=>by have h9:=cA (by simpa using h);simpa [updO,Go.Proofs.YtbmkkhpoaicclabGreat.upd] using h9),(fun h=>by have h9:=c8 (by simpa using h);simpa [updO,Go.Proofs.YtbmkkhpoaicclabGreat.upd] using h9),(fun h1 h2=>by have h9:=cP (by simpa using h1) (by simpa using h2);simpa [updO,Go.Proofs.YtbmkkhpoaicclabGreat.upd] using h9),fun h=>absurd (cS (by simpa using h)).1 (by simp[hlk])⟩
      refine StepsE.run rfl ?_ ?_
      ·
       intro L U wr hC hP hlk hcl haf A K hFm hK;simp[Aft,Region.binds]at haf;have e44:A.tmps[44]?=some (U 44):=hFm.got 2 44 rfl;have g7:U 49=(.int .i64 plf):=hP 7 49 (by simp[haf]) rfl
       have e49:A.tmps[49]?=some (.int .i64 plf):=hFm.is 7 49 rfl g7;have l2:L 2=true:=by simp[haf]
       refine⟨?_⟩;obtain⟨ys9,oc9⟩:=hC.2.1 l2;obtain⟨qa,ca,hv9,-⟩:=oc9.1.shape;obtain⟨na,hna⟩:∃na,ys9.length=na:=⟨_,rfl⟩;rw[hna]at hv9;clear hna oc9;have e44b:A.tmps[44]?=some (.slice qa na ca):=by rw[e44,hv9]
       have HC:Hid _:=hC;clear hC e44;go_simp;obtain⟨c0,cA,c8,cP,cS⟩:=HC.out;refine hK _ _ trivial ⟨c0,(fun h=>by have h9:=cA (by simpa using h);simpa [updO,Go.Proofs.YtbmkkhpoaicclabGreat.upd] using h9),(fun h=>by simp[updO,Go.Proofs.YtbmkkhpoaicclabGreat.upd,hv9]),(fun h1 h2=>by have h9:=cP (by simpa using h1) (by simpa using h2);simpa [updO,Go.Proofs.YtbmkkhpoaicclabGreat.upd] using h9),fun h=>absurd (cS (by simpa using h)).1 (by simp[hlk])⟩
      refine StepsE.run rfl ?_ ?_
      ·
       intro L U wr hC hP hlk hcl haf A K hFm hK;simp[Aft,Region.binds]at haf;refine⟨?_⟩;have HC:Hid _:=hC;clear hC;go_simp;obtain⟨c0,cA,c8,cP,cS⟩:=HC.out;refine hK _ _ trivial ⟨c0.alloc c0.size _,fun h=>?_,fun h=>?_,fun _ _=>?_,fun h=>absurd (cS (by simpa using h)).1 (by simp[hlk])⟩
       ·
        have h9:=cA (by simpa using h)
        simpa [updO,Go.Proofs.YtbmkkhpoaicclabGreat.upd] using h9.below ((Below.refl _ _).alloc (Nat.le_refl _) _)
       ·
        have h9:=c8 (by simpa using h)
        simpa [updO,Go.Proofs.YtbmkkhpoaicclabGreat.upd] using h9
       · simp only[updO,Go.Proofs.YtbmkkhpoaicclabGreat.upd,beq_self_eq_true,cond_true];exact⟨wr.heap.size,rfl,c0.size,heap_alloc_new wr _⟩
      refine StepsE.run rfl ?_ StepsE.nil
      ·
       intro L U wr hC hP hlk hcl haf A K hFm hK;simp[Aft,Region.binds]at haf;have e8:A.tmps[8]?=some (U 8):=hFm.got 9 8 rfl;have e50:A.tmps[50]?=some (U 50):=hFm.got 8 50 rfl;have l9:L 9=true:=by simp[haf]
       have l8:L 8=true:=by simp[haf]
       have a8:=hcl 8 _ rfl l8;simp[Aft,Region.binds]at a8;have l2:L 2=true:=by simp[a8]
       have l7:L 7=true:=by simp[a8]
       have a2:=hcl 2 _ rfl l2;simp[Aft,Region.binds]at a2;have l1:L 1=true:=by simp[a2]
       have a7:=hcl 7 _ rfl l7;simp[Aft,Region.binds]at a7;have l6:L 6=true:=by simp[a7]
       have a1:=hcl 1 _ rfl l1;simp[Aft,Region.binds]at a1;have l0:L 0=true:=by simp[a1]
       have a6:=hcl 6 _ rfl l6;simp[Aft,Region.binds]at a6;have l3:L 3=true:=by simp[a6]
       have l5:L 5=true:=by simp[a6]
       have a5:=hcl 5 _ rfl l5;simp[Aft,Region.binds]at a5;have l4:L 4=true:=by simp[a5]
       refine⟨?_⟩;obtain⟨q9,hu8,hq9,kb9⟩:=hC.2.2.2.1 l9 hlk;obtain⟨ys9,oc9⟩:=hC.2.1 l2;have hu50:=hC.2.2.1 l8;obtain⟨qa,ca,hv9,-⟩:=oc9.1.shape;obtain⟨na,hna⟩:∃na,ys9.length=na:=⟨_,rfl⟩;rw[hna]at hv9;rw[hv9]at hu50;have HNA:=hide hna;clear hna;have k0:wr.cell? ⟨q9,0,none⟩=some (.slice none 0 0):=cell_of_row wr q9 0 _ 98 (0,0) kb9;have k1:wr.cell? ⟨q9,1,none⟩=some (.int .i64 0):=cell_of_row wr q9 1 _ 98 (0,0) kb9;have k2:wr.cell? ⟨q9,2,none⟩=some (.slice none 0 0):=cell_of_row wr q9 2 _ 98 (0,0) kb9;have z0:wr.frozen? ⟨q9,0,none⟩=false:=frozen_of_row wr q9 0 _ 98 kb9;have z1:wr.frozen? ⟨q9,1,none⟩=false:=frozen_of_row wr q9 1 _ 98 kb9;have z2:wr.frozen? ⟨q9,2,none⟩=false:=frozen_of_row wr q9 2 _ 98 kb9;have lq9:q9<wr.heap.size:=(Array.getElem?_eq_some_iff.1 kb9).1;have HKK:Hid _:=HST.out wr q9 qa na ca ys9 hC.1 hq9 kb9 (by rw[← hv9];exact oc9) HNA.out
       have e8b:A.tmps[8]?=some (.pointer (some ⟨q9,0,none⟩)):=by rw[e8,hu8]
       have e50b:A.tmps[50]?=some (.agg #[.slice qa na ca,.int .i64 plf,.slice none 0 0]):=by rw[e50,hu50]
       have HU50:Hid (U 50=.agg #[U 44,.int .i64 plf,.slice none 0 0]):=by show _=_;rw[hu50,hv9]
       have HU:=hide (And.intro hu8 hv9);clear hC e8 e50 kb9 oc9 hu50 hu8 hv9 HNA;go_simp;refine hK (.tuple #[]) _ trivial ⟨HKK.out.1,fun h=>?_,fun h=>?_,fun h1 h2=>?_,fun _=>⟨?_,?_⟩⟩
       · simp only[updO];rw[HU.out.2];exact⟨_,HKK.out.2.1⟩
       · simp only[updO];exact HU50.out
       · simp at h2
       · simp[l0,l1,l2,l3,l4,l5,l6,l7,l8,l9]
       · simp only[updO];rw[HU.out.1,HU.out.2];exact HKK.out.2.2
     ·
      intro L9 U9 w3 hL9 hC9 hP9;have y42:U9 42=(.pointer (some ⟨wl.heap.size,0,none⟩)):=hP9 0 42 rfl;have y43:U9 43=(.slice ql ll cl):=hP9 1 43 rfl;have y45:U9 45=(.slice (some ⟨BP,0,none⟩) nc nc):=hP9 3 45 rfl;have y46:U9 46=(.pointer (some ⟨wl.heap.size,2,none⟩)):=hP9 4 46 rfl;have y47:U9 47=(.int .i64 (f:Nat)):=hP9 5 47 rfl;have y48:U9 48=(.pointer (some ⟨BP,f,none⟩)):=hP9 6 48 rfl;have y49:U9 49=(.int .i64 plf):=hP9 7 49 rfl;obtain⟨hb3,cA,c8,-,cS⟩:=hC9;obtain⟨q,ys,y8,hq,qb3,oc3⟩:=(cS (hL9 10 (by decide))).2
      have y50:=c8 (hL9 8 (by decide))
      obtain⟨qa,ca,y44,-⟩:=oc3.1.shape;obtain⟨na,hna⟩:∃na,ys.length=na:=⟨_,rfl⟩;rw[hna]at y44;rw[y44]at y50 qb3 oc3;obtain⟨S,hS⟩:∃S,(d.C i).links.map (fun p=>(pl p.1,(p.2:Int)))=S:=⟨_,rfl⟩
      have HI0:Hid (InM d i w2.heap.size q plf S ys (.slice qa na ca) (.slice none 0 0) 0 w2 w3):=⟨hb3,oc3,hq,qb3,OL.nil _ _ _ _,fun b hb=>(by cases hb)⟩
      have p3:w3.cell? ⟨wl.heap.size,3,none⟩=some (.slice qk lk ck):=(World.cell?_of_block (a:=⟨wl.heap.size,3,none⟩) (hb3.block _ lw2)).trans (cell_of_row w2 wl.heap.size 3 _ _ (0,0) HB2.out.2);have lw3:wl.heap.size<w3.heap.size:=Nat.lt_of_lt_of_le lw2 hb3.size;have HNA:=hide (And.intro hna hS);clear hL9 hP9 cA c8 cS hna hb3 oc3 qb3 hS hq HO HST qf p0 p2 lBP lBN qn p1 lw2;simp only[setM,y42,y43,y44,y45,y46,y47,y48,y49,y50,y8];clear y42 y43 y44 y45 y46 y47 y48 y49 y50 y8;have hlkI:(lk:Int)≤1000000:=by have h9:=(H.out.2.2.2.2.2 i hcd HQ.out.1).1;rw[HOLk.out.2.2]at h9;omega
      go_wp2_with fail
      go_loopw [54] (fun v54 wr=>∃(k:Nat) (qs:Option Addr) (cs9:Nat),v54=.int .i64 (k:Nat)∧k≤lk∧Hid (InM d i w2.heap.size q plf S ys (.slice qa na ca) (.slice qs k cs9) k w2 wr)) (fun v _=>lk - (intOf v).toNat)
      case atStart=>exact⟨0,none,0,rfl,Nat.zero_le _,HI0.out⟩
      case round =>
       rename World=>wk
       clear HI0;obtain⟨k,qs,cs9,rfl,hk,HI⟩:=hrel;by_cases hlt2:k<lk
       ·
        have hltI2:(k:Int)<(lk:Int):=by omega
        have hkl:k<(d.C i).links.length:=by rw[HOLk.out.2.2];exact hlt2
        have olk:OL 2 127 wk (.slice qk lk ck) lk (prC (d.C i).links):=by
         have h9:=HOLk.out.1.stay (fun b hb9=>(HB2.out.1.trans (HI.out.bl.mono HB2.out.1.size)).block b (HOLk.out.1.lt hb9))
         rw[← HOLk.out.2.2,← HOLk.out.2.1];exact h9
        obtain⟨bk,ck',hbk,-⟩:=olk.open k hlt2;cases hbk
        have hlb:bk<wk.heap.size:=olk.lt rfl;have l0:wk.cell? ⟨bk,k*2,none⟩=some (.int .i32 (((d.C i).links[k].1:Nat):Int)):=by
         have h9:=olk.cell hlt2 (show 0<2 by decide)
         rw[Nat.add_zero]at h9;rw[h9];simp[prC,hkl]
        have l1:wk.cell? ⟨bk,k*2+1,none⟩=some (.int .i32 (((d.C i).links[k].2:Nat):Int)):=by
         have h9:=olk.cell hlt2 (show 1<2 by decide)
         rw[h9];simp[prC,hkl]
        obtain⟨⟨lc,lv⟩,hp⟩:∃p,(d.C i).links[k]=p:=⟨_,rfl⟩;rw[hp]at l0 l1;have hpm:(lc,lv)∈(d.C i).links:=by rw[← hp];exact List.getElem_mem hkl
        have hlv:=(H.out.2.2.2.2.2 i hcd HQ.out.1).2 _ hpm;have hlc:lc<i:=HP3.out.2.2 _ hpm;have hlcI:(lc:Int)<(nc:Int):=by omega
        have hlc9:(lc:Int)≤100000000:=by omega
        have hlvI:(lv:Int)≤5000:=by have h9:lv≤5000:=hlv;omega
        have B2k:w2.heap.size≤wk.heap.size:=HI.out.bl.size;obtain⟨LB,hLB⟩:∃LB,wk.heap.size=LB:=⟨_,rfl⟩;obtain⟨w5,hw5⟩:∃w5,wk.alloc (.cells #[.int .i32 (lc:Nat),.int .i32 (lv:Nat)] 127 (0,0))=w5:=⟨_,rfl⟩;have bl5:Below wk.heap.size wk w5:=by rw[← hw5];exact (Below.refl _ _).alloc (Nat.le_refl _) _
        have kb5:w5.heap[LB]?=some (.cells #[.int .i32 (lc:Nat),.int .i32 (lv:Nat)] 127 (0,0)):=by rw[← hw5,← hLB];exact heap_alloc_new wk _
        have I5:=HI.out.below B2k bl5;have B25:w2.heap.size≤w5.heap.size:=Nat.le_trans B2k bl5.size;obtain⟨plc,hplc⟩:∃plc,pl lc=plc:=⟨_,rfl⟩;have op5:OL 1 3 w5 (.slice (some ⟨BP,0,none⟩) d.nc d.nc) d.nc (fun j=>[.int .i64 (pl j)]):=J2.out.op.stay (fun b hb9=>I5.bl.block b (J2.out.op.lt hb9))
        obtain⟨M5,hM5⟩:∃M5:World→Prop,M5=fun wr=>wr.cell? ⟨q,2,none⟩=some (.slice qs k cs9)∧wr.cell? ⟨LB,0,none⟩=some (.int .i32 (lc:Nat))∧wr.cell? ⟨LB,1,none⟩=some (.int .i32 (lv:Nat))∧wr.cell? ⟨BP,lc,none⟩=some (.int .i64 plc)∧q<wr.heap.size∧LB<wr.heap.size∧BP<wr.heap.size:=⟨_,rfl⟩
        have hMb:∀wr,wr.heap[q]?=w5.heap[q]?→wr.heap[LB]?=w5.heap[LB]?→wr.heap[BP]?=w5.heap[BP]?→M5 wr:=by
         intro wr e1 e2 e3;rw[hM5];have k1:=e1.trans I5.qb;have k2:=e2.trans kb5;have k3:OL 1 3 wr (.slice (some ⟨BP,0,none⟩) d.nc d.nc) d.nc (fun j=>[.int .i64 (pl j)]):=op5.stay (fun b hb9=>by cases hb9;exact e3)
         refine⟨cell_of_row wr q 2 _ 98 (0,0) k1,cell_of_row wr LB 0 _ 127 (0,0) k2,cell_of_row wr LB 1 _ 127 (0,0) k2,?_,(Array.getElem?_eq_some_iff.1 k1).1,(Array.getElem?_eq_some_iff.1 k2).1,k3.lt rfl⟩;have h9:=k3.cell (i:=lc) (by omega) (show 0<1 by decide)
         rw[Nat.mul_one,Nat.add_zero]at h9;rw[h9,← hplc];rfl
        have lq5:q<w5.heap.size:=(Array.getElem?_eq_some_iff.1 I5.qb).1;have lL5:LB<w5.heap.size:=(Array.getElem?_eq_some_iff.1 kb5).1;have lP5:BP<w5.heap.size:=op5.lt rfl;have HM0:Hid (∀wr,Below w5.heap.size w5 wr→M5 wr):=fun wr hb=>hMb wr (hb.block _ lq5) (hb.block _ lL5) (hb.block _ lP5)
        have HM1:Hid (∀wr v,App (.slice qs k cs9) v w5 wr→M5 wr):=fun wr v hap=>hMb wr (hap.other _ lq5 (I5.os.neB I5.qb (by decide))) (hap.other _ lL5 (I5.os.neB kb5 (by decide))) (hap.other _ lP5 (fun e9=>I5.os.ne op5 (by decide) e9 rfl))
        have HOWN:Hid (∀wr,Below w5.heap.size w5 wr→OL 2 100 wr (.slice qs k cs9) k (skC S)):=fun wr hb=>I5.os.stay fun b e=>hb.block b (I5.os.lt e)
        have HFZ:Hid (∀wr v,App (.slice qs k cs9) v w5 wr→wr.cell? ⟨q,2,none⟩=some (.slice qs k cs9)∧wr.frozen? ⟨q,2,none⟩=false):=fun wr v hap=>by
         have k1:=(hap.other _ lq5 (I5.os.neB I5.qb (by decide))).trans I5.qb
         exact⟨cell_of_row wr q 2 _ 98 (0,0) k1,frozen_of_row wr q 2 _ 98 k1⟩
        have HNB:Hid (k+1≤1000000000):=by show _≤_;omega
        have HF2:Hid (skC S k=[.int .i64 plc,.int .i64 (IntKind.i64.wrap (lv:Nat))]):=by
         show _=_
         have e9:IntKind.i64.wrap ((lv:Nat):Int)=(lv:Int):=by rw[IntWalk.i64_left,IntWalk.wrap64_in _ (by omega)]
         rw[e9];rw[← HNA.out.2,← hplc];simp[skC,hkl,hp]
        obtain⟨E5,hE5⟩:∃E5:World→Prop,E5=fun wr=>∃qs' cs',InM d i w2.heap.size q plf S ys (.slice qa na ca) (.slice qs' (k+1) cs') (k+1) w2 wr:=⟨_,rfl⟩
        have HSET:Hid (∀wr v,OL 2 100 wr v (k+1) (skC S)→App (.slice qs k cs9) v w5 wr→v≠.slice none 0 0→E5 (wr.setCell ⟨q,2,none⟩ v)):=by
         intro wr v ho hap _;rw[hE5];obtain⟨q8,c8,hv8,-⟩:=ho.shape;have h9:=I5.push B25 ho hap;rw[hv8]at h9 ⊢;exact⟨q8,c8,h9⟩
        rw[hLB]at bl5;clear olk hp hpm hlv hlc B2k I5 B25 op5 hMb hplc bl5 kb5 HI;go_wp2_with fail
        refine wp_region_E (by kernel_rfl) [some 58,some 59,some 60,some 61,some 62,some 63,some 64,some 65,some 66,some 67,some 68,some 69,some 70,some 71,none] [none,none,none,none,none,none,none,none,none,none,none,none,none,none,none,none,none,none,none,none,none,none,none,none,none,none,none,none,none,none,none,none,none,none,none,none,none,none,none,none,none,none,none,none,none,none,none,none,none,none,none,none,none,none,none,none,none,none,some 58,some 59,some 60,some 61,some 62,some 63,some 64,some 65,some 66,some 67,some 68,some 69,some 70,some 71] (fun U=>by kernel_rfl) [fun u=>u=(.pointer (some ⟨q,2,none⟩)),fun u=>u=(.slice qs k cs9),fun u=>u=(.slice (some ⟨BP,0,none⟩) nc nc),fun u=>u=(.pointer (some ⟨LB,0,none⟩)),fun u=>u=(.int .i32 (lc:Nat)),fun u=>u=(.pointer (some ⟨BP,lc,none⟩)),fun u=>u=(.int .i64 plc),fun u=>u=(.pointer (some ⟨LB,1,none⟩)),fun u=>u=(.int .i32 (lv:Nat)),fun u=>u=(.int .i64 (IntKind.i64.wrap (lv:Nat))),fun u=>u=(.agg #[.int .i64 plc,.int .i64 (IntKind.i64.wrap (lv:Nat))]),fun _=>True,fun _=>True,fun u=>u=(.pointer (some ⟨q,2,none⟩)),fun _=>True] (fun L U wr=>(L 12=false→Below w5.heap.size w5 wr)∧(L 11=true→L 12=false→ONE5 100 [.int .i64 plc,.int .i64 (IntKind.i64.wrap (lv:Nat))] (U 69) wr)∧(L 12=true→L 14=false→OL 2 100 wr (U 70) (k+1) (skC S)∧App (.slice qs k cs9) (U 70) w5 wr∧U 70≠.slice none 0 0)∧(L 14=true→(L 0=true∧L 1=true∧L 2=true∧L 3=true∧L 4=true∧L 5=true∧L 6=true∧L 7=true∧L 8=true∧L 9=true∧L 10=true∧L 11=true∧L 12=true∧L 13=true)∧E5 wr)) (by kernel_rfl) (by decide) (by kernel_rfl) (by kernel_rfl) ?_ ?_ ?_
        · exact fun U=>⟨fun _=>(Below.refl _ _).drew,(fun h=>by cases h),(fun h=>by cases h),(fun h=>by cases h)⟩
        ·
         refine StepsE.run rfl ?_ ?_
         ·
          intro L U wr hC hP hlk hcl haf A K hFm hK;simp[Aft,Region.binds]at haf;have e8:A.tmps[8]?=some (.pointer (some ⟨q,0,none⟩)):=(hFm.old 8 (by decide)).trans (by kernel_rfl)
          have HC:Hid _:=hC;clear hC;refine⟨?_⟩;go_simp;refine hK _ _ rfl ?_;obtain⟨c0,cB,c1,cS⟩:=HC.out;refine⟨fun h=>c0 (by simpa using h),(fun h1 h2=>by have h9:=cB (by simpa using h1) (by simpa using h2);simpa [updO,Go.Proofs.YtbmkkhpoaicclabGreat.upd] using h9),(fun h1 h2=>by have h9:=c1 (by simpa using h1) (by simpa using h2);simpa [updO,Go.Proofs.YtbmkkhpoaicclabGreat.upd] using h9),fun h=>?_⟩
          have h9:=cS (by simpa using h)
          exact⟨by simp[h9.1],h9.2⟩
         refine StepsE.run rfl ?_ ?_
         ·
          intro L U wr hC hP hlk hcl haf A K hFm hK;simp[Aft,Region.binds]at haf;have g0:U 58=(.pointer (some ⟨q,2,none⟩)):=hP 0 58 (by simp[haf]) rfl
          have e58:A.tmps[58]?=some (.pointer (some ⟨q,2,none⟩)):=hFm.is 0 58 rfl g0;have hM8:M5 wr:=by
           obtain⟨c0,cB,c1,cS⟩:=hC;have hs:L 14=false:=by cases h:L 14 with|false=>rfl|true=>exact absurd (cS h).1 (by simp[hlk])
           cases h14:L 12 with
           | false=>exact HM0.out wr (c0 h14)
           | true=>exact HM1.out wr (U 70) (c1 h14 hs).2.1
          rw[hM5]at hM8;obtain⟨m7,ma,mb,mp,hlq,hll,hlp⟩:=hM8;have HC:Hid _:=hC;clear hC;refine⟨?_⟩;go_simp;refine hK _ _ rfl ?_;obtain⟨c0,cB,c1,cS⟩:=HC.out;refine⟨fun h=>c0 (by simpa using h),(fun h1 h2=>by have h9:=cB (by simpa using h1) (by simpa using h2);simpa [updO,Go.Proofs.YtbmkkhpoaicclabGreat.upd] using h9),(fun h1 h2=>by have h9:=c1 (by simpa using h1) (by simpa using h2);simpa [updO,Go.Proofs.YtbmkkhpoaicclabGreat.upd] using h9),fun h=>?_⟩
          have h9:=cS (by simpa using h)
          exact⟨by simp[h9.1],h9.2⟩
         refine StepsE.run rfl ?_ ?_
         ·
          intro L U wr hC hP hlk hcl haf A K hFm hK;simp[Aft,Region.binds]at haf;have e4:A.tmps[4]?=some (.slice (some ⟨BP,0,none⟩) nc nc):=(hFm.old 4 (by decide)).trans (by kernel_rfl)
          have HC:Hid _:=hC;clear hC;refine⟨?_⟩;go_simp;refine hK _ _ rfl ?_;obtain⟨c0,cB,c1,cS⟩:=HC.out;refine⟨fun h=>c0 (by simpa using h),(fun h1 h2=>by have h9:=cB (by simpa using h1) (by simpa using h2);simpa [updO,Go.Proofs.YtbmkkhpoaicclabGreat.upd] using h9),(fun h1 h2=>by have h9:=c1 (by simpa using h1) (by simpa using h2);simpa [updO,Go.Proofs.YtbmkkhpoaicclabGreat.upd] using h9),fun h=>?_⟩
          have h9:=cS (by simpa using h)
          exact⟨by simp[h9.1],h9.2⟩
         refine StepsE.run rfl ?_ ?_
         ·
          intro L U wr hC hP hlk hcl haf A K hFm hK;simp[Aft,Region.binds]at haf;have e10:A.tmps[10]?=some (.pointer (some ⟨LB,0,none⟩)):=(hFm.old 10 (by decide)).trans (by kernel_rfl)
          have HC:Hid _:=hC;clear hC;refine⟨?_⟩;go_simp;refine hK _ _ rfl ?_;obtain⟨c0,cB,c1,cS⟩:=HC.out;refine⟨fun h=>c0 (by simpa using h),(fun h1 h2=>by have h9:=cB (by simpa using h1) (by simpa using h2);simpa [updO,Go.Proofs.YtbmkkhpoaicclabGreat.upd] using h9),(fun h1 h2=>by have h9:=c1 (by simpa using h1) (by simpa using h2);simpa [updO,Go.Proofs.YtbmkkhpoaicclabGreat.upd] using h9),fun h=>?_⟩
          have h9:=cS (by simpa using h)
          exact⟨by simp[h9.1],h9.2⟩
         refine StepsE.run rfl ?_ ?_
         ·
          intro L U wr hC hP hlk hcl haf A K hFm hK;simp[Aft,Region.binds]at haf;have g3:U 61=(.pointer (some ⟨LB,0,none⟩)):=hP 3 61 (by simp[haf]) rfl
          have e61:A.tmps[61]?=some (.pointer (some ⟨LB,0,none⟩)):=hFm.is 3 61 rfl g3;have hM8:M5 wr:=by
           obtain⟨c0,cB,c1,cS⟩:=hC;have hs:L 14=false:=by cases h:L 14 with|false=>rfl|true=>exact absurd (cS h).1 (by simp[hlk])
           cases h14:L 12 with
           | false=>exact HM0.out wr (c0 h14)
           | true=>exact HM1.out wr (U 70) (c1 h14 hs).2.1
          rw[hM5]at hM8;obtain⟨m7,ma,mb,mp,hlq,hll,hlp⟩:=hM8;have HC:Hid _:=hC;clear hC;refine⟨?_⟩;go_simp;refine hK _ _ rfl ?_;obtain⟨c0,cB,c1,cS⟩:=HC.out;refine⟨fun h=>c0 (by simpa using h),(fun h1 h2=>by have h9:=cB (by simpa using h1) (by simpa using h2);simpa [updO,Go.Proofs.YtbmkkhpoaicclabGreat.upd] using h9),(fun h1 h2=>by have h9:=c1 (by simpa using h1) (by simpa using h2);simpa [updO,Go.Proofs.YtbmkkhpoaicclabGreat.upd] using h9),fun h=>?_⟩
          have h9:=cS (by simpa using h)
          exact⟨by simp[h9.1],h9.2⟩
         refine StepsE.run rfl ?_ ?_
         ·
          intro L U wr hC hP hlk hcl haf A K hFm hK;simp[Aft,Region.binds]at haf;have g2:U 60=(.slice (some ⟨BP,0,none⟩) nc nc):=hP 2 60 (by simp[haf]) rfl
          have e60:A.tmps[60]?=some (.slice (some ⟨BP,0,none⟩) nc nc):=hFm.is 2 60 rfl g2;have g4:U 62=(.int .i32 (lc:Nat)):=hP 4 62 (by simp[haf]) rfl
          have e62:A.tmps[62]?=some (.int .i32 (lc:Nat)):=hFm.is 4 62 rfl g4;have HC:Hid _:=hC;clear hC;refine⟨?_⟩;go_simp;refine hK _ _ rfl ?_;obtain⟨c0,cB,c1,cS⟩:=HC.out;refine⟨fun h=>c0 (by simpa using h),(fun h1 h2=>by have h9:=cB (by simpa using h1) (by simpa using h2);simpa [updO,Go.Proofs.YtbmkkhpoaicclabGreat.upd] using h9),(fun h1 h2=>by have h9:=c1 (by simpa using h1) (by simpa using h2);simpa [updO,Go.Proofs.YtbmkkhpoaicclabGreat.upd] using h9),fun h=>?_⟩
          have h9:=cS (by simpa using h)
          exact⟨by simp[h9.1],h9.2⟩
         refine StepsE.run rfl ?_ ?_
         ·
          intro L U wr hC hP hlk hcl haf A K hFm hK;simp[Aft,Region.binds]at haf;have g5:U 63=(.pointer (some ⟨BP,lc,none⟩)):=hP 5 63 (by simp[haf]) rfl
          have e63:A.tmps[63]?=some (.pointer (some ⟨BP,lc,none⟩)):=hFm.is 5 63 rfl g5;have hM8:M5 wr:=by
           obtain⟨c0,cB,c1,cS⟩:=hC;have hs:L 14=false:=by cases h:L 14 with|false=>rfl|true=>exact absurd (cS h).1 (by simp[hlk])
           cases h14:L 12 with
           | false=>exact HM0.out wr (c0 h14)
           | true=>exact HM1.out wr (U 70) (c1 h14 hs).2.1
          rw[hM5]at hM8;obtain⟨m7,ma,mb,mp,hlq,hll,hlp⟩:=hM8;have HC:Hid _:=hC;clear hC;refine⟨?_⟩;go_simp;refine hK _ _ rfl ?_;obtain⟨c0,cB,c1,cS⟩:=HC.out;refine⟨fun h=>c0 (by simpa using h),(fun h1 h2=>by have h9:=cB (by simpa using h1) (by simpa using h2);simpa [updO,Go.Proofs.YtbmkkhpoaicclabGreat.upd] using h9),(fun h1 h2=>by have h9:=c1 (by simpa using h1) (by simpa using h2);simpa [updO,Go.Proofs.YtbmkkhpoaicclabGreat.upd] using h9),fun h=>?_⟩
          have h9:=cS (by simpa using h)
          exact⟨by simp[h9.1],h9.2⟩
         refine StepsE.run rfl ?_ ?_
         ·
          intro L U wr hC hP hlk hcl haf A K hFm hK;simp[Aft,Region.binds]at haf;have e10:A.tmps[10]?=some (.pointer (some ⟨LB,0,none⟩)):=(hFm.old 10 (by decide)).trans (by kernel_rfl)
          have HC:Hid _:=hC;clear hC;refine⟨?_⟩;go_simp;refine hK _ _ rfl ?_;obtain⟨c0,cB,c1,cS⟩:=HC.out;refine⟨fun h=>c0 (by simpa using h),(fun h1 h2=>by have h9:=cB (by simpa using h1) (by simpa using h2);simpa [updO,Go.Proofs.YtbmkkhpoaicclabGreat.upd] using h9),(fun h1 h2=>by have h9:=c1 (by simpa using h1) (by simpa using h2);simpa [updO,Go.Proofs.YtbmkkhpoaicclabGreat.upd] using h9),fun h=>?_⟩
          have h9:=cS (by simpa using h)
          exact⟨by simp[h9.1],h9.2⟩
         refine StepsE.run rfl ?_ ?_
         ·
          intro L U wr hC hP hlk hcl haf A K hFm hK;simp[Aft,Region.binds]at haf;have g7:U 65=(.pointer (some ⟨LB,1,none⟩)):=hP 7 65 (by simp[haf]) rfl
          have e65:A.tmps[65]?=some (.pointer (some ⟨LB,1,none⟩)):=hFm.is 7 65 rfl g7;have hM8:M5 wr:=by
           obtain⟨c0,cB,c1,cS⟩:=hC;have hs:L 14=false:=by cases h:L 14 with|false=>rfl|true=>exact absurd (cS h).1 (by simp[hlk])
           cases h14:L 12 with
           | false=>exact HM0.out wr (c0 h14)
           | true=>exact HM1.out wr (U 70) (c1 h14 hs).2.1
          rw[hM5]at hM8;obtain⟨m7,ma,mb,mp,hlq,hll,hlp⟩:=hM8;have HC:Hid _:=hC;clear hC;refine⟨?_⟩;go_simp;refine hK _ _ rfl ?_;obtain⟨c0,cB,c1,cS⟩:=HC.out;refine⟨fun h=>c0 (by simpa using h),(fun h1 h2=>by have h9:=cB (by simpa using h1) (by simpa using h2);simpa [updO,Go.Proofs.YtbmkkhpoaicclabGreat.upd] using h9),(fun h1 h2=>by have h9:=c1 (by simpa using h1) (by simpa using h2);simpa [updO,Go.Proofs.YtbmkkhpoaicclabGreat.upd] using h9),fun h=>?_⟩
          have h9:=cS (by simpa using h)
          exact⟨by simp[h9.1],h9.2⟩
         refine StepsE.run rfl ?_ ?_
         ·
          intro L U wr hC hP hlk hcl haf A K hFm hK;simp[Aft,Region.binds]at haf;have g8:U 66=(.int .i32 (lv:Nat)):=hP 8 66 (by simp[haf]) rfl
          have e66:A.tmps[66]?=some (.int .i32 (lv:Nat)):=hFm.is 8 66 rfl g8;have HC:Hid _:=hC;clear hC;refine⟨?_⟩;go_simp;refine hK _ _ rfl ?_;obtain⟨c0,cB,c1,cS⟩:=HC.out;refine⟨fun h=>c0 (by simpa using h),(fun h1 h2=>by have h9:=cB (by simpa using h1) (by simpa using h2);simpa [updO,Go.Proofs.YtbmkkhpoaicclabGreat.upd] using h9),(fun h1 h2=>by have h9:=c1 (by simpa using h1) (by simpa using h2);simpa [updO,Go.Proofs.YtbmkkhpoaicclabGreat.upd] using h9),fun h=>?_⟩
          have h9:=cS (by simpa using h)
          exact⟨by simp[h9.1],h9.2⟩
         refine StepsE.run rfl ?_ ?_
         ·
          intro L U wr hC hP hlk hcl haf A K hFm hK;simp[Aft,Region.binds]at haf;have g6:U 64=(.int .i64 plc):=hP 6 64 (by simp[haf]) rfl
          have e64:A.tmps[64]?=some (.int .i64 plc):=hFm.is 6 64 rfl g6;have g9:U 67=(.int .i64 (IntKind.i64.wrap (lv:Nat))):=hP 9 67 (by simp[haf]) rfl
          have e67:A.tmps[67]?=some (.int .i64 (IntKind.i64.wrap (lv:Nat))):=hFm.is 9 67 rfl g9;have HC:Hid _:=hC;clear hC;refine⟨?_⟩;go_simp;refine hK _ _ rfl ?_;obtain⟨c0,cB,c1,cS⟩:=HC.out;refine⟨fun h=>c0 (by simpa using h),(fun h1 h2=>by have h9:=cB (by simpa using h1) (by simpa using h2);simpa [updO,Go.Proofs.YtbmkkhpoaicclabGreat.upd] using h9),(fun h1 h2=>by have h9:=c1 (by simpa using h1) (by simpa using h2);simpa [updO,Go.Proofs.YtbmkkhpoaicclabGreat.upd] using h9),fun h=>?_⟩
          have h9:=cS (by simpa using h)
          exact⟨by simp[h9.1],h9.2⟩
         refine StepsE.run rfl ?_ ?_
         ·
          intro L U wr hC hP hlk hcl haf A K hFm hK;simp[Aft,Region.binds]at haf;have g10:U 68=(.agg #[.int .i64 plc,.int .i64 (IntKind.i64.wrap (lv:Nat))]):=hP 10 68 (by simp[haf]) rfl
          have e68:A.tmps[68]?=some (.agg #[.int .i64 plc,.int .i64 (IntKind.i64.wrap (lv:Nat))]):=hFm.is 10 68 rfl g10;have hA9:L 12=false:=by cases h:L 12 with|false=>rfl|true=>have h9:=hcl 12 _ rfl h;simp[Aft,Region.binds,hlk]at h9
          refine⟨?_⟩;go_simp;refine hK _ _ trivial ⟨fun h=>?_,fun _ _=>?_,fun h1 h2=>?_,fun h=>?_⟩
          · exact ((hC.1 hA9).alloc (hC.1 hA9).size _)
          · exact⟨wr.heap.size,rfl,heap_alloc_new wr _⟩
          · simp[hA9]at h1
          ·
           have h9:=(hC.2.2.2 (by simpa using h)).1
           simp[hlk]at h9
         refine StepsE.run rfl ?_ ?_
         ·
          intro L U wr hC hP hlk hcl haf A K hFm hK;simp[Aft,Region.binds]at haf;have g1:U 59=(.slice qs k cs9):=hP 1 59 (by simp[haf]) rfl
          have e59:A.tmps[59]?=some (.slice qs k cs9):=hFm.is 1 59 rfl g1;have e69:A.tmps[69]?=some (U 69):=hFm.got 11 69 rfl;have l11:L 11=true:=by simp[haf]
          refine⟨?_⟩;refine wp_push1 (.tmp 59) (.tmp 69) 96 rfl 2 100 _ 16 uLk iLk (by decide) rfl (by decide) (.slice qs k cs9) (k) (skC S) (by simp[Act.eval,e59]) (HOWN.out wr (hC.1 hlk)) (fun _ _=>rfl) [.int .i64 plc,.int .i64 (IntKind.i64.wrap (lv:Nat))] 100 (U 69) (hC.2.1 l11 hlk) (by simp[Act.eval,e69]) rfl (by intro u hu;simp at hu;rcases hu with rfl|rfl<;>rfl) HNB.out (skC S) (fun _ _=>rfl) HF2.out ?_
          intro v9 w9 hol9 hap9 hne9;refine hK _ _ trivial ⟨fun h=>?_,fun _ h=>?_,fun _ _=>?_,fun h=>?_⟩
          · simp at h
          · simp at h
          · simp only[updO,Go.Proofs.YtbmkkhpoaicclabGreat.upd,beq_self_eq_true,cond_true];exact⟨hol9,hap9.ofBelow (hC.1 hlk),hne9⟩
          ·
           have h9:=(hC.2.2.2 (by simpa using h)).1
           simp[hlk]at h9
         refine StepsE.run rfl ?_ ?_
         ·
          intro L U wr hC hP hlk hcl haf A K hFm hK;simp[Aft,Region.binds]at haf;have e8:A.tmps[8]?=some (.pointer (some ⟨q,0,none⟩)):=(hFm.old 8 (by decide)).trans (by kernel_rfl)
          have HC:Hid _:=hC;clear hC;refine⟨?_⟩;go_simp;refine hK _ _ rfl ?_;obtain⟨c0,cB,c1,cS⟩:=HC.out;refine⟨fun h=>c0 (by simpa using h),(fun h1 h2=>by have h9:=cB (by simpa using h1) (by simpa using h2);simpa [updO,Go.Proofs.YtbmkkhpoaicclabGreat.upd] using h9),(fun h1 h2=>by have h9:=c1 (by simpa using h1) (by simpa using h2);simpa [updO,Go.Proofs.YtbmkkhpoaicclabGreat.upd] using h9),fun h=>?_⟩
          have h9:=cS (by simpa using h)
          exact⟨by simp[h9.1],h9.2⟩
         refine StepsE.run rfl ?_ StepsE.nil
         ·
          intro L U wr hC hP hlk hcl haf A K hFm hK;simp[Aft,Region.binds]at haf;have g13:U 71=(.pointer (some ⟨q,2,none⟩)):=hP 13 71 (by simp[haf]) rfl
          have e71:A.tmps[71]?=some (.pointer (some ⟨q,2,none⟩)):=hFm.is 13 71 rfl g13;have e70:A.tmps[70]?=some (U 70):=hFm.got 12 70 rfl;have l13:L 13=true:=by simp[haf]
          have l12:L 12=true:=by simp[haf]
          have a12:=hcl 12 _ rfl l12;simp[Aft,Region.binds]at a12;have l1:L 1=true:=by simp[a12]
          have l11:L 11=true:=by simp[a12]
          have a1:=hcl 1 _ rfl l1;simp[Aft,Region.binds]at a1;have l0:L 0=true:=by simp[a1]
          have a11:=hcl 11 _ rfl l11;simp[Aft,Region.binds]at a11;have l10:L 10=true:=by simp[a11]
          have a10:=hcl 10 _ rfl l10;simp[Aft,Region.binds]at a10;have l6:L 6=true:=by simp[a10]
          have l9:L 9=true:=by simp[a10]
          have a6:=hcl 6 _ rfl l6;simp[Aft,Region.binds]at a6;have l5:L 5=true:=by simp[a6]
          have a9:=hcl 9 _ rfl l9;simp[Aft,Region.binds]at a9;have l8:L 8=true:=by simp[a9]
          have a5:=hcl 5 _ rfl l5;simp[Aft,Region.binds]at a5;have l2:L 2=true:=by simp[a5]
          have l4:L 4=true:=by simp[a5]
          have a8:=hcl 8 _ rfl l8;simp[Aft,Region.binds]at a8;have l7:L 7=true:=by simp[a8]
          have a4:=hcl 4 _ rfl l4;simp[Aft,Region.binds]at a4;have l3:L 3=true:=by simp[a4]
          refine⟨?_⟩;obtain⟨hol9,hap9,hne9⟩:=hC.2.2.1 l12 hlk;have HKK:Hid _:=HSET.out wr (U 70) hol9 hap9 hne9;obtain⟨k4,k5⟩:=HFZ.out wr (U 70) hap9;obtain⟨ao9,cc9,hv9,-,-,-,-⟩:=hol9.shape;obtain⟨nl,hnl⟩:∃nl,nl=k+1:=⟨_,rfl⟩;rw[← hnl]at hv9;clear hnl;have e70:A.tmps[70]?=some (.slice ao9 nl cc9):=hFm.is 12 70 rfl hv9;rw[hv9]at HKK;clear hol9 hap9 hne9 hC;go_simp;refine hK (.tuple #[]) _ trivial ⟨fun h=>?_,fun h1 h2=>?_,fun h1 h2=>?_,fun _=>⟨?_,HKK.out⟩⟩
          · simp[l12]at h
          · simp[l12]at h2
          · simp at h2
          · simp[l0,l1,l2,l3,l4,l5,l6,l7,l8,l9,l10,l11,l12,l13]
        ·
         intro L7 U7 w7 hL7 hC7 hP7;have hE7:=(hC7.2.2.2 (hL7 14 (by decide))).2
         rw[hE5]at hE7;obtain⟨qs',cs',hI7⟩:=hE7;have HI7:=hide hI7;clear hI7 hL7 hC7 hP7 HM0 HM1 HOWN HFZ HSET HF2 hE5 hM5;simp only[setM];go_wp2;go_roundw
         case rel=>exact⟨k+1,qs',cs',by go_num,by omega,HI7.out⟩
         case measure=>simp[intOf]<;>omega
       ·
        have hltI2:¬ ((k:Int)<(lk:Int)):=by omega
        obtain rfl:k=lk:=by omega
        have qb:=HI.out.qb;have k0:wk.cell? ⟨q,0,none⟩=some (.slice qa na ca):=cell_of_row wk q 0 _ 98 (0,0) qb;have k1:wk.cell? ⟨q,1,none⟩=some (.int .i64 plf):=cell_of_row wk q 1 _ 98 (0,0) qb;have k2:wk.cell? ⟨q,2,none⟩=some (.slice qs k cs9):=cell_of_row wk q 2 _ 98 (0,0) qb;have lq:q<wk.heap.size:=(Array.getElem?_eq_some_iff.1 qb).1;clear qb;obtain⟨w6,hw6⟩:∃w6,wk.alloc (.cells [.slice qa na ca,.int .i64 plf,.slice qs k cs9].toArray 98 (0,0))=w6:=⟨_,rfl⟩;have bl6:Below wk.heap.size wk w6:=by rw[← hw6];exact (Below.refl _ _).alloc (Nat.le_refl _) _
        have B2k:w2.heap.size≤wk.heap.size:=HI.out.bl.size;have I6:=HI.out.below B2k bl6;have J6:=J2.out.below I6.bl;have hlen:nl≤i:=by rw[HNL.out,J6.ly.le];exact up_le J6.ly.up (fun t c ht=>(J6.ly.ix t c ht).1)
        have hnlI:(nl:Int)≤100000000:=by omega
        have ao:=J6.oo;rw[← HNL.out]at ao;have HOL:Hid (OL 3 98 (wk.alloc (.cells [.slice qa na ca,.int .i64 plf,.slice qs k cs9].toArray 98 (0,0))) (.slice qo nl co) nl (chC cs vc vs)):=by rw[hw6];exact ao
        have HF1:Hid (∀t,t<nl→chC (cs++[⟨ys,plf,S⟩]) (upd vc nl (.slice qa na ca)) (upd vs nl (.slice qs k cs9)) t=chC cs vc vs t):=by
         intro t ht;have ht9:t<cs.length:=by rw[← HNL.out];exact ht
         unfold chC;rw[upd_other _ _ (by omega),upd_other _ _ (by omega),List.getD_eq_getElem?_getD,List.getD_eq_getElem?_getD,List.getElem?_append_left ht9]
        have HF2:Hid (chC (cs++[⟨ys,plf,S⟩]) (upd vc nl (.slice qa na ca)) (upd vs nl (.slice qs k cs9)) nl=[.slice qa na ca,.int .i64 plf,.slice qs k cs9]):=by
         show _=_
         unfold chC;rw[upd_same,upd_same,HNL.out];simp
        have HLEN:Hid (nl+1≤1000000000):=by show _≤_;omega
        have HDN:Hid (∀(wa:World) (v:Value),OL 3 98 wa v (nl+1) (chC (cs++[⟨ys,plf,S⟩]) (upd vc nl (.slice qa na ca)) (upd vs nl (.slice qs k cs9)))→App (.slice qo nl co) v w6 wa→wa.cell? ⟨BP,i,none⟩=some (.int .i64 (pl i))∧wa.frozen? ⟨BP,i,none⟩=false∧BP<wa.heap.size∧LyM d nd BP (i+1) (upd pl i (-((nl:Int)+1))) (idx++[i]) (cs++[⟨ys,plf,S⟩]) v (upd vc nl (.slice qa na ca)) (upd vs nl (.slice qs k cs9)) w (wa.setCell ⟨BP,i,none⟩ (.int .i64 (-((nl:Int)+1))))):=by
         intro wa v ho hap;have lB6:BP<w6.heap.size:=J6.op.lt rfl;have lB2:BP<w2.heap.size:=J2.out.op.lt rfl;have op9:OL 1 3 wa (.slice (some ⟨BP,0,none⟩) d.nc d.nc) d.nc (fun j=>[.int .i64 (pl j)]):=J6.op.stay (fun b hb9=>hap.other b (J6.op.lt hb9) (fun e9=>J6.oo.ne J6.op (by decide) e9 hb9))
         have c9:=op9.cell hcd (show 0<1 by decide)
         rw[Nat.mul_one,Nat.add_zero]at c9;have len9:=HNA.out.1;have sl9:S.length=k:=by rw[← HNA.out.2,List.length_map];exact HOLk.out.2.2
         have h9:=J6.learn (x:=⟨ys,plf,S⟩) H.out.2.2.1 hcd (by rw[HNC.out];exact hm) HQ.out.1 hndc (by show plf=_;rw[HQ.out.2,Int.toNat_natCast];exact HP3.out.1.symm) HNA.out.2.symm I6.oc.2.1 I6.oc.2.2.1 (uc:=.slice qa na ca) (us:=.slice qs k cs9) hap (by rw[← HNL.out];exact ho) I6.oc.1 (by show OL 2 _ _ _ S.length _;rw[sl9];exact I6.os) (fun b hb=>by have h8:=I6.oc.2.2.2 b hb;have h7:=J2.out.bl.size;exact⟨by omega,by omega⟩) (fun b hb=>by have h8:=I6.bs b hb;have h7:=J2.out.bl.size;omega)
         rw[← HNL.out]at h9;exact⟨c9,op9.frozen i,Nat.lt_of_lt_of_le lB6 hap.size,h9⟩
        generalize pl i=pli at HDN;have HW6:=hide hw6;clear hlen ao hw6 bl6 B2k I6 J6 HI;go_wp2_with (at_builtin;refine Euf.wpList_push rfl (.tmp 73) (.tmp 75) 51 rfl 3 98 _ 56 uCh iCh (by decide) rfl (by decide) (.slice qo nl co) nl (chC cs vc vs) rfl [.slice qa na ca,.int .i64 plf,.slice qs k cs9] 98 HOL.out (fun _ _=>rfl) 1 rfl rfl (by intro u hu;simp at hu;rcases hu with rfl|rfl|rfl<;>rfl) HLEN.out (chC (cs++[⟨ys,plf,S⟩]) (upd vc nl (.slice qa na ca)) (upd vs nl (.slice qs k cs9))) HF1.out HF2.out ?_;intro v9 w9 hol9 hap9 hne9;rw[HW6.out]at hap9;obtain⟨d1,d2,d3,d4⟩:=HDN.out w9 v9 hol9 hap9;obtain⟨q8,c8,hv8,-⟩:=hol9.shape;subst hv8;have HE:=hide d4;clear d4 hol9 hap9 hne9)
        go_roundw
        case rel=>exact⟨i+1,_,_,cs++[⟨ys,plf,S⟩],_,_,q8,nl+1,c8,rfl,by go_num,by omega,HE.out,by rw[HNL.out];simp⟩
        case measure=>simp[intOf]<;>omega
   ·
    have hnuB:(nu != -1)=true:=by simpa using hnu1
    obtain⟨n1,n2⟩:=H.out.2.2.2.2.1 i hcd (by rw[HQ.out.1];exact hnu1)
    rw[HQ.out.1]at n1 n2;have HE:Hid (LyM d nd BP (i+1) (upd pl i nu) idx cs (.slice qo nl co) vc vs w (w2.setCell ⟨BP,i,none⟩ (.int .i64 nu))):=J2.out.added H.out.2.2.1 hcd HQ.out.1 hnu1 (by omega) (by omega)
    generalize pl i=pli at qp;go_wp2;go_roundw
    case rel=>exact⟨i+1,_,idx,cs,vc,vs,qo,nl,co,rfl,by go_num,by omega,HE.out,HNL.out⟩
    case measure=>simp[intOf]<;>omega
  ·
   have hltI:¬ ((i:Int)<(nc:Int)):=by omega
   obtain rfl:i=nc:=by omega
   have HE:Hid (∃nd BP pl idx cs vo vc vs,Ending.returned (Value.slice qo nl co)=.returned vo∧LyM d nd BP d.nc pl idx cs vo vc vs w wl∧nd (d.nc - 1)=true∧∀c,c<d.nc→Clo d nd c):=⟨nd,BP,pl,idx,cs,_,vc,vs,rfl,by rw[HNC.out];exact HJ.out,HLA.out.1,fun c hc=>HLA.out.2 c (Nat.zero_le _) hc⟩
   clear HJ;go_wp2;go_ret
   obtain⟨e1,e2,e3,e4,e5,e6,e7,e8,k1,k2,k3,k4⟩:=HE.out;first|exact⟨e1,e2,e3,e4,e5,e6,e7,e8,k1,k2,k3,k4⟩|exact⟨e1,e2,e3,e4,e5,e6,k1,⟨e7,e8,k2⟩,k3,k4⟩
end Sat
namespace Sat
theorem raceOff (w:World):(callFunc 141 #[]).run Tryz.prog w=.ok (.value (.tuple #[])) w:=run_call_mark0 Tryz.func141 (by kernel_rfl) (by kernel_rfl) (by kernel_rfl) .disable (by kernel_rfl) w
theorem raceOn (w:World):(callFunc 143 #[]).run Tryz.prog w=.ok (.value (.tuple #[])) w:=run_call_mark0 Tryz.func143 (by kernel_rfl) (by kernel_rfl) (by kernel_rfl) .enable (by kernel_rfl) w
theorem raceAcq (a:Addr) (w:World):(callFunc 144 #[.pointer (some a)]).run Tryz.prog w=.ok (.value (.tuple #[])) w:=run_call_marked Tryz.func144 (by kernel_rfl) (by kernel_rfl) (by kernel_rfl) .acquire (by kernel_rfl) a w
theorem raceRel (a:Addr) (w:World):(callFunc 146 #[.pointer (some a)]).run Tryz.prog w=.ok (.value (.tuple #[])) w:=run_call_marked Tryz.func146 (by kernel_rfl) (by kernel_rfl) (by kernel_rfl) .releaseMerge (by kernel_rfl) a w
set_option maxRecDepth 20000 in
theorem store_deferred (a:Addr) (x:Value) (u:FrameMode) (w:World) (hc:w.cell? a=some x) (hz:w.frozen? a=false) :
  CallsD Tryz.prog 115 #[.pointer (some a),.bool true] u w fun e u' w'=>u'=u∧(e=.returned (.tuple #[])∧w'=w.drew.setCell a (.int .u32 1)):=by
 have hc':w.drew.cell? a=some x:=by go_simp
 have hz':w.drew.frozen? a=false:=by go_simp
 have hst:=run_call_store (P:=Tryz.prog) Tryz.func135 (by kernel_rfl) (by kernel_rfl) (by kernel_rfl) (by kernel_rfl) (k:=.u32) (y:=1) hc' hz'
 go_enter_d Tryz.func115,Tryz.ntmps115
 go_wp2;go_region_calls
 all_goals (go_end0;exact⟨rfl,rfl⟩)
set_option maxRecDepth 20000 in
theorem unlock_deferred (a:Addr) (u:FrameMode) (w:World) (hc:w.cell? a=some (.int .i32 1)) (hz:w.frozen? a=false) :
  CallsD Tryz.prog 114 #[.pointer (some a)] u w fun e u' w'=>u'=u∧(e=.returned (.tuple #[])∧w'=w.setCell a (.int .i32 0)):=by
 have hd:=raceOff;have he:=raceOn;have hr:=raceRel;have hadd:=run_call_add (P:=Tryz.prog) Tryz.func147 (by kernel_rfl) (by kernel_rfl) (by kernel_rfl) .i32 (by kernel_rfl) (y:=-1) (s:=0) hc hz (by simp[go_sem];rfl)
 have hcv:=run_convert_to_unsafe (P:=Tryz.prog) (src:=173) (dst:=177) Tryz.underlying173 Tryz.underlying177 (by kernel_rfl) hc
 go_enter_d Tryz.func114,Tryz.ntmps114
 go_wp2;go_end0
 go_wp2
set_option maxRecDepth 20000 in
theorem lock_free (a:Addr) (w:World) (hc:w.cell? a=some (.int .i32 0)) (hz:w.frozen? a=false) :
  Calls Tryz.prog 113 #[.pointer (some a)] w fun e w'=>e=.returned (.tuple #[])∧w'=w.setCell a (.int .i32 1):=by
 have hd:=raceOff;have he:=raceOn;have ha:=raceAcq;have hcas:=run_call_cas_hit (P:=Tryz.prog) Tryz.func142 (by kernel_rfl) (by kernel_rfl) (by kernel_rfl) .i32 (by kernel_rfl) (y:=1) hc hz
 have hc':(w.setCell a (.int .i32 1)).cell? a=some (.int .i32 1):=World.cell?_setCell_same w a _ hc;have hcv:=run_convert_to_unsafe (P:=Tryz.prog) (src:=173) (dst:=177) Tryz.underlying173 Tryz.underlying177 (by kernel_rfl) hc'
 go_enter Tryz.func113,Tryz.ntmps113;go_wp2;first|go_end0|(simp only[Exit.inBlock,Exit.then];refine bodyPost_ret (results_none rfl _ _ _) rfl ?_)|refine bodyPost_ret (results_none rfl _ _ _) rfl ?_
 go_wp2
set_option maxRecDepth 20000 in
theorem loadB_any (a:Addr) (x:Int) (w:World) (hc:w.cell? a=some (.int .u32 x)) :
  Calls Tryz.prog 84 #[.pointer (some a)] w fun e w'=>e=.returned (.bool (x != 0))∧w'=w:=by
 have hl:=run_call_load (P:=Tryz.prog) Tryz.func112 (by kernel_rfl) (by kernel_rfl) (by kernel_rfl) .u32 (by kernel_rfl) hc
 go_enter Tryz.func84,Tryz.ntmps84;go_wp2;go_ret
 exact⟨rfl,rfl⟩
set_option maxRecDepth 100000 in
set_option maxHeartbeats 1600000 in
theorem slow_any (g:Nat) (pl:Addr) (R:World→Prop) (w:World) (h0:w.cell? ⟨g,19,none⟩=some (.int .u32 0)) (h1:w.cell? ⟨g,20,none⟩=some (.int .i32 0)) (f1:w.frozen? ⟨g,20,none⟩=false)
  (hF:Calls Tryz.prog 53 #[.pointer (some pl)] (w.setCell ⟨g,20,none⟩ (.int .i32 1)) fun e w'=>e=.returned (.tuple #[])∧R w')
  (hR:∀w',R w'→w'.cell? ⟨g,19,none⟩=some (.int .u32 0)∧w'.frozen? ⟨g,19,none⟩=false∧w'.cell? ⟨g,20,none⟩=some (.int .i32 1)∧w'.frozen? ⟨g,20,none⟩=false) :
  Calls Tryz.prog 85 #[.pointer (some ⟨g,19,none⟩),.func (.func 53) #[] #[.pointer (some pl)]] w fun e w'=>e=.returned (.tuple #[])∧∃w9,R w9∧w'=(w9.drew.setCell ⟨g,19,none⟩ (.int .u32 1)).setCell ⟨g,20,none⟩ (.int .i32 0):=by
 have h02:(w.setCell ⟨g,20,none⟩ (.int .i32 1)).cell? ⟨g,19,none⟩=some (.int .u32 0):=(World.cell?_setCell_other _ ⟨g,20,none⟩ ⟨g,19,none⟩ _ (by simp)).trans h0
 have hnot:∀(x:Bool) (w:World),(Op.unary .not (.bool x)).run Tryz.prog w=.ok (.bool (!x)) w:=fun _ _=>rfl
 have HF:=hide hF;clear hF;go_enter_defers Tryz.func85,Tryz.ntmps85
 go_wp2_with (first|(go_at_call 113;refine (lock_free ⟨g,20,none⟩ _ (by go_simp) (by go_simp)).mono ?_;rintro e w' ⟨rfl,rfl⟩)|(go_at_call 84;refine (loadB_any _ 0 _ h02).mono ?_;rintro e w' ⟨rfl,rfl⟩)|(go_at_call 53;refine HF.out.mono ?_;rintro e w9 ⟨rfl,h9⟩;obtain⟨r1,r2,r3,r4⟩:=hR w9 h9))
 refine leaves_cons (f:=115) (args:=#[.pointer (some ⟨g,19,none⟩),.bool true]) (by simp) (by simp[go_sem]) ?_
 refine (store_deferred ⟨g,19,none⟩ (.int .u32 0) .returning _ r1 r2).mono ?_;rintro e u' w'' ⟨rfl,rfl,rfl⟩;refine leaves_cons (f:=114) (args:=#[.pointer (some ⟨g,20,none⟩)]) (by simp[settle]) (by simp[go_sem]) ?_
 refine (unlock_deferred ⟨g,20,none⟩ _ _ ?_ (by simp[r4])).mono ?_
 · exact (World.cell?_setCell_other _ ⟨g,19,none⟩ ⟨g,20,none⟩ _ (by simp)).trans (by rw[World.cell?_drew];exact r3)
 rintro e u' w'' ⟨rfl,rfl,rfl⟩;simp[Leaves,settle,results,Tryz.results85];exact⟨w9,h9,rfl⟩
set_option maxRecDepth 100000 in
set_option maxHeartbeats 1600000 in
theorem do_first (g:Nat) (pl:Addr) (R:World→Prop) (w:World) (h0:w.cell? ⟨g,19,none⟩=some (.int .u32 0)) (h1:w.cell? ⟨g,20,none⟩=some (.int .i32 0)) (f1:w.frozen? ⟨g,20,none⟩=false)
  (hF:Calls Tryz.prog 53 #[.pointer (some pl)] (w.setCell ⟨g,20,none⟩ (.int .i32 1)) fun e w'=>e=.returned (.tuple #[])∧R w')
  (hR:∀w',R w'→w'.cell? ⟨g,19,none⟩=some (.int .u32 0)∧w'.frozen? ⟨g,19,none⟩=false∧w'.cell? ⟨g,20,none⟩=some (.int .i32 1)∧w'.frozen? ⟨g,20,none⟩=false) :
  Calls Tryz.prog 52 #[.pointer (some ⟨g,19,none⟩),.func (.func 53) #[] #[.pointer (some pl)]] w fun e w'=>e=.returned (.tuple #[])∧∃w9,R w9∧w'=(w9.drew.setCell ⟨g,19,none⟩ (.int .u32 1)).setCell ⟨g,20,none⟩ (.int .i32 0):=by
 have hnot:∀(x:Bool) (w:World),(Op.unary .not (.bool x)).run Tryz.prog w=.ok (.bool (!x)) w:=fun _ _=>rfl
 have HS:=hide (slow_any g pl R w h0 h1 f1 hF hR);clear hF hR;go_enter Tryz.func52,Tryz.ntmps52;go_wp2_with (first|(go_at_call 84;refine (loadB_any _ 0 _ h0).mono ?_;rintro e w' ⟨rfl,rfl⟩)|(go_at_call 85;refine HS.out.mono ?_;rintro e w' ⟨rfl,h9⟩))
 have H9:=hide h9;clear h9;go_end0
 exact⟨rfl,H9.out⟩
set_option maxRecDepth 100000 in
theorem do_done (g:Nat) (fv:Value) (w:World) (h0:w.cell? ⟨g,19,none⟩=some (.int .u32 1)) :
  Calls Tryz.prog 52 #[.pointer (some ⟨g,19,none⟩),fv] w fun e w'=>e=.returned (.tuple #[])∧w'=w:=by
 have hnot:∀(x:Bool) (w:World),(Op.unary .not (.bool x)).run Tryz.prog w=.ok (.bool (!x)) w:=fun _ _=>rfl
 go_enter Tryz.func52,Tryz.ntmps52;go_wp2_with (go_at_call 84;refine (loadB_any _ 1 _ h0).mono ?_;rintro e w' ⟨rfl,rfl⟩)
 go_end0
 exact⟨rfl,rfl⟩
end Sat
end Go.Proofs.YtbmkkhpoaicclabGreat
