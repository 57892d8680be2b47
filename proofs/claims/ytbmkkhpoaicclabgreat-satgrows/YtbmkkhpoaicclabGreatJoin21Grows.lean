/- Joined: SatId, SatNd, SatZc, SatAp: words and contracts; no statement of the seat is proved here. -/
import Derived.Test.YtbmkkhpoaicclabGreatJoin20Grows
import Derived.Test.YtbmkkhpoaicclabGreatJoin14Grows
import Derived.Test.YtbmkkhpoaicclabGreatJoin16Grows
namespace Go.Proofs.YtbmkkhpoaicclabGreat
open Go.RowKit
set_option linter.unusedVariables false
namespace Sat
section
variable {nv nc h:Nat} {V:Nat→Int} {T S Q U:List Nat} {F:Nat→Fc} {C:Nat→Cl} {W:Nat→List (Nat × Nat)} {I:List (List Nat)}
/-! ## A clause more -/
theorem TI.addC (t:TI nv V T S F nc C) (x:Cl):TI nv V T S F (nc+1) (upd C nc x):=by
 refine { t with re:=fun i hi hS=>?_,un:=fun i hi hl=>?_ }
 · obtain⟨r,h1,h2,h3,h4⟩:=t.re i hi hS;exact⟨r,by omega,h2,by rw[upd_other _ _ (by omega)];exact h3,by rw[upd_other _ _ (by omega)];exact h4⟩
 · obtain⟨u,h1,h2,h3⟩:=t.un i hi hl;exact⟨u,by omega,h2,by rw[upd_other _ _ (by omega)];exact h3⟩
theorem CI.addC (c:CI nv nc C) {x:Cl} (h1:∀m∈x.lits,2≤m∧m<2*(nv+1)) (h2:(x.lits.map (· / 2)).Nodup):CI nv (nc+1) (upd C nc x):=by
 refine⟨fun i hi=>?_,fun i hi=>?_⟩
 ·
  by_cases e:i=nc
  · subst e;rw[upd_same];exact h1
  · rw[upd_other _ _ e];exact c.ok i (by omega)
 ·
  by_cases e:i=nc
  · subst e;rw[upd_same];exact h2
  · rw[upd_other _ _ e];exact c.nd i (by omega)
theorem WI.addC (wi:WI nv nc C W) (x:Cl):WI nv (nc+1) (upd C nc x) W:=by
 refine⟨fun l hl p hp=>?_,wi.w2⟩
 obtain⟨h1,h2,h3⟩:=wi.w1 l hl p hp;rw[upd_other _ _ (by omega)]
 exact⟨by omega,h2,h3⟩
theorem SI.addC (s:SI nv V T S F nc C W h Q U) {x:Cl} (h1:∀m∈x.lits,2≤m∧m<2*(nv+1)) (h2:(x.lits.map (· / 2)).Nodup):SI nv V T S F (nc+1) (upd C nc x) W h (Q++[nc]) U:=by
 have key:∀c,c<nc+1→c ∉ Q++[nc]→c<nc∧c ∉ Q∧upd C nc x c=C c:=fun c hc hq=>by
  have e:c≠nc:=fun e=>hq (by simp[e])
  exact⟨by omega,fun h9=>hq (List.mem_append_left _ h9),upd_other _ _ e⟩
 refine { ti:=s.ti.addC x,ci:=s.ci.addC h1 h2,wi:=s.wi.addC x,w4:=fun l hl p hp i hi hT=>?_,he:=fun c hc hq=>?_,fr:=fun c hc hq=>?_,hl:=s.hl,hs:=s.hs,uc:=fun c hc hq=>?_,ut:=s.ut }
 ·
  have h9:=(s.wi.w1 l hl p hp).1;rw[upd_other _ _ (by omega)]
  exact s.w4 l hl p hp i hi hT
 · obtain⟨k1,k2,k3⟩:=key c hc hq;unfold Held;rw[k3];exact s.he c k1 k2
 · obtain⟨k1,k2,k3⟩:=key c hc hq;rw[k3];exact s.fr c k1 k2
 · obtain⟨k1,k2,k3⟩:=key c hc hq;rw[k3];exact s.uc c k1 k2
end
section
variable {d d':Dt} {I:List (List Nat)} {A:Nat} {Q U:List Nat}
theorem Bs.addC (b:Bs d I A Q U) {x:Cl} {L:List Nat} (h1:∀m∈x.lits,2≤m∧m<2*(d.nv+1)) (h2:(x.lits.map (· / 2)).Nodup) (hn:x.num=(I.length:Nat)) (hL:∀m,m∈x.lits↔m∈L) (h3:d'.nv=d.nv) (h4:d'.V=d.V) (h5:d'.T=d.T) (h6:d'.S=d.S) (h7:d'.F=d.F) (h8:d'.nc=d.nc+1) (h9:d'.C=upd d.C d.nc x):Bs d' (I++[L]) (A+1) (Q++[d.nc]) U:=by
 refine⟨by rw[h3,h4,h5,h6,h7,h8,h9];exact b.ti.addC x,by rw[h3,h8,h9];exact b.ci.addC h1 h2,fun c hc hq=>?_,by rw[h5];exact b.ut,?_,?_⟩
 ·
  have e:c≠d.nc:=fun e=>hq (by simp[e])
  rw[h9,upd_other _ _ e];exact b.uc c (by omega) (fun k=>hq (List.mem_append_left _ k))
 · rw[h8,h9];refine (b.dv.grow (J:=[L])).more (Or.inl ⟨I.length,L,hn,by simp,hL⟩)
 · have:=b.cn;rw[h5,h6,h8];omega
theorem AtI.addC (t:AtI d I A Q U) {x:Cl} {L:List Nat} (h1:∀m∈x.lits,2≤m∧m<2*(d.nv+1)) (h2:(x.lits.map (· / 2)).Nodup) (hn:x.num=(I.length:Nat)) (hL:∀m,m∈x.lits↔m∈L) (e:d'={ d with nc:=d.nc+1,C:=upd d.C d.nc x,Q:=d'.Q,added:=d'.added,mo:=d'.mo }):AtI d' (I++[L]) (A+1) (Q++[d.nc]) U:=by
 have e1:d'.nv=d.nv:=by rw[e]
 have e2:d'.V=d.V:=by rw[e]
 have e3:d'.T=d.T:=by rw[e]
 have e4:d'.S=d.S:=by rw[e]
 have e5:d'.F=d.F:=by rw[e]
 have e6:d'.nc=d.nc+1:=by rw[e]
 have e7:d'.C=upd d.C d.nc x:=by rw[e]
 have e8:d'.W=d.W:=by rw[e]
 have e9:d'.hp=d.hp:=by rw[e]
 have e10:d'.at_=d.at_:=by rw[e]
 have e11:d'.clash=d.clash:=by rw[e]
 have e12:d'.head=d.head:=by rw[e]
 refine⟨t.bs.addC h1 h2 hn hL e1 e2 e3 e4 e5 e6 e7,by rw[e1,e6,e7,e8];exact t.wi.addC x,fun l hl p hp hq=>?_,⟨by rw[e1,e9,e10];exact t.ov.oi,by rw[e9];exact t.ov.hu,by rw[e1];exact t.ov.uo,by rw[e9,e2];exact t.ov.cv,t.ov.un⟩,by rw[e4];exact t.s0,?_⟩
 ·
  rw[e1]at hl;rw[e8]at hp;rcases List.mem_append.1 hq with hq|hq
  · exact t.qf l hl p hp hq
  · have h9:=(t.wi.w1 l hl p hp).1;simp at hq;omega
 ·
  rw[e11];rcases t.fi with⟨k1,k2⟩|⟨c,k1,k2,k3⟩
  ·
   left
   refine⟨k1,?_⟩;rw[e1,e2,e3,e4,e5,e6,e7,e8,e12];exact k2.addC h1 h2
  ·
   right
   refine⟨c,k1,by rw[e6];omega,?_⟩
   rw[e7,e3,upd_other _ _ (by omega)]
   exact k3
/-! ## Between calls -/
def Rp (d:Dt) (I:List (List Nat)):Prop:=∀L∈I,(∃m∈L,ng m∈L)∨∃c,c<d.nc∧∀m,m∈(d.C c).lits↔m∈L
theorem Rp.ol (h:Rp d I) (o:Ol d d'):Rp d' I:=fun L hL=>by
  rcases h L hL with h1|⟨c,h1,h2⟩
  · exact Or.inl h1
  · exact Or.inr ⟨c,Nat.lt_of_lt_of_le h1 o.le,fun m=>(o.ol c h1 m).trans (h2 m)⟩
structure Idc (d:Dt) (I:List (List Nat)) (U:List Nat):Prop where
  m0:∀v,(d.F v).mark=0
  ms:d.mks=[]
  rp:Rp d I
  qn:d.Q.Nodup
  ql:∀x∈d.Q,x<d.nc
  qi:∀x∈d.Q,∃L∈I,∀m,m∈(d.C x).lits↔m∈L
  ui:∀u∈U,∃L∈I,∃m∈L,m / 2=u
  rf:d.refuted=false
  ad:d.added=I.length
structure Idl (d:Dt) (I:List (List Nat)) (A:Nat) (U:List Nat):Prop where
  ic:Idc d I U
  ai:AtI d I A d.Q U
structure Idw (d:Dt) (I:List (List Nat)) (A:Nat) (U:List Nat):Prop where
  ic:Idc d I U
  ai:AtI d I A d.Q U∨(d.Q=[]∧Bs d I A [] U∧Ov d U∧d.S=[]∧FI d U)
theorem Idl.w (h:Idl d I A U):Idw d I A U:=⟨h.ic,Or.inl h.ai⟩
theorem Idl.taut (h:Idl d I A U) {L:List Nat} (ht:∃m∈L,ng m∈L) (e:d'={ d with added:=d.added+1,mo:=[] }):Idl d' (I++[L]) (A+1) U:=by
 subst e;have a:=h.ai;refine⟨⟨h.ic.m0,h.ic.ms,fun L' hL'=>?_,h.ic.qn,h.ic.ql,fun x hx=>?_,fun u hu=>?_,h.ic.rf,?_⟩,⟨?_,a.wi,a.qf,⟨a.ov.oi,a.ov.hu,a.ov.uo,a.ov.cv,a.ov.un⟩,a.s0,a.fi⟩⟩
 ·
  rcases List.mem_append.1 hL' with h1|h1
  · exact h.ic.rp L' h1
  · simp at h1;subst h1;exact Or.inl ht
 · obtain⟨L',h1,h2⟩:=h.ic.qi x hx;exact⟨L',List.mem_append_left _ h1,h2⟩
 · obtain⟨L',h1,h2⟩:=h.ic.ui u hu;exact⟨L',List.mem_append_left _ h1,h2⟩
 · show d.added+1=_;rw[h.ic.ad];simp
 · exact⟨a.bs.ti,a.bs.ci,a.bs.uc,a.bs.ut,a.bs.dv.grow,by have:=a.bs.cn;show d.nc≤A+1+fixd d.T d.S;omega⟩
theorem Idl.more (h:Idl d I A U) {x:Cl} {L:List Nat} (h1:∀m∈x.lits,2≤m∧m<2*(d.nv+1)) (h2:(x.lits.map (· / 2)).Nodup) (hn:x.num=(I.length:Nat)) (hL:∀m,m∈x.lits↔m∈L) (e:d'={ d with nc:=d.nc+1,C:=upd d.C d.nc x,Q:=d.Q++[d.nc],added:=d.added+1,mo:=[] }):Idl d' (I++[L]) (A+1) U:=by
 have o:Ol d d':=by
  rw[e];exact⟨Nat.le_succ _,fun c hc m=>by show m∈(upd d.C d.nc x c).lits↔_;rw[upd_other _ _ (by omega)]⟩
 have eQ:d'.Q=d.Q++[d.nc]:=by rw[e]
 have enc:d'.nc=d.nc+1:=by rw[e]
 have eC:d'.C=upd d.C d.nc x:=by rw[e]
 have eF:d'.F=d.F:=by rw[e]
 refine⟨⟨by rw[eF];exact h.ic.m0,by rw[e];exact h.ic.ms,fun L' hL'=>?_,?_,fun c hc=>?_,fun c hc=>?_,fun u hu=>?_,by rw[e];exact h.ic.rf,?_⟩,?_⟩
 ·
  rcases List.mem_append.1 hL' with k|k
  · exact h.ic.rp.ol o L' k
  · simp at k;subst k;exact Or.inr ⟨d.nc,by omega,fun m=>by rw[eC,upd_same];exact hL m⟩
 ·
  rw[eQ];refine List.nodup_append.2 ⟨h.ic.qn,by simp,fun a ha b hb=>?_⟩
  simp at hb;have:=h.ic.ql a ha;omega
 ·
  rw[eQ]at hc;rcases List.mem_append.1 hc with k|k
  · have:=h.ic.ql c k;omega
  · simp at k;omega
 ·
  rw[eQ]at hc;rcases List.mem_append.1 hc with k|k
  · obtain⟨L',k1,k2⟩:=h.ic.qi c k;exact⟨L',List.mem_append_left _ k1,fun m=>(o.ol c (h.ic.ql c k) m).trans (k2 m)⟩
  · simp at k;subst k;exact⟨L,by simp,fun m=>by rw[eC,upd_same];exact hL m⟩
 · obtain⟨L',k1,k2⟩:=h.ic.ui u hu;exact⟨L',List.mem_append_left _ k1,k2⟩
 · rw[e];show d.added+1=_;rw[h.ic.ad];simp
 · rw[eQ];exact h.ai.addC h1 h2 hn hL (by rw[e])
/-! ## What Solve leaves -/
theorem Dv.sound {nc:Nat} {C:Nat→Cl} (h:Dv nc C I) {M:Nat→Bool} (hM:∀L∈I,∃m∈L,tru M m):∀c,c<nc→∃m∈(C c).lits,tru M m:=by
 intro c;induction c using Nat.strongRecOn with
 | _ c ih =>
  intro hc;rcases h c hc with⟨n,L,h1,h2,h3⟩|⟨h1,f,h2,h3,h4,h5,-⟩
  · obtain⟨m,k1,k2⟩:=hM L (List.mem_of_getElem? h2);exact⟨m,(h3 m).2 k1,k2⟩
  · exact h5.sound (tru M) (tru_ng M) (ih f h3 (by omega)) (fun p hp=>ih p.1 (h4 p hp) (by have:=h4 p hp;omega))
structure Rfd (d:Dt) (I:List (List Nat)):Prop where
  rf:d.refuted=true
  ad:d.added=I.length
  dv:Dv d.nc d.C I
  ci:CI d.nv d.nc d.C
  mo:d.mo=[]
  ls:∃n,d.nc=n+1∧(d.C n).lits=[]∧(d.C n).num=-1
theorem Rfd.none (r:Rfd d I) (M:Nat→Bool):¬ ∀L∈I,∃m∈L,tru M m:=fun hM=>by
  obtain⟨n,h1,h2,-⟩:=r.ls
  obtain⟨m,h3,-⟩:=r.dv.sound hM n (by omega)
  rw[h2]at h3;cases h3
theorem SC.start {bu:Int} (t:AtI d I A [] U∨(Bs d I A [] U∧Ov d U∧d.S=[]∧FI d U)) (m0:∀v,(d.F v).mark=0) (ms:d.mks=[]) (h0:d.steps=0):SC d d I A U [] bu∧FI d U:=by
 have key:Bs d I A [] U∧Ov d U∧d.S=[]∧FI d U:=by
  rcases t with t|t
  ·
   refine⟨t.bs,t.ov,t.s0,?_⟩;rcases t.fi with h|⟨c,h1,h2,h3⟩
   · exact Or.inl h
   · exact Or.inr ⟨c,h1,h2,t.s0,h3⟩
  · exact t
 obtain⟨b,o,s0,f⟩:=key;exact⟨⟨b,o,m0,ms,⟨rfl,rfl,rfl,rfl,rfl⟩,Ol.refl _,Lr.nil,by omega,Or.inr h0,by rw[h0];omega,by rw[h0];simp⟩,f⟩
end
end Sat
open Go Go.RowKit
namespace Sat
open Euf (OL App)
def Clo (d:Dt) (nd:Nat→Bool) (c:Nat):Prop:=nd c=true→(d.C c).num=-1→nd (d.C c).first.toNat=true∧∀p∈(d.C c).links,nd p.1=true
structure NdI (d:Dt) (B:Nat) (k:Nat) (nd:Nat→Bool) (w wr:World):Prop where
  ol:OL 1 4 wr (.slice (some ⟨B,0,none⟩) d.nc d.nc) d.nc (fun i=>[.bool (nd i)])
  bl:Below w.heap.size w wr
  la:nd (d.nc - 1)=true
  cl:∀c,k≤c→c<d.nc→Clo d nd c
theorem nd_set {nd:Nat→Bool} {B n:Nat} {wr:World} (h:OL 1 4 wr (.slice (some ⟨B,0,none⟩) n n) n (fun i=>[.bool (nd i)])) {j:Nat} (hj:j<n):OL 1 4 (wr.setCell ⟨B,j,none⟩ (.bool true)) (.slice (some ⟨B,0,none⟩) n n) n (fun i=>[.bool (upd nd j true i)]):=by
 have h9:=h.set hj (show 0<1 by decide) (.bool true) (f':=fun i=>[.bool (upd nd j true i)]) (fun k _=>rfl) (by simp[upd]) (fun k _ hk=>by simp[upd,hk])
 simpa using h9
theorem upd_ge {nd:Nat→Bool} {j i:Nat} (h:nd i=true):upd nd j true i=true:=by unfold upd;split<;>simp[h]
theorem Clo.up {d:Dt} {nd:Nat→Bool} {c j:Nat} (h:Clo d nd c) (hj:j<c):Clo d (upd nd j true) c:=fun h1 h2=>by
  rw[upd_other _ _ (by omega)]at h1
  obtain⟨k1,k2⟩:=h h1 h2
  exact⟨upd_ge k1,fun p hp=>upd_ge (k2 p hp)⟩
structure SK (w:World) (g:Nat) (d:Dt) (a:Key→Value):Prop where
  c2:w.cell? ⟨g,2,none⟩=some (a kClz)
  gl:g<w.heap.size
  rw_:Rws (dom d) (rows d a) w
section
variable {w w':World} {g:Nat} {d:Dt} {a:Key→Value}
theorem SW.locked (h:SW w g d a) (x:Value):SK (w.setCell ⟨g,20,none⟩ x) g d a :=
  ⟨(World.cell?_setCell_other _ ⟨g,20,none⟩ ⟨g,2,none⟩ _ (by simp)).trans (h.cell 2),by simpa using h.lt,h.rw_.keep (fun k b hk e=>heap_setCell_other w ⟨g,20,none⟩ b x (fun e9=>h.ne hk (by rw[rows_v]at e;rw[e];exact congrArg some e9)))⟩
theorem SK.lt (h:SK w g d a):g<w.heap.size:=h.gl
theorem SK.below (h:SK w g d a) (hb:Below w.heap.size w w'):SK w' g d a :=
  ⟨(World.cell?_of_block (a:=⟨g,2,none⟩) (hb.block g h.gl)).trans h.c2,Nat.lt_of_lt_of_le h.gl hb.size,h.rw_.keep (fun k b hk e=>hb.block b (h.rw_.lt hk e))⟩
theorem SK.ol (h:SK w g d a) {k:Key} (hk:dom d k):OL (rows d a k).sz (rows d a k).e w (a k) (rows d a k).n (rows d a k).f:=by
 have h0:=h.rw_.ok k hk;unfold Rw.ok at h0;rwa [rows_v]at h0
theorem SK.clzR (h:SK w g d a) (hn:0<d.nc):∃b cap,a kClz=.slice (some ⟨b,0,none⟩) d.nc cap∧b<w.heap.size∧(∀c,c<d.nc→w.cell? ⟨b,c*4,none⟩=some (a (kLit c))∧w.cell? ⟨b,c*4+1,none⟩=some (.int .i64 (d.C c).num)∧w.cell? ⟨b,c*4+2,none⟩=some (.int .i64 (d.C c).first)∧w.cell? ⟨b,c*4+3,none⟩=some (a (kLnk c)))∧∀o,w.frozen? ⟨b,o,none⟩=false:=by
 have h0:OL 4 86 w (a kClz) d.nc (clC d.C a):=h.ol (k:=kClz) (by exact⟨by decide,rfl⟩)
 obtain⟨b,cap,hv,h1,h2⟩:=h0.open 0 hn;rw[hv]at h0;refine⟨b,cap,hv,h0.lt rfl,fun v hv'=>?_,fun o=>h0.frozen o⟩
 exact⟨h0.cell (i:=v) hv' (j:=0) (by decide),h0.cell (i:=v) hv' (j:=1) (by decide),h0.cell (i:=v) hv' (j:=2) (by decide),h0.cell (i:=v) hv' (j:=3) (by decide)⟩
end
theorem prC_at {L:List (Nat × Nat)} {i:Nat} (hi:i<L.length):prC L i=[.int .i32 ((L[i].1:Nat):Int),.int .i32 ((L[i].2:Nat):Int)]:=by simp[prC,hi]
set_option maxRecDepth 20000 in
set_option maxHeartbeats 16000000 in
theorem needed_any (g:Nat) (d:Dt) (a:Key→Value) (w:World) (h:SK w g d a) (hn:0<d.nc) (hm:d.nc≤100000000) (hd:∀c,c<d.nc→(d.C c).num=-1→(∃f:Nat,(d.C c).first=(f:Int)∧f<c)∧∀p∈(d.C c).links,p.1<c) :
  Calls Tryz.prog 86 #[.pointer (some ⟨g,0,none⟩)] w fun e w'=>e=.returned (.slice (some ⟨w.heap.size,0,none⟩) d.nc d.nc)∧∃nd,NdI d w.heap.size 0 nd w w':=by
 obtain⟨bC,cC,hC,lC,qC,-⟩:=h.clzR hn;have c2:w.cell? ⟨g,2,none⟩=some (.slice (some ⟨bC,0,none⟩) d.nc cC):=h.c2.trans (congrArg some hC);have hlg:=h.lt;have H:=hide (And.intro h (And.intro hd hC));have hnI:(d.nc:Int)≤100000000:=by omega
 have hn0:(0:Int)<(d.nc:Int):=by omega
 obtain⟨nl,hnl⟩:∃nl,d.nc=nl+1:=⟨d.nc - 1,by omega⟩
 have HNL:=hide hnl;obtain⟨nc,hnc⟩:∃nc,d.nc=nc:=⟨_,rfl⟩;have HNC:=hide hnc;rw[hnc]at c2 hnI hn0 hn hm ⊢;have hnlI:(nc:Int) - 1=(nl:Int):=by omega
 have hnlt:nl<nc:=by omega
 have hnltI:(nl:Int)<(nc:Int):=by omega
 clear h hd hC qC hnl hnc;go_enter Tryz.func86,Tryz.ntmps86;go_wp2_with (at_make;refine wpList_make_ol _ rfl _ _ 23 rfl 4 (.bool false) 1 1 uBools iBool rfl _ _ _ _ nc nc rfl rfl rfl rfl (Nat.le_refl _) (by decide) (by omega) ?_;intro w1 hr1 hb1 hz1;have q1:w1.cell? ⟨w.heap.size,nl,none⟩=some (.bool false):=(by have h9:=hr1.cell hnlt (show 0<1 by decide);rw[Nat.mul_one,Nat.add_zero]at h9;exact h9);have z1:=hr1.frozen nl;have lb1:w.heap.size<w1.heap.size:=hr1.lt rfl;have H1:=hide (And.intro hr1 hb1);clear hr1 hb1 hz1)
 have HS:Hid (NdI d w.heap.size nc (upd (fun _=>false) nl true) w (w1.setCell ⟨w.heap.size,nl,none⟩ (.bool true))):=by
  refine⟨?_,H1.out.2.setCell (p:=⟨w.heap.size,nl,none⟩) (Nat.le_refl _) _,?_,fun c h1 h2=>?_⟩
  · rw[HNC.out];exact nd_set (nd:=fun _=>false) (H1.out.1.congr (fun i _=>rfl)) hnlt
  ·
   have e9:d.nc - 1=nl:=by rw[HNL.out];rfl
   rw[e9,upd_same]
  · rw[HNC.out]at h2;omega
 clear q1 z1 lb1 H1;go_loopg [5] nc (fun gk v5 wr=>∃(k:Nat) (nd:Nat→Bool),v5=.int .i64 ((k:Int) - 1)∧k≤nc∧Hid (k=gk∧NdI d w.heap.size k nd w wr))
 case atStart=>exact⟨nc,_,by rw[hnlI],Nat.le_refl _,rfl,HS.out⟩
 case round =>
  rename World=>wl
  clear HS;obtain⟨k,nd,rfl,hk,HJ⟩:=hrel;by_cases hk0:k=0
  ·
   subst hk0;have HE:Hid (∃nd,NdI d w.heap.size 0 nd w wl):=⟨nd,HJ.out.2⟩;go_wp2;go_ret
   exact⟨rfl,HE.out⟩
  ·
   obtain⟨c,rfl⟩:∃c,k=c+1:=⟨k - 1,by omega⟩
   have hcn:c<nc:=by omega
   have hcI:(c:Int)<(nc:Int):=by omega
   have e5:((c+1:Nat):Int) - 1=(c:Int):=by omega
   rw[e5];have hcd:c<d.nc:=by rw[HNC.out];exact hcn
   have s1:=H.out.1.below HJ.out.2.bl;obtain⟨bC',cC',hC',lC',qC',-⟩:=s1.clzR (by omega)
   have e9:Value.slice (some ⟨bC,0,none⟩) d.nc cC=Value.slice (some ⟨bC',0,none⟩) d.nc cC':=H.out.2.2.symm.trans hC';cases e9
   obtain⟨q0,q1,q2,q3⟩:=qC' c hcd;have k2:wl.cell? ⟨g,2,none⟩=some (.slice (some ⟨bC,0,none⟩) nc cC):=by rw[← HNC.out];exact s1.c2.trans (congrArg some hC')
   have lg:g<wl.heap.size:=s1.lt;obtain⟨ql,cl,hvl,-⟩:=(s1.ol (k:=kLit c) hcd).shape;obtain⟨qk,ck,hvk,-⟩:=(s1.ol (k:=kLnk c) hcd).shape;have hvl':a (kLit c)=.slice ql (d.C c).lits.length cl:=hvl;have hvk':a (kLnk c)=.slice qk (d.C c).links.length ck:=hvk;rw[hvl']at q0;rw[hvk']at q3;obtain⟨ll,hll⟩:∃ll,(d.C c).lits.length=ll:=⟨_,rfl⟩;obtain⟨lk,hlk⟩:∃lk,(d.C c).links.length=lk:=⟨_,rfl⟩;rw[hll]at q0;rw[hlk]at q3;obtain⟨nu,hnu⟩:∃nu,(d.C c).num=nu:=⟨_,rfl⟩;obtain⟨fi,hfi⟩:∃fi,(d.C c).first=fi:=⟨_,rfl⟩
   rw[hnu]at q1;rw[hfi]at q2;have qb:wl.cell? ⟨w.heap.size,c,none⟩=some (.bool (nd c)):=by
    have h9:=HJ.out.2.ol.cell hcd (show 0<1 by decide)
    rw[Nat.mul_one,Nat.add_zero]at h9;exact h9
   have lB:w.heap.size<wl.heap.size:=HJ.out.2.ol.lt rfl;obtain⟨w2,hw2⟩:∃w2,wl.alloc (.cells #[.slice ql ll cl,.int .i64 nu,.int .i64 fi,.slice qk lk ck] 86 (0,0))=w2:=⟨_,rfl⟩;have bl2:Below wl.heap.size wl w2:=by rw[← hw2];exact (Below.refl _ _).alloc (Nat.le_refl _) _
   have NB:Hid (∀w3,Below wl.heap.size wl w3→NdI d w.heap.size (c+1) nd w w3):=fun w3 hb=>⟨HJ.out.2.ol.stay (fun b9 hb9=>hb.block b9 (HJ.out.2.ol.lt hb9)),HJ.out.2.bl.trans (hb.mono (by omega)),HJ.out.2.la,HJ.out.2.cl⟩
   have HBL:=hide bl2;have HG:=hide HJ.out.1;have HOL:=hide (s1.ol (k:=kLnk c) hcd);have HVK:=hide hvk';have HL:=hide (And.intro hlk (And.intro hnu hfi));clear s1 hC' lC' qC' hvl hvk hvl' hvk' hll hlk hnu hfi HJ bl2;have lw2:wl.heap.size<w2.heap.size:=by rw[← hw2];simp
   have kb2:w2.heap[wl.heap.size]?=some (.cells #[.slice ql ll cl,.int .i64 nu,.int .i64 fi,.slice qk lk ck] 86 (0,0)):=by rw[← hw2];exact heap_alloc_new wl _
   have qb2:w2.cell? ⟨w.heap.size,c,none⟩=some (.bool (nd c)):=by rw[← qb];exact World.cell?_of_block (a:=⟨w.heap.size,c,none⟩) (HBL.out.block _ lB)
   have lB2:w.heap.size<w2.heap.size:=by omega
   have p1:w2.cell? ⟨wl.heap.size,1,none⟩=some (.int .i64 nu):=cell_of_row w2 wl.heap.size 1 _ _ (0,0) kb2;have p2:w2.cell? ⟨wl.heap.size,2,none⟩=some (.int .i64 fi):=cell_of_row w2 wl.heap.size 2 _ _ (0,0) kb2;have HKB:=hide kb2;clear kb2 qb lB;cases hndc:nd c with
   | false =>
    rw[hndc]at qb2;have HE:Hid (NdI d w.heap.size c nd w w2):=by
     have h9:=NB.out w2 HBL.out;refine⟨h9.ol,h9.bl,h9.la,fun c' k1 k2=>?_⟩
     by_cases e:c'=c
     · subst e;intro h8;rw[hndc]at h8;cases h8
     · exact h9.cl c' (by omega) k2
    clear NB HL HOL HVK HKB hndc;go_wp2;go_roundg c
    case rel=>exact⟨c,nd,rfl,by omega,rfl,HE.out⟩
    case measure=>have:=HG.out;omega
   | true =>
    rw[hndc]at qb2;by_cases hnu1:nu=-1
    ·
     subst hnu1;obtain⟨⟨f,hf1,hf2⟩,hlnk⟩:=H.out.2.1 c hcd HL.out.2.1;obtain rfl:fi=(f:Int):=by rw[← HL.out.2.2,hf1]
     have hfn:f<nc:=by omega
     have hfI:(f:Int)<(nc:Int):=by omega
     have n2:=NB.out w2 HBL.out;have qf:w2.cell? ⟨w.heap.size,f,none⟩=some (.bool (nd f)):=by
      have h9:=n2.ol.cell (i:=f) (by rw[HNC.out];exact hfn) (show 0<1 by decide)
      rw[Nat.mul_one,Nat.add_zero]at h9;exact h9
     have zf:w2.frozen? ⟨w.heap.size,f,none⟩=false:=n2.ol.frozen f;have p3:(w2.setCell ⟨w.heap.size,f,none⟩ (.bool true)).cell? ⟨wl.heap.size,3,none⟩=some (.slice qk lk ck):=by
      have e9:(w2.setCell ⟨w.heap.size,f,none⟩ (.bool true)).heap[wl.heap.size]?=w2.heap[wl.heap.size]?:=heap_setCell_other w2 ⟨w.heap.size,f,none⟩ wl.heap.size _ (fun e=>by have e8:wl.heap.size=w.heap.size:=e;have:=(NB.out wl (Below.refl _ _)).ol.lt (b:=w.heap.size) rfl;omega)
      rw[World.cell?_of_block (a:=⟨wl.heap.size,3,none⟩) e9];exact cell_of_row w2 wl.heap.size 3 _ _ (0,0) HKB.out
     have HI:Hid (NdI d w.heap.size (c+1) (upd nd f true) w (w2.setCell ⟨w.heap.size,f,none⟩ (.bool true))∧upd nd f true c=true∧upd nd f true f=true):=⟨⟨nd_set n2.ol (by rw[HNC.out];exact hfn),n2.bl.setCell (p:=⟨w.heap.size,f,none⟩) (Nat.le_refl _) _,upd_ge n2.la,fun c' k1 k2=>(n2.cl c' k1 k2).up (by omega)⟩,by rw[upd_other _ _ (by omega)];exact hndc,upd_same _ _ _⟩
     have HF:=hide (And.intro hf1 hlnk);obtain⟨w3,hw3⟩:∃w3,w2.setCell ⟨w.heap.size,f,none⟩ (.bool true)=w3:=⟨_,rfl⟩;rw[hw3]at p3 HI;have lw3:wl.heap.size<w3.heap.size:=by rw[← hw3];simp;exact lw2
     generalize nd f=ndf at qf;have hlkI:(lk:Int)≤9223372036854775807:=by
      have h8:=HOL.out;rw[HVK.out]at h8;obtain⟨q8,c8,e8,h7,h6,-⟩:=h8.shape;have e7:(rows d a (kLnk c)).n=lk:=HL.out.1;rw[e7]at h7;unfold maxLen at h6;omega
     clear NB n2 hf1 hf2 hlnk hndc HKB;go_wp2_with fail
     clear hw3 hw2 p1 p2 p3 qb2 qf zf;go_loopw [50] (fun v50 wr=>∃(j:Nat) (nd':Nat→Bool),v50=.int .i64 (j:Nat)∧j≤lk∧Hid (NdI d w.heap.size (c+1) nd' w wr∧nd' c=true∧nd' f=true∧∀i p,i<j→(d.C c).links[i]?=some p→nd' p.1=true)) (fun v _=>lk - (intOf v).toNat)
     case atStart=>exact⟨0,_,rfl,Nat.zero_le _,HI.out.1,HI.out.2.1,HI.out.2.2,fun i p hi=>absurd hi (Nat.not_lt_zero _)⟩
     case round =>
      rename World=>wm
      clear HI;obtain⟨j,nd',rfl,hj,HK⟩:=hrel;by_cases hlt:j<lk
      ·
       have hltI:(j:Int)<(lk:Int):=by omega
       have hjl:j<(d.C c).links.length:=by rw[HL.out.1];exact hlt
       have olm:=HOL.out;have olk:OL 2 127 wm (.slice qk lk ck) lk (prC (d.C c).links):=by
        have h9:=(H.out.1.below HK.out.1.bl).ol (k:=kLnk c) hcd;rw[HVK.out,HL.out.1]at h9;have e7:(rows d a (kLnk c)).n=lk:=HL.out.1;rw[e7]at h9;exact h9
       obtain⟨bk,ck',e9,-,-⟩:=olk.open j hlt;cases e9
       have l0:wm.cell? ⟨bk,j*2,none⟩=some (.int .i32 (((d.C c).links[j].1:Nat):Int)):=by
        have h9:=olk.cell hlt (show 0<2 by decide)
        rw[prC_at hjl]at h9;exact h9
       have l1:wm.cell? ⟨bk,j*2+1,none⟩=some (.int .i32 (((d.C c).links[j].2:Nat):Int)):=by
        have h9:=olk.cell hlt (show 1<2 by decide)
        rw[prC_at hjl]at h9;exact h9
       have lbk:bk<wm.heap.size:=olk.lt rfl;obtain⟨p,hp⟩:∃p,(d.C c).links[j]=p:=⟨_,rfl⟩;rw[hp]at l0 l1;have hpc:p.1<c:=HF.out.2 p (by rw[← hp];exact List.getElem_mem hjl)
       obtain⟨p1,p2⟩:=p;have hpn:p1<nc:=by simp at hpc;omega
       have hpI:(p1:Int)<(nc:Int):=by omega
       have hpS:(p1:Int)≤100000000:=by omega
       obtain⟨w5,hw5⟩:∃w5,wm.alloc (.cells #[.int .i32 (p1:Nat),.int .i32 (p2:Nat)] 127 (0,0))=w5:=⟨_,rfl⟩;have bl5:Below wm.heap.size wm w5:=by rw[← hw5];exact (Below.refl _ _).alloc (Nat.le_refl _) _
       have kb5:w5.heap[wm.heap.size]?=some (.cells #[.int .i32 (p1:Nat),.int .i32 (p2:Nat)] 127 (0,0)):=by rw[← hw5];exact heap_alloc_new wm _
       have m0:w5.cell? ⟨wm.heap.size,0,none⟩=some (.int .i32 (p1:Nat)):=cell_of_row w5 wm.heap.size 0 _ _ (0,0) kb5;have lw5:wm.heap.size<w5.heap.size:=by rw[← hw5];simp
       have ol5:=HK.out.1.ol.stay (fun b9 hb9=>bl5.block b9 (HK.out.1.ol.lt hb9))
       have qp:w5.cell? ⟨w.heap.size,p1,none⟩=some (.bool (nd' p1)):=by
        have h9:=ol5.cell (i:=p1) (by rw[HNC.out];exact hpn) (show 0<1 by decide)
        rw[Nat.mul_one,Nat.add_zero]at h9;exact h9
       have zp:w5.frozen? ⟨w.heap.size,p1,none⟩=false:=ol5.frozen p1;have lB5:w.heap.size<w5.heap.size:=ol5.lt rfl;have bw5:Below w.heap.size w w5:=HK.out.1.bl.trans (bl5.mono (by have:=HK.out.1.ol.lt (b:=w.heap.size) rfl;omega))
       have HE:Hid (NdI d w.heap.size (c+1) (upd nd' p1 true) w (w5.setCell ⟨w.heap.size,p1,none⟩ (.bool true))∧upd nd' p1 true c=true∧upd nd' p1 true f=true∧∀i p,i<j+1→(d.C c).links[i]?=some p→upd nd' p1 true p.1=true):=by
        refine⟨⟨nd_set ol5 (by rw[HNC.out];exact hpn),bw5.setCell (p:=⟨w.heap.size,p1,none⟩) (Nat.le_refl _) _,upd_ge HK.out.1.la,fun c' k1 k2=>(HK.out.1.cl c' k1 k2).up (by simp at hpc;omega)⟩,upd_ge HK.out.2.1,upd_ge HK.out.2.2.1,fun i p9 hi hg9=>?_⟩
        by_cases e:i=j
        · subst e;rw[List.getElem?_eq_getElem hjl,hp]at hg9;injection hg9 with hg9;rw[← hg9];exact upd_same _ _ _
        · exact upd_ge (HK.out.2.2.2 i p9 (by omega) hg9)
       generalize nd' p1=ndp at qp;clear olm olk hp hpc kb5 bl5 ol5 bw5 HK;go_wp2;go_roundw
       case rel=>exact⟨j+1,_,by go_num,by omega,HE.out⟩
       case measure=>simp[intOf]<;>omega
      ·
       have hltI:¬ ((j:Int)<(lk:Int)):=by omega
       obtain rfl:j=lk:=by omega
       have HE:Hid (NdI d w.heap.size c nd' w wm):=by
        refine⟨HK.out.1.ol,HK.out.1.bl,HK.out.1.la,fun c' k1 k2=>?_⟩
        by_cases e:c'=c
        ·
         subst e;intro _ _;refine⟨by rw[HF.out.1];exact HK.out.2.2.1,fun p hp=>?_⟩
         obtain⟨i,hi,rfl⟩:=List.mem_iff_getElem.1 hp;exact HK.out.2.2.2 i _ (by rw[← HL.out.1];exact hi) (List.getElem?_eq_getElem hi)
        · exact HK.out.1.cl c' (by omega) k2
       go_wp2;go_roundg c
       case rel=>exact⟨c,nd',rfl,by omega,rfl,HE.out⟩
       case measure=>have:=HG.out;omega
    ·
     have hnuB:(nu != -1)=true:=by simpa using hnu1
     have HE:Hid (NdI d w.heap.size c nd w w2):=by
      have h9:=NB.out w2 HBL.out;refine⟨h9.ol,h9.bl,h9.la,fun c' k1 k2=>?_⟩
      by_cases e:c'=c
      · subst e;intro _ h8;rw[HL.out.2.1]at h8;exact absurd h8 hnu1
      · exact h9.cl c' (by omega) k2
     clear NB HL HOL HVK HKB hndc;go_wp2;go_roundg c
     case rel=>exact⟨c,nd,rfl,by omega,rfl,HE.out⟩
     case measure=>have:=HG.out;omega
theorem told_any (g:Nat) (ad k:Int) (w:World) (hc:w.cell? ⟨g,1,none⟩=some (.int .i64 ad)) (lg:g<w.heap.size) (h1:0≤ad) (h2:ad≤1000000) (h3:-1000000000≤k) (h4:k≤1000000000):Calls Tryz.prog 55 #[.pointer (some ⟨g,0,none⟩),.int .i64 k] w fun e w'=>e=.returned (.int .i64 (if k<0 then ad - 1 - k else k))∧w'=w:=by
 by_cases hk:k<0
 ·
  rw[if_pos hk];go_enter Tryz.func55,Tryz.ntmps55;go_wp2;go_ret
  exact⟨rfl,rfl⟩
 ·
  rw[if_neg hk];go_enter Tryz.func55,Tryz.ntmps55;go_wp2;go_ret
  exact⟨rfl,rfl⟩
end Sat
namespace Sat
open Euf (OL App)
theorem i32C_at {L:List Nat} {i:Nat} (hi:i<L.length):i32C L i=[.int .i32 ((L[i]:Nat):Int)]:=by simp[i32C,hi]
theorem izC_at {L:List Int} {i:Nat} (hi:i<L.length):izC L i=[.int .i64 L[i]]:=by simp[izC,hi]
set_option maxRecDepth 20000 in
set_option maxHeartbeats 4000000 in
theorem inside_any (q:Option Addr) (n cap:Nat) (zs:List Int) (w:World) (h:IL w q n cap zs) (hs:∀z∈zs,-5000≤z∧z≤5000) (hn:n≤1000000) :
  Calls Tryz.prog 35 #[.slice q n cap] w fun e w'=>e=.returned (.slice (some ⟨w.heap.size,0,none⟩) n n)∧OL 1 106 w' (.slice (some ⟨w.heap.size,0,none⟩) n n) n (i32C (zs.map lit))∧Below w.heap.size w w':=by
 have hnI:(n:Int)≤1000000:=by omega
 have H:=hide (And.intro h hs);clear h hs;go_enter Tryz.func35,Tryz.ntmps35;go_wp2_with (at_make;refine wpList_make_ol _ rfl _ _ 61 rfl 106 (.int .i32 0) 1 4 uLits iLit rfl _ _ _ _ n n rfl rfl rfl rfl (Nat.le_refl _) (by decide) (by omega) ?_;intro w1 hr1 hb1 hz1;have H1:=hide (And.intro hr1 (And.intro hb1 hz1));clear hr1 hb1 hz1)
 go_loopw [11] (fun v11 wr=>∃(i:Nat),v11=.int .i64 (i:Nat)∧i≤n∧Hid (OL 1 106 wr (.slice (some ⟨w.heap.size,0,none⟩) n n) n (fun j=>if j<i then i32C (zs.map lit) j else [.int .i32 0])∧Below w.heap.size w wr)) (fun v _=>n - (intOf v).toNat)
 case atStart=>exact⟨0,rfl,Nat.zero_le _,H1.out.1.congr (fun i _=>by rw[if_neg (Nat.not_lt_zero _)];rfl),H1.out.2.1⟩
 case round =>
  rename World=>wl
  obtain⟨i,rfl,hi,HJ⟩:=hrel;clear H1;by_cases hlt:i<n
  ·
   have hltI:(i:Int)<(n:Int):=by omega
   have hl:=H.out.1.len;rcases (H.out.1.below HJ.out.2).at_ with h0|⟨b,off,rfl,lb,hc⟩
   · rw[h0]at hl;simp at hl;omega
   ·
    have ci:=hc i hlt;have hiz:i<zs.length:=by omega
    obtain⟨z,hz⟩:∃z,zs.getD i 0=z:=⟨_,rfl⟩;have s1:=H.out.2 _ (getD_of (zs:=zs) (i:=i) hiz);rw[hz]at ci s1;have hz':zs[i]=z:=by rw[← hz,List.getD_eq_getElem?_getD,List.getElem?_eq_getElem hiz];rfl
    have HL:=hide (litOf_any z · (by omega) (by omega))
    have q3:wl.cell? ⟨w.heap.size,i,none⟩=some (.int .i32 0):=by
     have h9:=HJ.out.1.cell hlt (show 0<1 by decide)
     rw[Nat.mul_one,Nat.add_zero,if_neg (Nat.lt_irrefl _)]at h9;exact h9
    have z3:=HJ.out.1.frozen i;have hwl:w.heap.size<wl.heap.size:=HJ.out.1.lt rfl;have HE:Hid (OL 1 106 (wl.setCell ⟨w.heap.size,i,none⟩ (.int .i32 ((lit z:Nat):Int))) (.slice (some ⟨w.heap.size,0,none⟩) n n) n (fun j=>if j<i+1 then i32C (zs.map lit) j else [.int .i32 0])∧Below w.heap.size w (wl.setCell ⟨w.heap.size,i,none⟩ (.int .i32 ((lit z:Nat):Int)))):=by
     refine⟨?_,HJ.out.2.setCell (p:=⟨w.heap.size,i,none⟩) (Nat.le_refl _) _⟩;have h9:=HJ.out.1.set hlt (show 0<1 by decide) (.int .i32 ((lit z:Nat):Int)) (f':=fun j=>if j<i+1 then i32C (zs.map lit) j else [.int .i32 0]) (fun k _=>by split<;>rfl) (by
      rw[if_pos (Nat.lt_succ_self _),if_neg (Nat.lt_irrefl _),i32C_at (by simpa using hiz)]
      simp[hz']) (fun k _ hk=>by
      by_cases e:k<i
      · rw[if_pos (by omega),if_pos e]
      · rw[if_neg (by omega),if_neg e])
     simpa using h9
    clear hc hl hz hz' HJ;generalize lit z=lz at *;go_wp2_with (go_at_call 59;refine (HL.out _).mono ?_;rintro e w9 ⟨rfl,hw9⟩;obtain rfl:=hw9.symm)
    go_roundw
    case rel=>exact⟨i+1,by go_num,by omega,HE.out⟩
    case measure=>simp[intOf]<;>omega
  ·
   have hltI:¬ ((i:Int)<(n:Int)):=by omega
   obtain rfl:i=n:=by omega
   go_wp2;go_ret
   exact⟨rfl,HJ.out.1.congr (fun j hj=>by rw[if_pos hj]),HJ.out.2⟩
set_option maxRecDepth 20000 in
set_option maxHeartbeats 4000000 in
theorem outside_any (v:Value) (L:List Nat) (w:World) (h:OL 1 106 w v L.length (i32C L)) (hs:∀m∈L,m<20000) (hn:L.length≤1000000) :
  Calls Tryz.prog 41 #[v] w fun e w'=>∃v' ys,e=.returned v'∧ys.Perm (L.map num)∧ys.Pairwise (fun a b=>¬ bv b a)∧OL 1 3 w' v' ys.length (izC ys)∧v'.ownBlock=some w.heap.size∧Below w.heap.size w w':=by
 obtain⟨n,hnn⟩:∃n,L.length=n:=⟨_,rfl⟩;have hnI:(n:Int)≤1000000:=by omega
 obtain⟨q,cap,rfl,hcap1,hcap2,-,hq⟩:=h.shape;rw[hnn]at h;have H:=hide (And.intro h (And.intro hs hnn));rw[hnn];clear h hs hnn;go_enter Tryz.func41,Tryz.ntmps41;go_wp2_with (at_make;refine wpList_make_ol _ rfl _ _ 35 rfl 3 (.int .i64 0) 1 8 u_cloneI i_cloneI rfl _ _ _ _ n n rfl rfl rfl rfl (Nat.le_refl _) (by decide) (by omega) ?_;intro w1 hr1 hb1 hz1;have H1:=hide (And.intro hr1 (And.intro hb1 hz1));clear hr1 hb1 hz1)
 go_loopw [11] (fun v11 wr=>∃(i:Nat),v11=.int .i64 (i:Nat)∧i≤n∧Hid (OL 1 3 wr (.slice (some ⟨w.heap.size,0,none⟩) n n) n (fun j=>if j<i then izC (L.map num) j else [.int .i64 0])∧Below w.heap.size w wr)) (fun v _=>n - (intOf v).toNat)
 case atStart=>exact⟨0,rfl,Nat.zero_le _,H1.out.1.congr (fun i _=>by rw[if_neg (Nat.not_lt_zero _)];rfl),H1.out.2.1⟩
 case round =>
  rename World=>wl
  obtain⟨i,rfl,hi,HJ⟩:=hrel;clear H1;by_cases hlt:i<n
  ·
   have hltI:(i:Int)<(n:Int):=by omega
   have hiz:i<L.length:=by rw[H.out.2.2];exact hlt
   have olL:OL 1 106 wl (.slice q n cap) n (i32C L):=H.out.1.stay (fun b hb=>HJ.out.2.block b (H.out.1.lt hb))
   obtain⟨b,c',e9,-,-⟩:=olL.open i hlt;cases e9
   have lb:b<wl.heap.size:=olL.lt rfl;have ci:wl.cell? ⟨b,i,none⟩=some (.int .i32 ((L[i]:Nat):Int)):=by
    have h9:=olL.cell hlt (show 0<1 by decide)
    rw[Nat.mul_one,Nat.add_zero,i32C_at hiz]at h9;exact h9
   obtain⟨m,hm⟩:∃m,L[i]=m:=⟨_,rfl⟩;have hml:m<20000:=by rw[← hm];exact H.out.2.1 _ (List.getElem_mem hiz)
   rw[hm]at ci;have HL:=hide (number_any m · hml);have q3:wl.cell? ⟨w.heap.size,i,none⟩=some (.int .i64 0):=by
    have h9:=HJ.out.1.cell hlt (show 0<1 by decide)
    rw[Nat.mul_one,Nat.add_zero,if_neg (Nat.lt_irrefl _)]at h9;exact h9
   have z3:=HJ.out.1.frozen i;have hwl:w.heap.size<wl.heap.size:=HJ.out.1.lt rfl;have HE:Hid (OL 1 3 (wl.setCell ⟨w.heap.size,i,none⟩ (.int .i64 (num m))) (.slice (some ⟨w.heap.size,0,none⟩) n n) n (fun j=>if j<i+1 then izC (L.map num) j else [.int .i64 0])∧Below w.heap.size w (wl.setCell ⟨w.heap.size,i,none⟩ (.int .i64 (num m)))):=by
    refine⟨?_,HJ.out.2.setCell (p:=⟨w.heap.size,i,none⟩) (Nat.le_refl _) _⟩;have h9:=HJ.out.1.set hlt (show 0<1 by decide) (.int .i64 (num m)) (f':=fun j=>if j<i+1 then izC (L.map num) j else [.int .i64 0]) (fun k _=>by split<;>rfl) (by
     rw[if_pos (Nat.lt_succ_self _),if_neg (Nat.lt_irrefl _),izC_at (by simpa using hiz)]
     simp[hm]) (fun k _ hk=>by
     by_cases e:k<i
     · rw[if_pos (by omega),if_pos e]
     · rw[if_neg (by omega),if_neg e])
    simpa using h9
   clear olL hm HJ;generalize num m=nm at *;go_wp2_with (go_at_call 73;refine (HL.out _).mono ?_;rintro e w9 ⟨rfl,hw9⟩;obtain rfl:=hw9.symm)
   go_roundw
   case rel=>exact⟨i+1,by go_num,by omega,HE.out⟩
   case measure=>simp[intOf]<;>omega
  ·
   have hltI:¬ ((i:Int)<(n:Int)):=by omega
   obtain rfl:i=n:=by omega
   have hlm:(L.map num).length=i:=by rw[List.length_map];exact H.out.2.2
   have ol1:OL 1 3 wl (.slice (some ⟨w.heap.size,0,none⟩) i i) (L.map num).length (izC (L.map num)):=by rw[hlm];exact HJ.out.1.congr (fun j hj=>by rw[if_pos hj])
   have HSO:=hide (sortV_any _ (L.map num) wl ol1 (fun z hz=>by
    obtain⟨m,hm,rfl⟩:=List.mem_map.1 hz;have h9:=H.out.2.1 m hm;unfold InI num;split<;>omega) (by omega))
   have HB:=hide HJ.out.2;clear HJ ol1;go_wp2_with fail
   refine HSO.out.mono ?_;rintro e w2 ⟨rfl,ys,pm,pw,ol2,mv2⟩;have hly:ys.length=(L.map num).length:=pm.length_eq;have HE:Hid (∃v' ys,Ending.returned (.slice (some ⟨w.heap.size,0,none⟩) i i)=.returned v'∧ys.Perm (L.map num)∧ys.Pairwise (fun a b=>¬ bv b a)∧OL 1 3 w2 v' ys.length (izC ys)∧v'.ownBlock=some w.heap.size∧Below w.heap.size w w2) :=
    ⟨_,ys,rfl,pm,pw,by rw[hly];exact ol2,rfl,HB.out.trans (mv2.toBelow HB.out.size (fun b hb=>by cases hb;exact Nat.le_refl _))⟩
   clear pm pw ol2 mv2 hly HSO;go_wp2;go_ret
   exact HE.out
end Sat
namespace Sat
theorem lit_var (z:Int):lit z / 2=z.natAbs:=by unfold lit;split<;>omega
theorem lit_neg {z:Int} (h:z≠0):lit (-z)=ng (lit z):=by
 unfold lit ng;by_cases h1:z<0
 ·
  have h2:¬ (-z<0):=by omega
  rw[if_pos h1,if_neg h2,if_neg (by omega)];omega
 ·
  have h2:-z<0:=by omega
  rw[if_neg h1,if_pos h2,if_pos (by omega)];omega
theorem lit_inj {x y:Int} (h:lit x=lit y):x=y:=by rw[← num_lit x,← num_lit y,h]
theorem lit_ok {v:Nat} {z:Int} (h:Okl v z):2≤lit z∧lit z<2*(v+1):=by
 obtain⟨h1,h2,h3⟩:=h;unfold lit;split<;>omega
theorem lit_mem {zs s:List Int} (h:SetOf zs s) (m:Nat):m∈s.map lit↔m∈zs.map lit:=by
 rw[List.mem_map,List.mem_map];constructor
 · rintro⟨z,h1,h2⟩;exact⟨z,(h.2 z).1 h1,h2⟩
 · rintro⟨z,h1,h2⟩;exact⟨z,(h.2 z).2 h1,h2⟩
theorem srt_beside {s:List Int} (hs:Srt s) {x:Int} (hx:x∈s) (hn:-x∈s) (h0:x≠0):∃j,j+1<s.length∧s.getD j 0=- s.getD (j+1) 0:=by
 have key:∀x:Int,x<0→x∈s→-x∈s→∃j,j+1<s.length∧s.getD j 0=- s.getD (j+1) 0:=by
  intro x hlt hx hn;obtain⟨i,hi,ei⟩:=List.mem_iff_getElem.1 hx;obtain⟨j,hj,ej⟩:=List.mem_iff_getElem.1 hn;have pw:∀a b (ha:a<s.length) (hb:b<s.length),a<b→bv s[a] s[b]:=fun a b ha hb h=>List.pairwise_iff_getElem.1 hs a b ha hb h
  have hij:i<j:=by
   rcases Nat.lt_trichotomy i j with h|h|h
   · exact h
   · subst h;rw[ei]at ej;omega
   · have h9:=pw j i hj hi h;rw[ei,ej]at h9;unfold bv at h9;omega
  have e1:j=i+1:=by
   apply Classical.byContradiction
   intro hne;have hk:i+1<s.length:=by omega
   have b1:=pw i (i+1) hi hk (by omega)
   have b2:=pw (i+1) j hk hj (by omega)
   rw[ei]at b1;rw[ej]at b2;unfold bv at b1 b2;omega
  subst e1;refine⟨i,hj,?_⟩;rw[List.getD_eq_getElem?_getD,List.getD_eq_getElem?_getD,List.getElem?_eq_getElem hi,List.getElem?_eq_getElem hj];simp[ei,ej]
 by_cases h:x<0
 · exact key x h hx hn
 · exact key (-x) (by omega) hn (by rw[Int.neg_neg];exact hx)
theorem taut_iff {zs s:List Int} (h:SetOf zs s) (h0:∀z∈zs,z≠0):(∃j,j+1<s.length∧s.getD j 0=- s.getD (j+1) 0)↔∃m∈zs.map lit,ng m∈zs.map lit:=by
 constructor
 ·
  rintro⟨j,hj,e⟩;have m1:s.getD j 0∈s:=getD_of (by omega)
  have m2:s.getD (j+1) 0∈s:=getD_of hj;have z2:=h0 _ ((h.2 _).1 m2);refine⟨lit (s.getD (j+1) 0),List.mem_map.2 ⟨_,(h.2 _).1 m2,rfl⟩,?_⟩;rw[← lit_neg z2,← e];exact List.mem_map.2 ⟨_,(h.2 _).1 m1,rfl⟩
 · rintro⟨m,h1,h2⟩;obtain⟨x,hx,rfl⟩:=List.mem_map.1 h1;obtain⟨y,hy,ey⟩:=List.mem_map.1 h2;rw[← lit_neg (h0 x hx)]at ey;have:=lit_inj ey;subst this;exact srt_beside h.1 ((h.2 x).2 hx) ((h.2 _).2 hy) (h0 x hx)
theorem set_nd {zs s:List Int} (h:SetOf zs s) (h0:∀z∈zs,z≠0) (ht:¬ ∃m∈zs.map lit,ng m∈zs.map lit):((s.map lit).map (· / 2)).Nodup:=by
 rw[List.map_map];have e:s.map ((· / 2)∘lit)=s.map Int.natAbs:=List.map_congr_left (fun z _=>lit_var z)
 rw[e];refine List.pairwise_map.2 (h.1.imp_of_mem ?_);intro a b ha hb hab e;have ha':=(h.2 a).1 ha;have hb':=(h.2 b).1 hb;have:a=-b:=by unfold bv at hab;omega
 refine ht ⟨lit b,List.mem_map.2 ⟨b,hb',rfl⟩,?_⟩;rw[← lit_neg (h0 b hb'),← this];exact List.mem_map.2 ⟨a,ha',rfl⟩
end Sat
end Go.Proofs.YtbmkkhpoaicclabGreat
