/- Joined: SatLb, SatLc, SatPo, SatAd: words and contracts; no statement of the seat is proved here. -/
import Derived.Test.YtbmkkhpoaicclabGreatJoin22Grows
import Derived.Test.YtbmkkhpoaicclabGreatJoin14Grows
import Derived.Test.YtbmkkhpoaicclabGreatJoin21Grows
import Derived.Test.YtbmkkhpoaicclabGreatJoin4Grows
namespace Go.Proofs.YtbmkkhpoaicclabGreat
open Go Go.RowKit
set_option linter.unusedVariables false
namespace Sat
open Euf (OL App ONE5 wp_push1)
structure Lp (d:Dt):Prop where
  n0:0<d.nc
  nc:d.nc≤100000000
  nv:d.nv≤5000
  ci:CI d.nv d.nc d.C
  hd:Ahd d
  nu:∀c,c<d.nc→(d.C c).num≠-1→0≤(d.C c).num∧(d.C c).num≤100000000
  lk:∀c,c<d.nc→(d.C c).num=-1→(d.C c).links.length≤1000000∧∀p∈(d.C c).links,p.2≤5000
theorem Rsl.vars {C:Nat→Cl} {P Q:Nat→Prop} {ls:List (Nat × Nat)} (h:Rsl C P ls Q) {nv:Nat} (hb:∀p∈ls,∀m∈(C p.1).lits,m<2*(nv+1)):∀p∈ls,p.2≤nv:=by
 induction h with
 | nil h=>intro p hp;cases hp
 | cons x hx h0 h1 h2 h3 ih =>
  intro p hp;rcases List.mem_cons.1 hp with rfl|hp
  ·
   have h9:=hb _ (List.mem_cons_self ..) _ h2;have h8:=ng_var x;show _≤nv
   rw[← hx];omega
  · exact ih (fun p hp=>hb p (List.mem_cons_of_mem _ hp)) p hp
theorem Rfd.lp {d:Dt} {I:List (List Nat)} (r:Rfd d I) (hnc:d.nc≤100000000) (hnv:d.nv≤5000) (hI:I.length≤100000000):Lp d:=by
 obtain⟨n,hn,-,-⟩:=r.ls;refine⟨by omega,hnc,hnv,r.ci,fun c hc e=>?_,fun c hc e=>?_,fun c hc e=>?_⟩
 ·
  rcases r.dv c hc with⟨n,L,h1,-,-⟩|⟨-,f,h2,h3,h4,-⟩
  · omega
  · exact⟨⟨f,h2,h3⟩,h4⟩
 ·
  rcases r.dv c hc with⟨n,L,h1,h2,-⟩|⟨h1,-⟩
  · have:=(List.getElem?_eq_some_iff.1 h2).1;omega
  · exact absurd h1 e
 ·
  rcases r.dv c hc with⟨n,L,h1,-,-⟩|⟨-,f,h2,h3,h4,h5,X,h6,h7,h8⟩
  · omega
  ·
   have hX:=nodup_sub (List.range (d.nv+1)) X h6 (fun v hv=>by
    obtain⟨m,k1,k2⟩:=h7 v hv;have:=(r.ci.ok f (by omega) m k1).2
    exact List.mem_range.2 (by omega))
   rw[List.length_range]at hX;refine⟨by omega,fun p hp=>?_⟩
   have:=h5.vars (nv:=d.nv) (fun p hp m hm=>(r.ci.ok p.1 (by have:=h4 p hp;omega) m hm).2) p hp
   omega
def LyE (d:Dt) (w1:World) (vo:Value) (wq:World):Prop:=∃w0 nd BP pl idx cs vc vs,Below w1.heap.size w1 w0∧LyM d nd BP d.nc pl idx cs vo vc vs w0 wq∧nd (d.nc - 1)=true∧∀c,c<d.nc→Clo d nd c
def LdE (d:Dt) (g:Nat) (w1 wr:World):Prop:=∃vo wq,LyE d w1 vo wq∧Below w1.heap.size w1 wq∧wr=wq.setCell ⟨g,22,none⟩ vo
set_option maxRecDepth 20000 in
set_option maxHeartbeats 4000000 in
theorem closure_any (g:Nat) (d:Dt) (a:Key→Value) (pb:Nat) (w1:World) (h:SK w1 g d a) (l:Lp d) (hp:w1.cell? ⟨pb,0,none⟩=some (.pointer (some ⟨g,0,none⟩))) (hpl:pb<w1.heap.size) (hne:pb≠g) (h22:w1.cell? ⟨g,22,none⟩=some (.slice none 0 0)) (fz:∀i,w1.frozen? ⟨g,i,none⟩=false) :
  Calls Tryz.prog 53 #[.pointer (some ⟨pb,0,none⟩)] w1 fun e w'=>e=.returned (.tuple #[])∧∃vo wq,LyE d w1 vo wq∧Below w1.heap.size w1 wq∧w'=(wq.setCell ⟨g,22,none⟩ vo).setCell ⟨g,2,none⟩ (.slice none 0 0):=by
 have HO:Hid (∀wr,Below w1.heap.size w1 wr→Calls Tryz.prog 54 #[.pointer (some ⟨g,0,none⟩)] wr fun e w'=>∃vo,e=.returned vo∧LyE d w1 vo w'∧Below wr.heap.size wr w'):=by
  intro wr hb;refine (layOut_any g d a wr (h.below hb) l.n0 l.nc l.nv l.ci l.hd l.nu l.lk).mono ?_;rintro e w' ⟨nd,BP,pl,idx,cs,vo,vc,vs,he,hL,h1,h2⟩;exact⟨vo,he,⟨wr,nd,BP,pl,idx,cs,vc,vs,hb,hL,h1,h2⟩,hL.bl⟩
 have hgl:=h.gl;have hc2:=h.c2;obtain⟨E5,hE5⟩:∃E5:World→Prop,E5=LdE d g w1:=⟨_,rfl⟩;clear h l;go_enter Tryz.func53,Tryz.ntmps53;go_wp2_with fail
 refine wp_region_E (by kernel_rfl) [some 1,some 2,some 3,some 4,some 5,none] [none,some 1,some 2,some 3,some 4,some 5] (fun U=>by kernel_rfl) [fun u=>u=(.pointer (some ⟨g,0,none⟩)),fun u=>u=(.pointer (some ⟨g,0,none⟩)),fun _=>True,fun u=>u=(.pointer (some ⟨g,0,none⟩)),fun u=>u=(.pointer (some ⟨g,22,none⟩)),fun _=>True] (fun L U wr=>(L 5=false→Below w1.heap.size w1 wr)∧(L 2=true→L 5=false→LyE d w1 (U 3) wr)∧(L 5=true→(L 0=true∧L 1=true∧L 2=true∧L 3=true∧L 4=true)∧E5 wr)) (by kernel_rfl) (by decide) (by kernel_rfl) (by kernel_rfl) ?_ ?_ ?_
 · exact fun U=>⟨fun _=>(Below.refl _ _).drew,(fun h=>by cases h),(fun h=>by cases h)⟩
 ·
  refine StepsE.run rfl ?_ ?_
  ·
   intro L U wr hC hP hlk hcl haf A K hFm hK;simp[Aft,Region.binds]at haf;have e0:A.tmps[0]?=some (.pointer (some ⟨pb,0,none⟩)):=(hFm.old 0 (by decide)).trans (by kernel_rfl)
   have hb8:Below w1.heap.size w1 wr:=hC.1 (by cases h:L 5 with|false=>rfl|true=>exact absurd (hC.2.2 h).1 (by simp[hlk]))
   have m0:wr.cell? ⟨pb,0,none⟩=some (.pointer (some ⟨g,0,none⟩)):=(World.cell?_of_block (a:=⟨pb,0,none⟩) (hb8.block _ hpl)).trans hp;clear hb8;have HC:Hid _:=hC;clear hC;refine⟨?_⟩;go_simp;refine hK _ _ rfl ?_;obtain⟨c0,c1,cS⟩:=HC.out;refine⟨fun h=>c0 (by simpa using h),fun h1 h2=>by have h9:=c1 (by simpa using h1) (by simpa using h2);simpa [updO,Go.Proofs.YtbmkkhpoaicclabGreat.upd] using h9,fun h=>?_⟩
   have h9:=cS (by simpa using h)
   exact⟨by simp[h9.1],h9.2⟩
  refine StepsE.run rfl ?_ ?_
  ·
   intro L U wr hC hP hlk hcl haf A K hFm hK;simp[Aft,Region.binds]at haf;have e0:A.tmps[0]?=some (.pointer (some ⟨pb,0,none⟩)):=(hFm.old 0 (by decide)).trans (by kernel_rfl)
   have hb8:Below w1.heap.size w1 wr:=hC.1 (by cases h:L 5 with|false=>rfl|true=>exact absurd (hC.2.2 h).1 (by simp[hlk]))
   have m0:wr.cell? ⟨pb,0,none⟩=some (.pointer (some ⟨g,0,none⟩)):=(World.cell?_of_block (a:=⟨pb,0,none⟩) (hb8.block _ hpl)).trans hp;clear hb8;have HC:Hid _:=hC;clear hC;refine⟨?_⟩;go_simp;refine hK _ _ rfl ?_;obtain⟨c0,c1,cS⟩:=HC.out;refine⟨fun h=>c0 (by simpa using h),fun h1 h2=>by have h9:=c1 (by simpa using h1) (by simpa using h2);simpa [updO,Go.Proofs.YtbmkkhpoaicclabGreat.upd] using h9,fun h=>?_⟩
   have h9:=cS (by simpa using h)
   exact⟨by simp[h9.1],h9.2⟩
  refine StepsE.run rfl ?_ ?_
  ·
   intro L U wr hC hP hlk hcl haf A K hFm hK;simp[Aft,Region.binds]at haf;have g1:U 2=(.pointer (some ⟨g,0,none⟩)):=hP 1 2 (by simp[haf]) rfl
   have e2:A.tmps[2]?=some (.pointer (some ⟨g,0,none⟩)):=hFm.is 1 2 rfl g1;refine⟨?_⟩;have hs:L 5=false:=by cases h:L 5 with|false=>rfl|true=>exact absurd (hC.2.2 h).1 (by simp[hlk])
   have hb8:=hC.1 hs;have HC:Hid _:=hC;clear hC;go_simp;refine (HO.out wr hb8).mono ?_;rintro e w9 ⟨v9,rfl,hl9,hb9⟩;have HL9:=hide hl9;clear hl9;go_simp;refine hK _ _ trivial ⟨fun _=>hb8.trans (hb9.mono hb8.size),fun _ _=>?_,fun h=>?_⟩
   · simp only[updO,Go.Proofs.YtbmkkhpoaicclabGreat.upd,beq_self_eq_true,cond_true];exact HL9.out
   · exact absurd (HC.out.2.2 (by simpa using h)).1 (by simp[hlk])
  refine StepsE.run rfl ?_ ?_
  ·
   intro L U wr hC hP hlk hcl haf A K hFm hK;simp[Aft,Region.binds]at haf;have g0:U 1=(.pointer (some ⟨g,0,none⟩)):=hP 0 1 (by simp[haf]) rfl
   have e1:A.tmps[1]?=some (.pointer (some ⟨g,0,none⟩)):=hFm.is 0 1 rfl g0;have HC:Hid _:=hC;clear hC;refine⟨?_⟩;go_simp;refine hK _ _ rfl ?_;obtain⟨c0,c1,cS⟩:=HC.out;refine⟨fun h=>c0 (by simpa using h),fun h1 h2=>by have h9:=c1 (by simpa using h1) (by simpa using h2);simpa [updO,Go.Proofs.YtbmkkhpoaicclabGreat.upd] using h9,fun h=>?_⟩
   have h9:=cS (by simpa using h)
   exact⟨by simp[h9.1],h9.2⟩
  refine StepsE.run rfl ?_ ?_
  ·
   intro L U wr hC hP hlk hcl haf A K hFm hK;simp[Aft,Region.binds]at haf;have g3:U 4=(.pointer (some ⟨g,0,none⟩)):=hP 3 4 (by simp[haf]) rfl
   have e4:A.tmps[4]?=some (.pointer (some ⟨g,0,none⟩)):=hFm.is 3 4 rfl g3;have HC:Hid _:=hC;clear hC;refine⟨?_⟩;go_simp;refine hK _ _ rfl ?_;obtain⟨c0,c1,cS⟩:=HC.out;refine⟨fun h=>c0 (by simpa using h),fun h1 h2=>by have h9:=c1 (by simpa using h1) (by simpa using h2);simpa [updO,Go.Proofs.YtbmkkhpoaicclabGreat.upd] using h9,fun h=>?_⟩
   have h9:=cS (by simpa using h)
   exact⟨by simp[h9.1],h9.2⟩
  refine StepsE.run rfl ?_ StepsE.nil
  ·
   intro L U wr hC hP hlk hcl haf A K hFm hK;simp[Aft,Region.binds]at haf;have g4:U 5=(.pointer (some ⟨g,22,none⟩)):=hP 4 5 (by simp[haf]) rfl
   have e5:A.tmps[5]?=some (.pointer (some ⟨g,22,none⟩)):=hFm.is 4 5 rfl g4;have e3:A.tmps[3]?=some (U 3):=hFm.got 2 3 rfl;have l4:L 4=true:=by simp[haf]
   have l2:L 2=true:=by simp[haf]
   have a4:=hcl 4 _ rfl l4;simp[Aft,Region.binds]at a4;have l3:L 3=true:=by simp[a4]
   have a2:=hcl 2 _ rfl l2;simp[Aft,Region.binds]at a2;have l1:L 1=true:=by simp[a2]
   have a3:=hcl 3 _ rfl l3;simp[Aft,Region.binds]at a3;have l0:L 0=true:=by simp[a3]
   refine⟨?_⟩;have hb8:=hC.1 hlk;obtain⟨w0,nd,BP,pl,idx,cs,vc,vs,q1,q2,q3,q4⟩:=hC.2.1 l2 hlk;obtain⟨qo,co,hv9,-⟩:=q2.oo.shape;obtain⟨nl,hnl⟩:∃nl,cs.length=nl:=⟨_,rfl⟩;rw[hnl]at hv9;have HK9:Hid (LdE d g w1 (wr.setCell ⟨g,22,none⟩ (U 3))):=⟨U 3,wr,⟨w0,nd,BP,pl,idx,cs,vc,vs,q1,q2,q3,q4⟩,hb8,rfl⟩;rw[hv9]at HK9;have k2:wr.cell? ⟨g,22,none⟩=some (.slice none 0 0):=(World.cell?_of_block (a:=⟨g,22,none⟩) (hb8.block _ hgl)).trans h22;have k3:wr.frozen? ⟨g,22,none⟩=false:=(World.frozen?_of_block (a:=⟨g,22,none⟩) (hb8.block _ hgl)).trans (fz 22);have k4:g<wr.heap.size:=Nat.lt_of_lt_of_le hgl hb8.size;have e3b:A.tmps[3]?=some (.slice qo nl co):=by rw[e3,hv9]
   clear q1 q2 q3 q4 hnl e3 hv9 hb8 hC;go_simp;refine hK (.tuple #[]) _ trivial ⟨fun h=>?_,fun h1 h2=>?_,fun _=>⟨?_,?_⟩⟩
   · simp at h
   · simp at h2
   · simp[l0,l1,l2,l3,l4]
   · rw[hE5];exact HK9.out
 ·
  intro L9 U9 w3 hL9 hC9 hP9;have y1:U9 1=(.pointer (some ⟨g,0,none⟩)):=hP9 0 1 rfl;have hE:=(hC9.2.2 (hL9 5 (by decide))).2
  rw[hE5]at hE;obtain⟨vo,wq,k1,k2,k3⟩:=hE;have K:=hide (And.intro k1 k2);have hgq:g<wq.heap.size:=Nat.lt_of_lt_of_le hgl k2.size;have c2q:wq.cell? ⟨g,2,none⟩=some (a kClz):=(World.cell?_of_block (a:=⟨g,2,none⟩) (k2.block g hgl)).trans hc2;have cpq:wq.cell? ⟨pb,0,none⟩=some (.pointer (some ⟨g,0,none⟩)):=(World.cell?_of_block (a:=⟨pb,0,none⟩) (k2.block pb hpl)).trans hp;have f2q:wq.frozen? ⟨g,2,none⟩=false:=(World.frozen?_of_block (a:=⟨g,2,none⟩) (k2.block g hgl)).trans (fz 2);have c2:w3.cell? ⟨g,2,none⟩=some (a kClz):=by rw[k3];exact (World.cell?_setCell_other _ ⟨g,22,none⟩ ⟨g,2,none⟩ _ (by simp)).trans c2q
  have cp:w3.cell? ⟨pb,0,none⟩=some (.pointer (some ⟨g,0,none⟩)):=by rw[k3];exact (World.cell?_setCell_other _ ⟨g,22,none⟩ ⟨pb,0,none⟩ _ (fun e9=>hne (by injection e9 with e9 _;exact e9.symm))).trans cpq
  have f2:w3.frozen? ⟨g,2,none⟩=false:=by rw[k3];simpa using f2q
  have lg3:g<w3.heap.size:=by rw[k3];simpa using hgq
  have K3:=hide k3;clear k1 k2 k3 c2q cpq f2q hgq hC9 hP9 hL9 hp hc2 HO fz h22 hE5;simp only[setM,y1];clear y1;generalize a kClz=vz at c2;go_wp2;go_end0
  exact⟨rfl,vo,wq,K.out.1,K.out.2,by rw[K3.out]⟩
end Sat
namespace Sat
open Euf (OL App ONE5 wp_push1)
structure Pz (z:Array Value) (nv ad:Nat) (st:Int) (vo:Value):Prop where
  z0:z[0]?=some (.int .i64 (nv:Nat))
  z1:z[1]?=some (.int .i64 (ad:Nat))
  z5:z[5]?=some (.bool true)
  z17:z[17]?=some (.int .i64 st)
  z18:∃v,z[18]?=some v
  z19:z[19]?=some (.int .u32 1)
  z20:z[20]?=some (.int .i32 0)
  z22:z[22]?=some vo
structure Bd1 (x:Chn):Prop where
  fs:-1000000000≤x.first∧x.first≤1000000000
  ls:x.steps.length≤1000000
  lc:x.clause.length≤1000000
  st:∀p∈x.steps,-1000000000≤p.1∧p.1≤1000000000
def Bds (cs:List Chn):Prop:=cs.length≤100000000∧∀x∈cs,Bd1 x
structure PS (w:World) (g nv ad:Nat) (st:Int) (cs:List Chn) (vo:Value) (vc vs:Nat→Value):Prop where
  bk:∃z,w.heap[g]?=some (.cells z 78 (0,0))∧Pz z nv ad st vo
  oo:OL 3 98 w vo cs.length (chC cs vc vs)
  bd:Bds cs
  cw:∀(t:Nat) (x:Chn),cs[t]?=some x→OL 1 3 w (vc t) x.clause.length (izC x.clause)∧OL 2 100 w (vs t) x.steps.length (skC x.steps)
section
variable {w w':World} {g nv ad:Nat} {st:Int} {cs:List Chn} {vo:Value} {vc vs:Nat→Value}
theorem PS.lt (h:PS w g nv ad st cs vo vc vs):g<w.heap.size:=by
 obtain⟨z,h1,-⟩:=h.bk;exact (Array.getElem?_eq_some_iff.1 h1).1
theorem PS.below (h:PS w g nv ad st cs vo vc vs) (hb:Below w.heap.size w w'):PS w' g nv ad st cs vo vc vs:=by
 have hl:=h.lt;obtain⟨z,h1,h2⟩:=h.bk;exact⟨⟨z,(hb.block g hl).trans h1,h2⟩,h.oo.stay (fun b hb9=>hb.block b (h.oo.lt hb9)),h.bd,fun t x ht=>⟨(h.cw t x ht).1.stay (fun b hb9=>hb.block b ((h.cw t x ht).1.lt hb9)),(h.cw t x ht).2.stay (fun b hb9=>hb.block b ((h.cw t x ht).2.lt hb9))⟩⟩
end
def afterDo (wq:World) (g:Nat) (vo:Value):World:=(((wq.setCell ⟨g,22,none⟩ vo).setCell ⟨g,2,none⟩ (.slice none 0 0)).drew.setCell ⟨g,19,none⟩ (.int .u32 1)).setCell ⟨g,20,none⟩ (.int .i32 0)
theorem afterDo_heap (wq:World) (g:Nat) (vo:Value) (b:Nat) (hb:b≠g):(afterDo wq g vo).heap[b]?=wq.heap[b]?:=by
 unfold afterDo;rw[heap_setCell_other _ ⟨g,20,none⟩ b _ hb,heap_setCell_other _ ⟨g,19,none⟩ b _ hb];show ((wq.setCell ⟨g,22,none⟩ vo).setCell ⟨g,2,none⟩ (.slice none 0 0)).heap[b]?=_
 rw[heap_setCell_other _ ⟨g,2,none⟩ b _ hb,heap_setCell_other _ ⟨g,22,none⟩ b _ hb]
theorem LyM.bds {d:Dt} {nd:Nat→Bool} {BP:Nat} {pl:Nat→Int} {idx:List Nat} {cs:List Chn} {vo:Value} {vc vs:Nat→Value} {w wr:World} (lm:LyM d nd BP d.nc pl idx cs vo vc vs w wr) (l:Lp d):Bds cs:=by
 have hle:idx.length≤d.nc:=up_le lm.ly.up (fun t c ht=>(lm.ly.ix t c ht).1)
 refine⟨by rw[lm.ly.le];have:=l.nc;omega,fun x hx=>?_⟩
 obtain⟨t,ht⟩:=List.mem_iff_getElem?.1 hx;have htl:=(List.getElem?_eq_some_iff.1 ht).1;have hti:t<idx.length:=by rw[← lm.ly.le];exact htl
 obtain⟨f1,f2,f3,f4⟩:=lm.ly.ch t _ x (List.getElem?_eq_getElem hti) ht;obtain⟨i1,i2,i3⟩:=lm.ly.ix t _ (List.getElem?_eq_getElem hti);obtain⟨⟨f,e1,e2⟩,e3⟩:=l.hd _ i1 i2;obtain⟨k1,k2⟩:=l.lk _ i1 i2;refine⟨?_,by rw[f2,List.length_map];exact k1,?_,fun p hp=>?_⟩
 ·
  rw[f1,e1,Int.toNat_natCast];have:=lm.bd f (by omega)
  omega
 · have h9:=f3.length_eq;rw[List.length_map]at h9;have h8:=l.ci.few i1;have h7:=l.nv;omega
 ·
  rw[f2]at hp;obtain⟨q,hq,rfl⟩:=List.mem_map.1 hp;have h9:=e3 q hq;have:=lm.bd q.1 (by omega)
  show _≤pl q.1∧pl q.1≤_
  omega
theorem ps_first {g:Nat} {d:Dt} {a:Key→Value} {w:World} (h:SW w g d a) (l:Lp d) (hr:d.refuted=true) {vo:Value} {wq:World} (hL:LyE d (w.setCell ⟨g,20,none⟩ (.int .i32 1)) vo wq) (hb:Below (w.setCell ⟨g,20,none⟩ (.int .i32 1)).heap.size (w.setCell ⟨g,20,none⟩ (.int .i32 1)) wq) :
  ∃cs vc vs,PS (afterDo wq g vo) g d.nv d.added d.steps cs vo vc vs∧∃nd pl idx,Lay d nd d.nc pl idx cs∧nd (d.nc - 1)=true∧∀c,c<d.nc→Clo d nd c:=by
 obtain⟨w0,nd,BP,pl,idx,cs,vc,vs,b0,lm,h1,h2⟩:=hL;have k0:=heap_setCell_same w g 20 _ _ (.int .i32 1) h.blk;have kq:wq.heap[g]?=some (.cells ((cellsOf d a).setIfInBounds 20 (.int .i32 1)) 78 (0,0)):=(hb.block g (by simpa using h.lt)).trans k0
 have k1:=heap_setCell_same wq g 22 _ _ vo kq;have k2:=heap_setCell_same _ g 2 _ _ (.slice none 0 0) k1;have k3:=heap_setCell_same ((wq.setCell ⟨g,22,none⟩ vo).setCell ⟨g,2,none⟩ (.slice none 0 0)).drew g 19 _ _ (.int .u32 1) k2;have k4:=heap_setCell_same _ g 20 _ _ (.int .i32 0) k3;have st:∀{sz:Nat} {e:TypeId} {v:Value} {n:Nat} {f:Nat→List Value},OL sz e wq v n f→e≠78→OL sz e (afterDo wq g vo) v n f:=by
  intro sz e v n f ho he;refine ho.stay (fun b hb9=>afterDo_heap wq g vo b (fun e9=>?_))
  subst e9;exact ho.neB kq he hb9
 refine⟨cs,vc,vs,⟨⟨_,k4,?_⟩,st lm.oo (by decide),lm.bds l,fun t x ht=>?_⟩,nd,pl,idx,lm.ly,h1,h2⟩
 · constructor<;>simp[cellsOf,hr]
 · obtain⟨c1,c2,-,-⟩:=lm.cw t x ht;exact⟨st c1 (by decide),st c2 (by decide)⟩
def Rdy (w:World) (g nv ad:Nat) (st:Int) (T:List Chn→Prop):Prop :=
  (∃d a,SW w g d a∧Lp d∧d.refuted=true∧d.nv=nv∧d.added=ad∧d.steps=st∧∀nd pl idx cs,Lay d nd d.nc pl idx cs→nd (d.nc - 1)=true→(∀c,c<d.nc→Clo d nd c)→T cs) ∨
  ∃cs vo vc vs,PS w g nv ad st cs vo vc vs∧T cs
theorem Rdy.lt {w:World} {g nv ad:Nat} {st:Int} {T:List Chn→Prop} (h:Rdy w g nv ad st T):g<w.heap.size:=by
 rcases h with⟨d,a,h,-⟩|⟨cs,vo,vc,vs,h,-⟩
 · exact h.lt
 · exact h.lt
theorem Rdy.below {w w':World} {g nv ad:Nat} {st:Int} {T:List Chn→Prop} (h:Rdy w g nv ad st T) (hb:Below w.heap.size w w'):Rdy w' g nv ad st T:=by
 rcases h with⟨d,a,h,k⟩|⟨cs,vo,vc,vs,h,k⟩
 · exact Or.inl ⟨d,a,h.below hb,k⟩
 · exact Or.inr ⟨cs,vo,vc,vs,h.below hb,k⟩
theorem Rdy.refuted {w:World} {g nv ad:Nat} {st:Int} {T:List Chn→Prop} (h:Rdy w g nv ad st T):w.cell? ⟨g,5,none⟩=some (.bool true):=by
 rcases h with⟨d,a,h,-,hr,-⟩|⟨cs,vo,vc,vs,h,-⟩
 · rw[h.cell 5];simp[cellsOf,hr]
 · obtain⟨z,k1,k2⟩:=h.bk;rw[cell_of_row w g 5 _ 78 (0,0) k1];exact k2.z5
theorem do_any (g nv ad pb:Nat) (st:Int) (T:List Chn→Prop) (w:World) (h:Rdy w g nv ad st T) (hp:w.cell? ⟨pb,0,none⟩=some (.pointer (some ⟨g,0,none⟩))) (hpl:pb<w.heap.size) (hne:pb≠g) :
  Calls Tryz.prog 52 #[.pointer (some ⟨g,19,none⟩),.func (.func 53) #[] #[.pointer (some ⟨pb,0,none⟩)]] w fun e w'=>e=.returned (.tuple #[])∧∃cs vo vc vs,PS w' g nv ad st cs vo vc vs∧T cs∧Mv (·=g) w w':=by
 rcases h with⟨d,a,h,l,hr,rfl,rfl,rfl,hT⟩|⟨cs,vo,vc,vs,h,hT⟩
 ·
  have hz:∀i,(w.setCell ⟨g,20,none⟩ (.int .i32 1)).frozen? ⟨g,i,none⟩=false:=fun i=>frozen_of_row _ g i _ 78 (heap_setCell_same w g 20 _ _ (.int .i32 1) h.blk)
  have hc:=closure_any g d a pb (w.setCell ⟨g,20,none⟩ (.int .i32 1)) (h.locked _) l ((World.cell?_setCell_other _ ⟨g,20,none⟩ ⟨pb,0,none⟩ _ (fun e9=>hne (by injection e9 with e9 _;exact e9.symm))).trans hp) (by simpa using hpl) hne ((World.cell?_setCell_other _ ⟨g,20,none⟩ ⟨g,22,none⟩ _ (by simp)).trans (h.cell 22)) hz
  refine (do_first g ⟨pb,0,none⟩ _ w (h.cell 19) (h.cell 20) (h.frozen 20) hc ?_).mono ?_
  ·
   rintro w' ⟨vo,wq,h1,h2,rfl⟩;have k0:=heap_setCell_same w g 20 _ _ (.int .i32 1) h.blk;have kq:wq.heap[g]?=some (.cells ((cellsOf d a).setIfInBounds 20 (.int .i32 1)) 78 (0,0)):=(h2.block g (by simpa using h.lt)).trans k0
   have k1:=heap_setCell_same wq g 22 _ _ vo kq;have k2:=heap_setCell_same _ g 2 _ _ (.slice none 0 0) k1;refine⟨?_,frozen_of_row _ g 19 _ 78 k2,?_,frozen_of_row _ g 20 _ 78 k2⟩
   · rw[cell_of_row _ g 19 _ 78 (0,0) k2];simp[cellsOf]
   · rw[cell_of_row _ g 20 _ 78 (0,0) k2];simp[cellsOf]
  ·
   rintro e w' ⟨rfl,w9,⟨vo,wq,h1,h2,rfl⟩,rfl⟩;obtain⟨cs,vc,vs,k1,nd,pl,idx,k2,k3,k4⟩:=ps_first h l hr h1 h2;refine⟨rfl,cs,vo,vc,vs,k1,hT nd pl idx cs k2 k3 k4,?_⟩;have m0:Mv (·=g) w (w.setCell ⟨g,20,none⟩ (.int .i32 1)):=(Mv.refl (·=g) w).set (a:=⟨g,20,none⟩) (Or.inl rfl) _;have m1:Mv (·=g) w wq:=m0.trans (Mv.below (F:=(·=g)) h2) (fun b hb=>Or.inl hb)
   exact ((((m1.set (a:=⟨g,22,none⟩) (Or.inl rfl) _).set (a:=⟨g,2,none⟩) (Or.inl rfl) _).drew).set (a:=⟨g,19,none⟩) (Or.inl rfl) _).set (a:=⟨g,20,none⟩) (Or.inl rfl) _
 ·
  obtain⟨z,k1,k2⟩:=h.bk;refine (do_done g _ w (by rw[cell_of_row w g 19 _ 78 (0,0) k1];exact k2.z19)).mono ?_
  rintro e w' ⟨rfl,rfl⟩;exact⟨rfl,cs,vo,vc,vs,h,hT,Mv.refl _ _⟩
end Sat
namespace Sat
open Euf (OL App ONE5 wp_push1)
def Cle (B lc:Nat) (zs:List Int) (u:Value) (wr:World):Prop:=OL 1 3 wr u lc (izC zs)∧∀b,u.ownBlock=some b→B≤b
theorem cloneO {v:Value} {zs:List Int} {w:World} (h:OL 1 3 w v zs.length (izC zs)) (hn:zs.length≤1000000) :
  Calls Tryz.prog 47 #[v] w fun e w'=>∃v',e=.returned v'∧Cle w.heap.size zs.length zs v' w'∧Below w.heap.size w w':=by
 obtain⟨q,cap,rfl,h1,h2,h3,h4⟩:=h.shape;refine (cloneI_any q zs.length cap (zs.map (Value.int .i64)) w (by simp) h3 (fun a ha j u hu=>?_) (fun u hu=>?_) (by omega)).mono ?_
 ·
  subst ha;obtain⟨e1,e2⟩:=h4 a rfl;obtain⟨b,off,sp⟩:=a;simp only at e1 e2;subst e1 e2;have hj:j<zs.length:=by
   have:=(List.getElem?_eq_some_iff.1 hu).1;simpa using this
  have h9:=(h.stay (w':=w.alloc (.cells #[] 3 (0,0))) (fun b hb=>Below.heap_alloc w _ b (h.lt hb))).cell hj (show 0<1 by decide)
  rw[Nat.mul_one,Nat.add_zero]at h9;rw[List.getElem?_map,List.getElem?_eq_getElem hj]at hu;have e9:(⟨b,0,none⟩:Addr).add j=⟨b,j,none⟩:=by simp[Addr.add];intro e8;exact e8.symm
  rw[e9,h9];simpa [izC,hj] using hu
 · obtain⟨z,hz,rfl⟩:=List.mem_map.1 hu;rfl
 ·
  rintro e w' ⟨v',he,ho,hf,hb,-⟩;refine⟨v',he,⟨ho.congr (fun i hi=>?_),hf⟩,hb⟩
  simp[izC,hi]
def tsC (ad:Int) (st:List (Int × Int)) (k j:Nat):List Value:=if j<k then [.int .i64 (tld ad (st.getD j (0,0)).1),.int .i64 (st.getD j (0,0)).2] else [.int .i64 0,.int .i64 0]
def tcC (ad:Int) (cs:List Chn) (vc vs:Nat→Value) (k t:Nat):List Value:=if t<k then [vc t,.int .i64 (tld ad (cs.getD t ⟨[],0,[]⟩).first),vs t] else [.slice none 0 0,.int .i64 0,.slice none 0 0]
def TcW (ad:Int) (N BO k:Nat) (cs:List Chn) (vc vs:Nat→Value) (w:World):Prop:=∀(t:Nat) (x:Chn),t<k→cs[t]?=some x→OL 1 3 w (vc t) x.clause.length (izC x.clause)∧OL 2 100 w (vs t) x.steps.length (tsC ad x.steps x.steps.length)∧(∀b,(vc t).ownBlock=some b→N≤b)∧∀b,(vs t).ownBlock=some b→N≤b
structure PoM (ad:Int) (cs:List Chn) (BO i:Nat) (vc vs:Nat→Value) (w4 wr:World):Prop where
  bl:Below w4.heap.size w4 wr
  bo:w4.heap.size≤BO
  oo:OL 3 98 wr (.slice (some ⟨BO,0,none⟩) cs.length cs.length) cs.length (tcC ad cs vc vs i)
  cw:TcW ad w4.heap.size BO i cs vc vs wr
theorem PoM.below {ad:Int} {cs:List Chn} {BO i:Nat} {vc vs:Nat→Value} {w4 wr wr':World} (h:PoM ad cs BO i vc vs w4 wr) (hb:Below wr.heap.size wr wr'):PoM ad cs BO i vc vs w4 wr' :=
  ⟨h.bl.trans (hb.mono h.bl.size),h.bo,h.oo.stay (fun b hb9=>hb.block b (h.oo.lt hb9)),fun t x ht hx=>by
    obtain⟨c1,c2,c3⟩:=h.cw t x ht hx
    exact⟨c1.stay (fun b hb9=>hb.block b (c1.lt hb9)),c2.stay (fun b hb9=>hb.block b (c2.lt hb9)),c3⟩⟩
theorem PoM.put {ad:Int} {cs:List Chn} {BO i:Nat} {vc vs:Nat→Value} {w4 wr:World} (h:PoM ad cs BO i vc vs w4 wr) {x:Chn} (hx:cs[i]?=some x) {u v:Value} (o1:OL 1 3 wr u x.clause.length (izC x.clause)) (o2:OL 2 100 wr v x.steps.length (tsC ad x.steps x.steps.length)) (b1:∀b,u.ownBlock=some b→w4.heap.size≤b) (b2:∀b,v.ownBlock=some b→w4.heap.size≤b) :
  PoM ad cs BO (i+1) (upd vc i u) (upd vs i v) w4 (((wr.setCell ⟨BO,i*3,none⟩ u).setCell ⟨BO,i*3+1,none⟩ (.int .i64 (tld ad x.first))).setCell ⟨BO,i*3+2,none⟩ v):=by
 have hi:=(List.getElem?_eq_some_iff.1 hx).1;have hlen:∀(k:Nat),k<cs.length→(tcC ad cs vc vs i k).length=3:=fun k _=>by unfold tcC;split<;>rfl
 have s1:=h.oo.set (i:=i) (j:=0) hi (by decide) u (f':=fun t=>if t=i then [u,.int .i64 0,.slice none 0 0] else tcC ad cs vc vs i t) hlen (by simp[tcC]) (fun k _ hk=>by simp[hk])
 have s2:=s1.set (i:=i) (j:=1) hi (by decide) (.int .i64 (tld ad x.first)) (f':=fun t=>if t=i then [u,.int .i64 (tld ad x.first),.slice none 0 0] else tcC ad cs vc vs i t) (fun k hk=>by by_cases e:k=i<;>simp[e];exact hlen k hk) (by simp) (fun k _ hk=>by simp[hk])
 have s3:=s2.set (i:=i) (j:=2) hi (by decide) v (f':=tcC ad cs (upd vc i u) (upd vs i v) (i+1)) (fun k hk=>by by_cases e:k=i<;>simp[e];exact hlen k hk) (by simp[tcC,upd_same,hx]) (fun k _ hk=>by
  simp only[if_neg hk];unfold tcC;rw[upd_other _ _ hk,upd_other _ _ hk];by_cases h9:k<i
  · rw[if_pos h9,if_pos (by omega)]
  · rw[if_neg h9,if_neg (by omega)])
 rw[Nat.add_zero]at s3;have oth:∀b,b≠BO→(((wr.setCell ⟨BO,i*3,none⟩ u).setCell ⟨BO,i*3+1,none⟩ (.int .i64 (tld ad x.first))).setCell ⟨BO,i*3+2,none⟩ v).heap[b]?=wr.heap[b]?:=fun b hb=>by
  rw[heap_setCell_other _ ⟨BO,i*3+2,none⟩ b _ hb,heap_setCell_other _ ⟨BO,i*3+1,none⟩ b _ hb,heap_setCell_other _ ⟨BO,i*3,none⟩ b _ hb]
 have tp:∀{sz:Nat} {e:TypeId} {y:Value} {n:Nat} {f:Nat→List Value},OL sz e wr y n f→e≠98→OL sz e (((wr.setCell ⟨BO,i*3,none⟩ u).setCell ⟨BO,i*3+1,none⟩ (.int .i64 (tld ad x.first))).setCell ⟨BO,i*3+2,none⟩ v) y n f:=by
  intro sz e y n f ho he;refine ho.stay (fun b hb=>oth b ?_)
  intro e9;subst e9;exact h.oo.ne ho (fun e9=>he e9.symm) (b:=b) rfl hb
 refine⟨((h.bl.setCell (p:=⟨BO,i*3,none⟩) h.bo _).setCell (p:=⟨BO,i*3+1,none⟩) h.bo _).setCell (p:=⟨BO,i*3+2,none⟩) h.bo _,h.bo,s3,fun t y ht hy=>?_⟩
 by_cases e:t=i
 ·
  subst e;rw[hx]at hy;cases hy
  rw[upd_same,upd_same];exact⟨tp o1 (by decide),tp o2 (by decide),b1,b2⟩
 ·
  obtain⟨c1,c2,c3⟩:=h.cw t y (by omega) hy
  rw[upd_other _ _ e,upd_other _ _ e];exact⟨tp c1 (by decide),tp c2 (by decide),c3⟩
theorem step_put {ad:Int} {st:List (Int × Int)} {BS j:Nat} {wr:World} (h:OL 2 100 wr (.slice (some ⟨BS,0,none⟩) st.length st.length) st.length (tsC ad st j)) {p1 p2:Int} (hp:st[j]?=some (p1,p2)) :
  OL 2 100 ((wr.setCell ⟨BS,j*2,none⟩ (.int .i64 (tld ad p1))).setCell ⟨BS,j*2+1,none⟩ (.int .i64 p2)) (.slice (some ⟨BS,0,none⟩) st.length st.length) st.length (tsC ad st (j+1)):=by
 have hj:=(List.getElem?_eq_some_iff.1 hp).1;have hlen:∀(k:Nat),k<st.length→(tsC ad st j k).length=2:=fun k _=>by unfold tsC;split<;>rfl
 have s1:=h.set (i:=j) (j:=0) hj (by decide) (.int .i64 (tld ad p1)) (f':=fun t=>if t=j then [.int .i64 (tld ad p1),.int .i64 0] else tsC ad st j t) hlen (by simp[tsC]) (fun k _ hk=>by simp[hk])
 have s2:=s1.set (i:=j) (j:=1) hj (by decide) (.int .i64 p2) (f':=tsC ad st (j+1)) (fun k hk=>by by_cases e:k=j<;>simp[e];exact hlen k hk) (by simp[tsC,hp]) (fun k _ hk=>by
  simp only[if_neg hk];unfold tsC;by_cases h9:k<j
  · rw[if_pos h9,if_pos (by omega)]
  · rw[if_neg h9,if_neg (by omega)])
 rw[Nat.add_zero]at s2;exact s2
def PoEnd (g nv ad:Nat) (st:Int) (T:List Chn→Prop) (w:World) (e:Ending) (w':World):Prop :=
  ∃v cs vo vc vs vc' vs',e=.returned v∧PS w' g nv ad st cs vo vc vs∧T cs∧Mv (·=g) w w'∧OL 3 98 w' v cs.length (tcC ad cs vc' vs' cs.length)∧TcW ad w.heap.size 0 cs.length cs vc' vs' w'∧∀b,v.ownBlock=some b→w.heap.size≤b
set_option maxRecDepth 20000 in
set_option maxHeartbeats 16000000 in
theorem proof_any (g nv ad:Nat) (st:Int) (T:List Chn→Prop) (w:World) (h:Rdy w g nv ad st T) (had:ad≤1000000) :
  Calls Tryz.prog 29 #[.pointer (some ⟨g,0,none⟩)] w fun e w'=>PoEnd g nv ad st T w e w':=by
 obtain⟨w2,hw2⟩:∃w2,w.alloc (.cells #[.pointer (some ⟨g,0,none⟩)] 27 (0,0))=w2:=⟨_,rfl⟩;obtain⟨pb,hpb⟩:∃pb,w.heap.size=pb:=⟨_,rfl⟩;have bl2:Below w.heap.size w w2:=by rw[← hw2];exact (Below.refl _ _).alloc (Nat.le_refl _) _
 have kb2:w2.heap[pb]?=some (.cells #[.pointer (some ⟨g,0,none⟩)] 27 (0,0)):=by rw[← hw2,← hpb];exact heap_alloc_new w _
 have hgl:=h.lt;have lg2:g<w2.heap.size:=Nat.lt_of_lt_of_le hgl bl2.size;have lp2:pb<w2.heap.size:=(Array.getElem?_eq_some_iff.1 kb2).1;have cp2:w2.cell? ⟨pb,0,none⟩=some (.pointer (some ⟨g,0,none⟩)):=cell_of_row w2 pb 0 _ 27 (0,0) kb2;have cr2:w2.cell? ⟨g,5,none⟩=some (.bool true):=(h.below bl2).refuted;have HDO:=hide (do_any g nv ad pb st T w2 (h.below bl2) cp2 lp2 (by omega))
 have HB2:=hide (And.intro bl2 kb2);have hadI:(ad:Int)≤1000000:=by omega
 have hmf:∀(fn:Fn) (first cap:Array Value) (w:World),(Instr.makeFunc fn first cap).run Tryz.prog w=.ok (.func fn first cap) w:=fun _ _ _ _=>rfl
 have HPB:=hide hpb;have HL2:=hide lp2;have hgp:g<pb:=by omega
 clear h bl2 kb2;go_enter Tryz.func29,Tryz.ntmps29;go_wp2_with (first|(go_at_call 52;refine HDO.out.mono ?_;rintro e w4 ⟨rfl,cs,vo,vc,vs,ps,hT,mv⟩;obtain⟨qo,co,hvo,-⟩:=ps.oo.shape;subst hvo;have c22:w4.cell? ⟨g,22,none⟩=some (.slice qo cs.length co):=(by obtain⟨z,kz1,kz2⟩:=ps.bk;exact (cell_of_row w4 g 22 _ 78 (0,0) kz1).trans kz2.z22);have c1:w4.cell? ⟨g,1,none⟩=some (.int .i64 (ad:Nat)):=(by obtain⟨z,kz1,kz2⟩:=ps.bk;exact (cell_of_row w4 g 1 _ 78 (0,0) kz1).trans kz2.z1);have kb4:w4.heap[pb]?=some (.cells #[.pointer (some ⟨g,0,none⟩)] 27 (0,0)):=(mv.other pb lp2 (by omega)).trans HB2.out.2;have cp4:w4.cell? ⟨pb,0,none⟩=some (.pointer (some ⟨g,0,none⟩)):=cell_of_row w4 pb 0 _ 27 (0,0) kb4;have lg4:g<w4.heap.size:=ps.lt;have lp4:pb<w4.heap.size:=(Array.getElem?_eq_some_iff.1 kb4).1;have HP4:=hide (And.intro ps (And.intro hT (And.intro mv c1)));obtain⟨nl,hnl⟩:∃nl,cs.length=nl:=⟨_,rfl⟩;have hnlI:(nl:Int)≤100000000:=(by have:=ps.bd.1;omega);rw[hnl]at c22;have HNL:=hide hnl;clear ps hT mv kb4 hnl HDO cp2 lp2 cr2 lg2 c1)|(at_make;refine wpList_make_ol _ rfl _ _ 51 rfl 98 (.agg #[.slice none 0 0,.int .i64 0,.slice none 0 0]) 3 56 uCh iCh rfl _ _ _ _ nl nl rfl rfl rfl rfl (Nat.le_refl _) (by decide) (by omega) ?_;intro w5 hr5 hb5 hz5;have cp5:w5.cell? ⟨pb,0,none⟩=some (.pointer (some ⟨g,0,none⟩)):=(World.cell?_of_block (a:=⟨pb,0,none⟩) (hb5.block pb lp4)).trans cp4;have k22:w5.cell? ⟨g,22,none⟩=some (.slice qo nl co):=(World.cell?_of_block (a:=⟨g,22,none⟩) (hb5.block g lg4)).trans c22;have lg5:g<w5.heap.size:=Nat.lt_of_lt_of_le lg4 hb5.size;have lp5:pb<w5.heap.size:=Nat.lt_of_lt_of_le lp4 hb5.size;have H5:=hide (And.intro hr5 hb5);clear hr5 hb5 hz5))
 obtain⟨BO,hBO⟩:∃BO,w4.heap.size=BO:=⟨_,rfl⟩;have HS:Hid (PoM ad cs BO 0 (fun _=>.slice none 0 0) (fun _=>.slice none 0 0) w4 w5):=by
  refine⟨H5.out.2,by omega,?_,fun t x ht=>absurd ht (Nat.not_lt_zero _)⟩
  rw[HNL.out,← hBO];exact H5.out.1.congr (fun i hi=>by simp[tcC,Value.cells])
 rw[hBO];clear cp5 k22 lg5 lp5 H5 c22 cp4;go_loopw [30] (fun v30 wr=>∃(i:Nat) (vc' vs':Nat→Value),v30=.int .i64 (i:Nat)∧i≤nl∧Hid (PoM ad cs BO i vc' vs' w4 wr)) (fun v _=>nl - (intOf v).toNat)
 case atStart=>exact⟨0,_,_,rfl,Nat.zero_le _,HS.out⟩
 case round =>
  rename World=>wl
  clear HS;obtain⟨i,vc',vs',rfl,hi,HJ⟩:=hrel;have p4:=HP4.out.1.below (HJ.out.bl);by_cases hlt:i<nl
  ·
   have hltI:(i:Int)<(nl:Int):=by omega
   have hil:i<cs.length:=by rw[HNL.out];exact hlt
   obtain⟨x,hx⟩:∃x,cs[i]?=some x:=⟨_,List.getElem?_eq_getElem hil⟩;have ho:=p4.oo;rw[HNL.out]at ho;obtain⟨bo,co',hbo,-⟩:=ho.open i hlt;cases hbo
   have lbo:bo<wl.heap.size:=ho.lt rfl;obtain⟨o1,o2⟩:=p4.cw i x hx;obtain⟨qc,cc,hvc,-⟩:=o1.shape;obtain⟨qs,cs9,hvs,-⟩:=o2.shape;obtain⟨fs,hfs⟩:∃fs,x.first=fs:=⟨_,rfl⟩
   obtain⟨lc,hlc⟩:∃lc,x.clause.length=lc:=⟨_,rfl⟩;obtain⟨ns,hns⟩:∃ns,x.steps.length=ns:=⟨_,rfl⟩;have q0:wl.cell? ⟨bo,i*3,none⟩=some (.slice qc lc cc):=by
    have h9:=ho.cell hlt (show 0<3 by decide)
    rw[Nat.add_zero]at h9;rw[h9,← hlc,← hvc];simp[chC]
   have q1:wl.cell? ⟨bo,i*3+1,none⟩=some (.int .i64 fs):=by
    have h9:=ho.cell hlt (show 1<3 by decide)
    rw[h9,← hfs];simp[chC,hx]
   have q2:wl.cell? ⟨bo,i*3+2,none⟩=some (.slice qs ns cs9):=by
    have h9:=ho.cell hlt (show 2<3 by decide)
    rw[h9,← hns,← hvs];simp[chC]
   have bd:=p4.bd.2 x (List.mem_of_getElem? hx);have hnsI:(ns:Int)≤1000000:=by have:=bd.ls;omega
   obtain⟨w7,hw7⟩:∃w7,wl.alloc (.cells #[.slice qc lc cc,.int .i64 fs,.slice qs ns cs9] 98 (0,0))=w7:=⟨_,rfl⟩;obtain⟨CB,hCB⟩:∃CB,wl.heap.size=CB:=⟨_,rfl⟩;have bl7:Below wl.heap.size wl w7:=by rw[← hw7];exact (Below.refl _ _).alloc (Nat.le_refl _) _
   have kb7:w7.heap[CB]?=some (.cells #[.slice qc lc cc,.int .i64 fs,.slice qs ns cs9] 98 (0,0)):=by rw[← hw7,← hCB];exact heap_alloc_new wl _
   have lC7:CB<w7.heap.size:=(Array.getElem?_eq_some_iff.1 kb7).1;have c72:w7.cell? ⟨CB,2,none⟩=some (.slice qs ns cs9):=cell_of_row w7 CB 2 _ 98 (0,0) kb7;have J7:=hide (HJ.out.below bl7);have HX:=hide (And.intro hx (And.intro hfs (And.intro hlc (And.intro hns bd))));have HO:=hide (And.intro (o1.stay (fun b hb9=>bl7.block b (o1.lt hb9))) (And.intro hvc (And.intro (o2.stay (fun b hb9=>bl7.block b (o2.lt hb9))) hvs)))
   have HK7:=hide kb7;have b47:Below w4.heap.size w4 w7:=J7.out.bl;have lg7:g<w7.heap.size:=Nat.lt_of_lt_of_le lg4 b47.size;have lp7:pb<w7.heap.size:=Nat.lt_of_lt_of_le lp4 b47.size;have cp7:w7.cell? ⟨pb,0,none⟩=some (.pointer (some ⟨g,0,none⟩)):=cell_of_row w7 pb 0 _ 27 (0,0) (((b47.block pb lp4).trans (HP4.out.2.2.1.other pb HL2.out (by omega))).trans HB2.out.2)
   have c17:w7.cell? ⟨g,1,none⟩=some (.int .i64 (ad:Nat)):=(World.cell?_of_block (a:=⟨g,1,none⟩) (b47.block g lg4)).trans HP4.out.2.2.2;have HTDg:Hid (∀(k:Int) (wr:World),Below w7.heap.size w7 wr→-1000000000≤k→k≤1000000000→Calls Tryz.prog 55 #[.pointer (some ⟨g,0,none⟩),.int .i64 k] wr fun e w'=>e=.returned (.int .i64 (tld ad k))∧w'=wr):=fun k wr hb k1 k2=>told_any g ad k wr ((World.cell?_of_block (a:=⟨g,1,none⟩) (hb.block g lg7)).trans c17) (Nat.lt_of_lt_of_le lg7 hb.size) (by omega) (by omega) k1 k2
   have HB7:=hide b47;clear ho o1 o2 hvc hvs hfs hlc hns bd p4 bl7 kb7 hx HJ b47 c17;go_wp2_with (at_make;refine wpList_make_ol _ rfl _ _ 96 rfl 100 (.agg #[.int .i64 0,.int .i64 0]) 2 16 uLk iLk rfl _ _ _ _ ns ns rfl rfl rfl rfl (Nat.le_refl _) (by decide) (by omega) ?_;intro w8 hr8 hb8 hz8;have d82:w8.cell? ⟨CB,2,none⟩=some (.slice qs ns cs9):=(World.cell?_of_block (a:=⟨CB,2,none⟩) (hb8.block CB lC7)).trans c72;have lC8:CB<w8.heap.size:=Nat.lt_of_lt_of_le lC7 hb8.size;have H8:=hide (And.intro hr8 hb8);clear hr8 hb8 hz8)
   obtain⟨BS,hBS⟩:∃BS,w7.heap.size=BS:=⟨_,rfl⟩;have HI0:Hid (Below w7.heap.size w7 w8∧OL 2 100 w8 (.slice (some ⟨BS,0,none⟩) ns ns) ns (tsC ad x.steps 0)):=by
    refine⟨H8.out.2,?_⟩;rw[← hBS];exact H8.out.1.congr (fun i hi=>by simp[tsC,Value.cells])
   rw[hBS];clear q0 q1 q2 lbo c72 d82 lC8 H8;go_loopw [42] (fun v42 wr=>∃k:Nat,v42=.int .i64 (k:Nat)∧k≤ns∧Hid (Below w7.heap.size w7 wr∧OL 2 100 wr (.slice (some ⟨BS,0,none⟩) ns ns) ns (tsC ad x.steps k))) (fun v _=>ns - (intOf v).toNat)
   case atStart=>exact⟨0,rfl,Nat.zero_le _,HI0.out⟩
   case round =>
    rename World=>wk
    clear HI0;obtain⟨j,rfl,hj,HI⟩:=hrel;by_cases hlt2:j<ns
    ·
     have hltI2:(j:Int)<(ns:Int):=by omega
     have hjl:j<x.steps.length:=by rw[HX.out.2.2.2.1];exact hlt2
     obtain⟨⟨p1,p2⟩,hp⟩:∃p,x.steps[j]?=some p:=⟨_,List.getElem?_eq_getElem hjl⟩;have olk:OL 2 100 wk (.slice qs ns cs9) ns (skC x.steps):=by
      have h9:=HO.out.2.2.1.stay (fun b hb9=>HI.out.1.block b (HO.out.2.2.1.lt hb9))
      rw[HO.out.2.2.2,HX.out.2.2.2.1]at h9;exact h9
     obtain⟨bk,ck',hbk,-⟩:=olk.open j hlt2;cases hbk
     have hlb:bk<wk.heap.size:=olk.lt rfl;have l0:wk.cell? ⟨bk,j*2,none⟩=some (.int .i64 p1):=by
      have h9:=olk.cell hlt2 (show 0<2 by decide)
      rw[Nat.add_zero]at h9;rw[h9];simp[skC,hp]
     have l1:wk.cell? ⟨bk,j*2+1,none⟩=some (.int .i64 p2):=by
      have h9:=olk.cell hlt2 (show 1<2 by decide)
      rw[h9];simp[skC,hp]
     obtain⟨b1,b2⟩:=HX.out.2.2.2.2.st (p1,p2) (List.mem_of_getElem? hp);obtain⟨LB,hLB⟩:∃LB,wk.heap.size=LB:=⟨_,rfl⟩;obtain⟨w8,hw8⟩:∃w8,wk.alloc (.cells #[.int .i64 p1,.int .i64 p2] 100 (0,0))=w8:=⟨_,rfl⟩;have bl8:Below wk.heap.size wk w8:=by rw[← hw8];exact (Below.refl _ _).alloc (Nat.le_refl _) _
     have kb8:w8.heap[LB]?=some (.cells #[.int .i64 p1,.int .i64 p2] 100 (0,0)):=by rw[← hw8,← hLB];exact heap_alloc_new wk _
     have b78:Below w7.heap.size w7 w8:=HI.out.1.trans (bl8.mono HI.out.1.size);have os8:OL 2 100 w8 (.slice (some ⟨BS,0,none⟩) ns ns) ns (tsC ad x.steps j):=HI.out.2.stay (fun b hb9=>bl8.block b (HI.out.2.lt hb9))
     have lL8:LB<w8.heap.size:=(Array.getElem?_eq_some_iff.1 kb8).1;have lp8:pb<w8.heap.size:=Nat.lt_of_lt_of_le lp7 b78.size;have cp8:w8.cell? ⟨pb,0,none⟩=some (.pointer (some ⟨g,0,none⟩)):=(World.cell?_of_block (a:=⟨pb,0,none⟩) (b78.block pb lp7)).trans cp7;have HM8:Hid (∀wr,Below w8.heap.size w8 wr→wr.cell? ⟨pb,0,none⟩=some (.pointer (some ⟨g,0,none⟩))∧wr.cell? ⟨LB,0,none⟩=some (.int .i64 p1)∧wr.cell? ⟨LB,1,none⟩=some (.int .i64 p2)∧pb<wr.heap.size∧LB<wr.heap.size):=fun wr hb=>by
      have k2:=(hb.block LB lL8).trans kb8;exact⟨(World.cell?_of_block (a:=⟨pb,0,none⟩) (hb.block pb lp8)).trans cp8,cell_of_row wr LB 0 _ 100 (0,0) k2,cell_of_row wr LB 1 _ 100 (0,0) k2,Nat.lt_of_lt_of_le lp8 hb.size,Nat.lt_of_lt_of_le lL8 hb.size⟩
     obtain⟨tv,htv⟩:∃tv,tld ad p1=tv:=⟨_,rfl⟩;have HTD:Hid (∀wr,Below w8.heap.size w8 wr→Calls Tryz.prog 55 #[.pointer (some ⟨g,0,none⟩),.int .i64 p1] wr fun e w'=>e=.returned (.int .i64 tv)∧w'=wr):=fun wr hb=>by
      rw[← htv];exact HTDg.out p1 wr (b78.trans (hb.mono b78.size)) b1 b2
     obtain⟨E5,hE5⟩:∃E5:World→Prop,E5=fun wr=>Below w7.heap.size w7 wr∧OL 2 100 wr (.slice (some ⟨BS,0,none⟩) ns ns) ns (tsC ad x.steps (j+1)):=⟨_,rfl⟩
     have HST:Hid (∀wr,Below w8.heap.size w8 wr→E5 ((wr.setCell ⟨BS,j*2,none⟩ (.int .i64 tv)).setCell ⟨BS,j*2+1,none⟩ (.int .i64 p2))):=fun wr hb=>by
      rw[hE5,← htv];have o9:=os8.stay (fun b hb9=>hb.block b (os8.lt hb9))
      rw[← HX.out.2.2.2.1]at o9 ⊢;exact⟨((b78.trans (hb.mono b78.size)).setCell (p:=⟨BS,j*2,none⟩) (by show w7.heap.size≤BS;omega) _).setCell (p:=⟨BS,j*2+1,none⟩) (by show w7.heap.size≤BS;omega) _,step_put o9 hp⟩
     have HFZ:Hid (∀wr,Below w8.heap.size w8 wr→wr.cell? ⟨BS,j*2,none⟩=some (.int .i64 0)∧wr.cell? ⟨BS,j*2+1,none⟩=some (.int .i64 0)∧wr.frozen? ⟨BS,j*2,none⟩=false∧wr.frozen? ⟨BS,j*2+1,none⟩=false∧BS<wr.heap.size):=fun wr hb=>by
      have o9:=os8.stay (fun b hb9=>hb.block b (os8.lt hb9))
      have e0:=o9.cell hlt2 (show 0<2 by decide)
      have e1:=o9.cell hlt2 (show 1<2 by decide)
      rw[Nat.add_zero]at e0;exact⟨by rw[e0];simp[tsC],by rw[e1];simp[tsC],o9.frozen _,o9.frozen _,o9.lt rfl⟩
     clear olk hp b1 b2 bl8 kb8 b78 os8 htv HI;go_wp2_with fail
     refine wp_region_E (by kernel_rfl) [some 47,some 48,some 49,some 50,some 51,some 52,some 53,some 54,some 55,some 56,none] [none,none,none,none,none,none,none,none,none,none,none,none,none,none,none,none,none,none,none,none,none,none,none,none,none,none,none,none,none,none,none,none,none,none,none,none,none,none,none,none,none,none,none,none,none,none,none,some 47,some 48,some 49,some 50,some 51,some 52,some 53,some 54,some 55,some 56] (fun U=>by kernel_rfl) [fun u=>u=(.slice (some ⟨BS,0,none⟩) ns ns),fun u=>u=(.int .i64 (j:Nat)),fun u=>u=(.pointer (some ⟨g,0,none⟩)),fun u=>u=(.pointer (some ⟨LB,0,none⟩)),fun u=>u=(.int .i64 p1),fun u=>u=(.int .i64 tv),fun u=>u=(.pointer (some ⟨LB,1,none⟩)),fun u=>u=(.int .i64 p2),fun u=>u=(.agg #[.int .i64 tv,.int .i64 p2]),fun u=>u=(.pointer (some ⟨BS,j*2,none⟩)),fun _=>True] (fun L U wr=>(L 10=false→Below w8.heap.size w8 wr)∧(L 10=true→(L 0=true∧L 1=true∧L 2=true∧L 3=true∧L 4=true∧L 5=true∧L 6=true∧L 7=true∧L 8=true∧L 9=true)∧E5 wr)) (by kernel_rfl) (by decide) (by kernel_rfl) (by kernel_rfl) ?_ ?_ ?_
     · exact fun U=>⟨fun _=>(Below.refl _ _).drew,(fun h=>by cases h)⟩
     ·
      refine StepsE.run rfl ?_ ?_
      ·
       intro L U wr hC hP hlk hcl haf A K hFm hK;simp[Aft,Region.binds]at haf;have e6:A.tmps[6]?=some (.slice (some ⟨BS,0,none⟩) ns ns):=(hFm.old 6 (by decide)).trans (by kernel_rfl)
       have HC:Hid _:=hC;clear hC;refine⟨?_⟩;go_simp;refine hK _ _ rfl ?_;obtain⟨c0,cS⟩:=HC.out;refine⟨fun h=>c0 (by simpa using h),fun h=>?_⟩
       have h9:=cS (by simpa using h)
       exact⟨by simp[h9.1],h9.2⟩
      refine StepsE.run rfl ?_ ?_
      ·
       intro L U wr hC hP hlk hcl haf A K hFm hK;simp[Aft,Region.binds]at haf;have e7:A.tmps[7]?=some (.int .i64 (j:Nat)):=(hFm.old 7 (by decide)).trans (by kernel_rfl)
       have HC:Hid _:=hC;clear hC;refine⟨?_⟩;go_simp;refine hK _ _ rfl ?_;obtain⟨c0,cS⟩:=HC.out;refine⟨fun h=>c0 (by simpa using h),fun h=>?_⟩
       have h9:=cS (by simpa using h)
       exact⟨by simp[h9.1],h9.2⟩
      refine StepsE.run rfl ?_ ?_
      ·
       intro L U wr hC hP hlk hcl haf A K hFm hK;simp[Aft,Region.binds]at haf;have e1:A.tmps[1]?=some (.pointer (some ⟨pb,0,none⟩)):=(hFm.old 1 (by decide)).trans (by kernel_rfl)
       have hb8:Below w8.heap.size w8 wr:=hC.1 (by cases h:L 10 with|false=>rfl|true=>exact absurd (hC.2 h).1 (by simp[hlk]))
       obtain⟨m0,m1,m2,m3,m4⟩:=HM8.out wr hb8;clear hb8;have HC:Hid _:=hC;clear hC;refine⟨?_⟩;go_simp;refine hK _ _ rfl ?_;obtain⟨c0,cS⟩:=HC.out;refine⟨fun h=>c0 (by simpa using h),fun h=>?_⟩
       have h9:=cS (by simpa using h)
       exact⟨by simp[h9.1],h9.2⟩
      refine StepsE.run rfl ?_ ?_
      ·
       intro L U wr hC hP hlk hcl haf A K hFm hK;simp[Aft,Region.binds]at haf;have e8:A.tmps[8]?=some (.pointer (some ⟨LB,0,none⟩)):=(hFm.old 8 (by decide)).trans (by kernel_rfl)
       have HC:Hid _:=hC;clear hC;refine⟨?_⟩;go_simp;refine hK _ _ rfl ?_;obtain⟨c0,cS⟩:=HC.out;refine⟨fun h=>c0 (by simpa using h),fun h=>?_⟩
       have h9:=cS (by simpa using h)
       exact⟨by simp[h9.1],h9.2⟩
      refine StepsE.run rfl ?_ ?_
      ·
       intro L U wr hC hP hlk hcl haf A K hFm hK;simp[Aft,Region.binds]at haf;have g3:U 50=(.pointer (some ⟨LB,0,none⟩)):=hP 3 50 (by simp[haf]) rfl
       have e50:A.tmps[50]?=some (.pointer (some ⟨LB,0,none⟩)):=hFm.is 3 50 rfl g3;have hb8:Below w8.heap.size w8 wr:=hC.1 (by cases h:L 10 with|false=>rfl|true=>exact absurd (hC.2 h).1 (by simp[hlk]))
       obtain⟨m0,m1,m2,m3,m4⟩:=HM8.out wr hb8;clear hb8;have HC:Hid _:=hC;clear hC;refine⟨?_⟩;go_simp;refine hK _ _ rfl ?_;obtain⟨c0,cS⟩:=HC.out;refine⟨fun h=>c0 (by simpa using h),fun h=>?_⟩
       have h9:=cS (by simpa using h)
       exact⟨by simp[h9.1],h9.2⟩
      refine StepsE.run rfl ?_ ?_
      ·
       intro L U wr hC hP hlk hcl haf A K hFm hK;simp[Aft,Region.binds]at haf;have g2:U 49=(.pointer (some ⟨g,0,none⟩)):=hP 2 49 (by simp[haf]) rfl
       have e49:A.tmps[49]?=some (.pointer (some ⟨g,0,none⟩)):=hFm.is 2 49 rfl g2;have g4:U 51=(.int .i64 p1):=hP 4 51 (by simp[haf]) rfl
       have e51:A.tmps[51]?=some (.int .i64 p1):=hFm.is 4 51 rfl g4;refine⟨?_⟩;have hb8:Below w8.heap.size w8 wr:=hC.1 (by cases h:L 10 with|false=>rfl|true=>exact absurd (hC.2 h).1 (by simp[hlk]))
       have HC:Hid _:=hC;clear hC;go_simp;refine (HTD.out wr hb8).mono ?_;rintro e w9 ⟨rfl,rfl⟩;go_simp;refine hK _ _ rfl ⟨fun h=>HC.out.1 (by simpa using h),fun h=>?_⟩
       exact absurd (HC.out.2 (by simpa using h)).1 (by simp[hlk])
      refine StepsE.run rfl ?_ ?_
      ·
       intro L U wr hC hP hlk hcl haf A K hFm hK;simp[Aft,Region.binds]at haf;have e8:A.tmps[8]?=some (.pointer (some ⟨LB,0,none⟩)):=(hFm.old 8 (by decide)).trans (by kernel_rfl)
       have HC:Hid _:=hC;clear hC;refine⟨?_⟩;go_simp;refine hK _ _ rfl ?_;obtain⟨c0,cS⟩:=HC.out;refine⟨fun h=>c0 (by simpa using h),fun h=>?_⟩
       have h9:=cS (by simpa using h)
       exact⟨by simp[h9.1],h9.2⟩
      refine StepsE.run rfl ?_ ?_
      ·
       intro L U wr hC hP hlk hcl haf A K hFm hK;simp[Aft,Region.binds]at haf;have g6:U 53=(.pointer (some ⟨LB,1,none⟩)):=hP 6 53 (by simp[haf]) rfl
       have e53:A.tmps[53]?=some (.pointer (some ⟨LB,1,none⟩)):=hFm.is 6 53 rfl g6;have hb8:Below w8.heap.size w8 wr:=hC.1 (by cases h:L 10 with|false=>rfl|true=>exact absurd (hC.2 h).1 (by simp[hlk]))
       obtain⟨m0,m1,m2,m3,m4⟩:=HM8.out wr hb8;clear hb8;have HC:Hid _:=hC;clear hC;refine⟨?_⟩;go_simp;refine hK _ _ rfl ?_;obtain⟨c0,cS⟩:=HC.out;refine⟨fun h=>c0 (by simpa using h),fun h=>?_⟩
       have h9:=cS (by simpa using h)
       exact⟨by simp[h9.1],h9.2⟩
      refine StepsE.run rfl ?_ ?_
      ·
       intro L U wr hC hP hlk hcl haf A K hFm hK;simp[Aft,Region.binds]at haf;have g5:U 52=(.int .i64 tv):=hP 5 52 (by simp[haf]) rfl
       have e52:A.tmps[52]?=some (.int .i64 tv):=hFm.is 5 52 rfl g5;have g7:U 54=(.int .i64 p2):=hP 7 54 (by simp[haf]) rfl
       have e54:A.tmps[54]?=some (.int .i64 p2):=hFm.is 7 54 rfl g7;have HC:Hid _:=hC;clear hC;refine⟨?_⟩;go_simp;refine hK _ _ rfl ?_;obtain⟨c0,cS⟩:=HC.out;refine⟨fun h=>c0 (by simpa using h),fun h=>?_⟩
       have h9:=cS (by simpa using h)
       exact⟨by simp[h9.1],h9.2⟩
      refine StepsE.run rfl ?_ ?_
      ·
       intro L U wr hC hP hlk hcl haf A K hFm hK;simp[Aft,Region.binds]at haf;have g0:U 47=(.slice (some ⟨BS,0,none⟩) ns ns):=hP 0 47 (by simp[haf]) rfl
       have e47:A.tmps[47]?=some (.slice (some ⟨BS,0,none⟩) ns ns):=hFm.is 0 47 rfl g0;have g1:U 48=(.int .i64 (j:Nat)):=hP 1 48 (by simp[haf]) rfl
       have e48:A.tmps[48]?=some (.int .i64 (j:Nat)):=hFm.is 1 48 rfl g1;have HC:Hid _:=hC;clear hC;refine⟨?_⟩;go_simp;refine hK _ _ rfl ?_;obtain⟨c0,cS⟩:=HC.out;refine⟨fun h=>c0 (by simpa using h),fun h=>?_⟩
       have h9:=cS (by simpa using h)
       exact⟨by simp[h9.1],h9.2⟩
      refine StepsE.run rfl ?_ StepsE.nil
      ·
       intro L U wr hC hP hlk hcl haf A K hFm hK;simp[Aft,Region.binds]at haf;have g9:U 56=(.pointer (some ⟨BS,j*2,none⟩)):=hP 9 56 (by simp[haf]) rfl
       have e56:A.tmps[56]?=some (.pointer (some ⟨BS,j*2,none⟩)):=hFm.is 9 56 rfl g9;have g8:U 55=(.agg #[.int .i64 tv,.int .i64 p2]):=hP 8 55 (by simp[haf]) rfl
       have e55:A.tmps[55]?=some (.agg #[.int .i64 tv,.int .i64 p2]):=hFm.is 8 55 rfl g8;have l9:L 9=true:=by simp[haf]
       have l8:L 8=true:=by simp[haf]
       have a9:=hcl 9 _ rfl l9;simp[Aft,Region.binds]at a9;have l0:L 0=true:=by simp[a9]
       have l1:L 1=true:=by simp[a9]
       have a8:=hcl 8 _ rfl l8;simp[Aft,Region.binds]at a8;have l5:L 5=true:=by simp[a8]
       have l7:L 7=true:=by simp[a8]
       have a5:=hcl 5 _ rfl l5;simp[Aft,Region.binds]at a5;have l2:L 2=true:=by simp[a5]
       have l4:L 4=true:=by simp[a5]
       have a7:=hcl 7 _ rfl l7;simp[Aft,Region.binds]at a7;have l6:L 6=true:=by simp[a7]
       have a4:=hcl 4 _ rfl l4;simp[Aft,Region.binds]at a4;have l3:L 3=true:=by simp[a4]
       refine⟨?_⟩;have hb8:=hC.1 hlk;have HK9:Hid _:=HST.out wr hb8;obtain⟨k0,k1,k2,k3,k4⟩:=HFZ.out wr hb8;clear hb8 hC;go_simp;refine hK (.tuple #[]) _ trivial ⟨fun h=>?_,fun _=>⟨?_,HK9.out⟩⟩
       · simp at h
       · simp[l0,l1,l2,l3,l4,l5,l6,l7,l8,l9]
     ·
      intro L9 U9 w3 hL9 hC9 hP9;have hE:=(hC9.2 (hL9 10 (by decide))).2
      rw[hE5]at hE;have HE3:=hide hE;clear hE hL9 hC9 hP9 HM8 HTD HST HFZ hE5;simp only[setM];go_wp2;go_roundw
      case rel=>exact⟨j+1,by go_num,by omega,HE3.out⟩
      case measure=>simp[intOf]<;>omega
    ·
     have hltI2:¬ ((j:Int)<(ns:Int)):=by omega
     obtain rfl:j=ns:=by omega
     obtain⟨w9,hw9⟩:∃w9,wk=w9:=⟨_,rfl⟩;subst hw9;have b79:=HI.out.1;have k9:wk.heap[CB]?=some (.cells #[.slice qc lc cc,.int .i64 fs,.slice qs j cs9] 98 (0,0)):=(b79.block CB lC7).trans HK7.out;have lC9:CB<wk.heap.size:=Nat.lt_of_lt_of_le lC7 b79.size;have lp9:pb<wk.heap.size:=Nat.lt_of_lt_of_le lp7 b79.size;have cp9:wk.cell? ⟨pb,0,none⟩=some (.pointer (some ⟨g,0,none⟩)):=(World.cell?_of_block (a:=⟨pb,0,none⟩) (b79.block pb lp7)).trans cp7;have HM9:Hid (∀wr,Below wk.heap.size wk wr→wr.cell? ⟨CB,0,none⟩=some (.slice qc lc cc)∧wr.cell? ⟨CB,1,none⟩=some (.int .i64 fs)∧wr.cell? ⟨pb,0,none⟩=some (.pointer (some ⟨g,0,none⟩))∧CB<wr.heap.size∧pb<wr.heap.size):=fun wr hb=>by
      have k2:=(hb.block CB lC9).trans k9;exact⟨cell_of_row wr CB 0 _ 98 (0,0) k2,cell_of_row wr CB 1 _ 98 (0,0) k2,(World.cell?_of_block (a:=⟨pb,0,none⟩) (hb.block pb lp9)).trans cp9,Nat.lt_of_lt_of_le lC9 hb.size,Nat.lt_of_lt_of_le lp9 hb.size⟩
     obtain⟨tf,htf⟩:∃tf,tld ad fs=tf:=⟨_,rfl⟩;have HTD:Hid (∀wr,Below wk.heap.size wk wr→Calls Tryz.prog 55 #[.pointer (some ⟨g,0,none⟩),.int .i64 fs] wr fun e w'=>e=.returned (.int .i64 tf)∧w'=wr):=fun wr hb=>by
      have h9:=HX.out.2.2.2.2.fs;rw[HX.out.2.1]at h9;rw[← htf];exact HTDg.out fs wr (b79.trans (hb.mono b79.size)) h9.1 h9.2
     obtain⟨zs,hzs⟩:∃zs,x.clause=zs:=⟨_,rfl⟩;have HCL:Hid (∀wr,Below wk.heap.size wk wr→Calls Tryz.prog 47 #[.slice qc lc cc] wr fun e w'=>∃v,e=.returned v∧Cle wk.heap.size lc zs v w'∧Below wr.heap.size wr w'):=fun wr hb=>by
      have o9:=HO.out.1.stay (fun b hb9=>(b79.trans (hb.mono b79.size)).block b (HO.out.1.lt hb9))
      have e9:=HO.out.2.1;rw[HX.out.2.2.1]at e9;rw[e9,hzs]at o9;have e8:=HX.out.2.2.1;rw[hzs]at e8;refine (cloneO o9 (by rw[← hzs];exact HX.out.2.2.2.2.lc)).mono ?_
      rintro e w' ⟨v',he,hc,hb9⟩;rw[e8]at hc;exact⟨v',he,⟨hc.1,fun b hb8=>Nat.le_trans hb.size (hc.2 b hb8)⟩,hb9⟩
     have P9:=J7.out;have op7:=P9.oo;have lBO:BO<w7.heap.size:=op7.lt rfl;obtain⟨E5,hE5⟩:∃E5:World→Prop,E5=fun wr=>∃vc'' vs'',PoM ad cs BO (i+1) vc'' vs'' w4 wr:=⟨_,rfl⟩
     have HST:Hid (∀(wr:World) (u:Value),Below wk.heap.size wk wr→Cle wk.heap.size lc zs u wr→E5 (((wr.setCell ⟨BO,i*3,none⟩ u).setCell ⟨BO,i*3+1,none⟩ (.int .i64 tf)).setCell ⟨BO,i*3+2,none⟩ (.slice (some ⟨BS,0,none⟩) j j))):=fun wr u hb hc=>by
      rw[hE5,← htf,← HX.out.2.1];have b7r:=b79.trans (hb.mono b79.size);have h47:=HB7.out.size;refine⟨_,_,(P9.below b7r).put HX.out.1 (u:=u) (v:=.slice (some ⟨BS,0,none⟩) j j) (by rw[HX.out.2.2.1,hzs];exact hc.1) (by rw[HX.out.2.2.2.1];exact HI.out.2.stay (fun b hb9=>hb.block b (HI.out.2.lt hb9))) (fun b hb9=>?_) (fun b hb9=>?_)⟩
      · have h1:=hc.2 b hb9;have h2:=b79.size;omega
      ·
       cases hb9
       show w4.heap.size≤BS
       omega
     have HFZ:Hid (∀wr,Below wk.heap.size wk wr→wr.cell? ⟨BO,i*3,none⟩=some (.slice none 0 0)∧wr.cell? ⟨BO,i*3+1,none⟩=some (.int .i64 0)∧wr.cell? ⟨BO,i*3+2,none⟩=some (.slice none 0 0)∧wr.frozen? ⟨BO,i*3,none⟩=false∧wr.frozen? ⟨BO,i*3+1,none⟩=false∧wr.frozen? ⟨BO,i*3+2,none⟩=false∧BO<wr.heap.size):=fun wr hb=>by
      have o9:=(P9.below (b79.trans (hb.mono b79.size))).oo;have e0:=o9.cell hil (show 0<3 by decide)
      have e1:=o9.cell hil (show 1<3 by decide)
      have e2:=o9.cell hil (show 2<3 by decide)
      rw[Nat.add_zero]at e0;exact⟨by rw[e0];simp[tcC],by rw[e1];simp[tcC],by rw[e2];simp[tcC],o9.frozen _,o9.frozen _,o9.frozen _,o9.lt rfl⟩
     clear b79 k9 P9 op7 HI htf hzs;go_wp2_with fail
     refine wp_region_E (by kernel_rfl) [some 58,some 59,some 60,some 61,some 62,some 63,some 64,some 65,some 66,some 67,some 68,some 69,none] [none,none,none,none,none,none,none,none,none,none,none,none,none,none,none,none,none,none,none,none,none,none,none,none,none,none,none,none,none,none,none,none,none,none,none,none,none,none,none,none,none,none,none,none,none,none,none,none,none,none,none,none,none,none,none,none,none,none,some 58,some 59,some 60,some 61,some 62,some 63,some 64,some 65,some 66,some 67,some 68,some 69] (fun U=>by kernel_rfl) [fun u=>u=(.slice (some ⟨BO,0,none⟩) nl nl),fun u=>u=(.int .i64 (i:Nat)),fun u=>u=(.pointer (some ⟨CB,0,none⟩)),fun u=>u=(.slice qc lc cc),fun _=>True,fun u=>u=(.pointer (some ⟨g,0,none⟩)),fun u=>u=(.pointer (some ⟨CB,1,none⟩)),fun u=>u=(.int .i64 fs),fun u=>u=(.int .i64 tf),fun u=>u=(.slice (some ⟨BS,0,none⟩) j j),fun _=>True,fun u=>u=(.pointer (some ⟨BO,i*3,none⟩)),fun _=>True] (fun L U wr=>(L 12=false→Below wk.heap.size wk wr)∧(L 4=true→L 12=false→Cle wk.heap.size lc zs (U 62) wr)∧(L 10=true→L 12=false→U 68=.agg #[U 62,.int .i64 tf,.slice (some ⟨BS,0,none⟩) j j])∧(L 12=true→(L 0=true∧L 1=true∧L 2=true∧L 3=true∧L 4=true∧L 5=true∧L 6=true∧L 7=true∧L 8=true∧L 9=true∧L 10=true∧L 11=true)∧E5 wr)) (by kernel_rfl) (by decide) (by kernel_rfl) (by kernel_rfl) ?_ ?_ ?_
     · exact fun U=>⟨fun _=>(Below.refl _ _).drew,(fun h=>by cases h),(fun h=>by cases h),(fun h=>by cases h)⟩
     ·
      refine StepsE.run rfl ?_ ?_
      ·
       intro L U wr hC hP hlk hcl haf A K hFm hK;simp[Aft,Region.binds]at haf;have e3:A.tmps[3]?=some (.slice (some ⟨BO,0,none⟩) nl nl):=(hFm.old 3 (by decide)).trans (by kernel_rfl)
       have HC:Hid _:=hC;clear hC;refine⟨?_⟩;go_simp;refine hK _ _ rfl ?_;obtain⟨c0,cB,c1,cS⟩:=HC.out;refine⟨fun h=>c0 (by simpa using h),(fun h1 h2=>by have h9:=cB (by simpa using h1) (by simpa using h2);simpa [updO,Go.Proofs.YtbmkkhpoaicclabGreat.upd] using h9),(fun h1 h2=>by have h9:=c1 (by simpa using h1) (by simpa using h2);simpa [updO,Go.Proofs.YtbmkkhpoaicclabGreat.upd] using h9),fun h=>?_⟩
       have h9:=cS (by simpa using h)
       exact⟨by simp[h9.1],h9.2⟩
      refine StepsE.run rfl ?_ ?_
      ·
       intro L U wr hC hP hlk hcl haf A K hFm hK;simp[Aft,Region.binds]at haf;have e4:A.tmps[4]?=some (.int .i64 (i:Nat)):=(hFm.old 4 (by decide)).trans (by kernel_rfl)
       have HC:Hid _:=hC;clear hC;refine⟨?_⟩;go_simp;refine hK _ _ rfl ?_;obtain⟨c0,cB,c1,cS⟩:=HC.out;refine⟨fun h=>c0 (by simpa using h),(fun h1 h2=>by have h9:=cB (by simpa using h1) (by simpa using h2);simpa [updO,Go.Proofs.YtbmkkhpoaicclabGreat.upd] using h9),(fun h1 h2=>by have h9:=c1 (by simpa using h1) (by simpa using h2);simpa [updO,Go.Proofs.YtbmkkhpoaicclabGreat.upd] using h9),fun h=>?_⟩
       have h9:=cS (by simpa using h)
       exact⟨by simp[h9.1],h9.2⟩
      refine StepsE.run rfl ?_ ?_
      ·
       intro L U wr hC hP hlk hcl haf A K hFm hK;simp[Aft,Region.binds]at haf;have e5:A.tmps[5]?=some (.pointer (some ⟨CB,0,none⟩)):=(hFm.old 5 (by decide)).trans (by kernel_rfl)
       have HC:Hid _:=hC;clear hC;refine⟨?_⟩;go_simp;refine hK _ _ rfl ?_;obtain⟨c0,cB,c1,cS⟩:=HC.out;refine⟨fun h=>c0 (by simpa using h),(fun h1 h2=>by have h9:=cB (by simpa using h1) (by simpa using h2);simpa [updO,Go.Proofs.YtbmkkhpoaicclabGreat.upd] using h9),(fun h1 h2=>by have h9:=c1 (by simpa using h1) (by simpa using h2);simpa [updO,Go.Proofs.YtbmkkhpoaicclabGreat.upd] using h9),fun h=>?_⟩
       have h9:=cS (by simpa using h)
       exact⟨by simp[h9.1],h9.2⟩
      refine StepsE.run rfl ?_ ?_
      ·
       intro L U wr hC hP hlk hcl haf A K hFm hK;simp[Aft,Region.binds]at haf;have g2:U 60=(.pointer (some ⟨CB,0,none⟩)):=hP 2 60 (by simp[haf]) rfl
       have e60:A.tmps[60]?=some (.pointer (some ⟨CB,0,none⟩)):=hFm.is 2 60 rfl g2;have hb8:Below wk.heap.size wk wr:=hC.1 (by cases h:L 12 with|false=>rfl|true=>exact absurd (hC.2.2.2 h).1 (by simp[hlk]))
       obtain⟨m0,m1,m2,m3,m4⟩:=HM9.out wr hb8;clear hb8;have HC:Hid _:=hC;clear hC;refine⟨?_⟩;go_simp;refine hK _ _ rfl ?_;obtain⟨c0,cB,c1,cS⟩:=HC.out;refine⟨fun h=>c0 (by simpa using h),(fun h1 h2=>by have h9:=cB (by simpa using h1) (by simpa using h2);simpa [updO,Go.Proofs.YtbmkkhpoaicclabGreat.upd] using h9),(fun h1 h2=>by have h9:=c1 (by simpa using h1) (by simpa using h2);simpa [updO,Go.Proofs.YtbmkkhpoaicclabGreat.upd] using h9),fun h=>?_⟩
       have h9:=cS (by simpa using h)
       exact⟨by simp[h9.1],h9.2⟩
      refine StepsE.run rfl ?_ ?_
      ·
       intro L U wr hC hP hlk hcl haf A K hFm hK;simp[Aft,Region.binds]at haf;have g3:U 61=(.slice qc lc cc):=hP 3 61 (by simp[haf]) rfl
       have e61:A.tmps[61]?=some (.slice qc lc cc):=hFm.is 3 61 rfl g3;refine⟨?_⟩;have hb8:Below wk.heap.size wk wr:=hC.1 (by cases h:L 12 with|false=>rfl|true=>exact absurd (hC.2.2.2 h).1 (by simp[hlk]))
       have HC:Hid _:=hC;clear hC;go_simp;refine (HCL.out wr hb8).mono ?_;rintro e wx ⟨v9,rfl,ho9,hb9⟩;have HO9:=hide ho9;clear ho9;go_simp;refine hK _ _ trivial ⟨fun _=>hb8.trans (hb9.mono hb8.size),fun _ _=>?_,fun h1 h2=>?_,fun h=>absurd (HC.out.2.2.2 (by simpa using h)).1 (by simp[hlk])⟩
       · simp only[updO,Go.Proofs.YtbmkkhpoaicclabGreat.upd,beq_self_eq_true,cond_true];exact HO9.out
       ·
        have h9:=hcl 10 _ rfl (by simpa using h1)
        simp[Aft,Region.binds,hlk]at h9
      refine StepsE.run rfl ?_ ?_
      ·
       intro L U wr hC hP hlk hcl haf A K hFm hK;simp[Aft,Region.binds]at haf;have e1:A.tmps[1]?=some (.pointer (some ⟨pb,0,none⟩)):=(hFm.old 1 (by decide)).trans (by kernel_rfl)
       have hb8:Below wk.heap.size wk wr:=hC.1 (by cases h:L 12 with|false=>rfl|true=>exact absurd (hC.2.2.2 h).1 (by simp[hlk]))
       obtain⟨m0,m1,m2,m3,m4⟩:=HM9.out wr hb8;clear hb8;have HC:Hid _:=hC;clear hC;refine⟨?_⟩;go_simp;refine hK _ _ rfl ?_;obtain⟨c0,cB,c1,cS⟩:=HC.out;refine⟨fun h=>c0 (by simpa using h),(fun h1 h2=>by have h9:=cB (by simpa using h1) (by simpa using h2);simpa [updO,Go.Proofs.YtbmkkhpoaicclabGreat.upd] using h9),(fun h1 h2=>by have h9:=c1 (by simpa using h1) (by simpa using h2);simpa [updO,Go.Proofs.YtbmkkhpoaicclabGreat.upd] using h9),fun h=>?_⟩
       have h9:=cS (by simpa using h)
       exact⟨by simp[h9.1],h9.2⟩
      refine StepsE.run rfl ?_ ?_
      ·
       intro L U wr hC hP hlk hcl haf A K hFm hK;simp[Aft,Region.binds]at haf;have e5:A.tmps[5]?=some (.pointer (some ⟨CB,0,none⟩)):=(hFm.old 5 (by decide)).trans (by kernel_rfl)
       have HC:Hid _:=hC;clear hC;refine⟨?_⟩;go_simp;refine hK _ _ rfl ?_;obtain⟨c0,cB,c1,cS⟩:=HC.out;refine⟨fun h=>c0 (by simpa using h),(fun h1 h2=>by have h9:=cB (by simpa using h1) (by simpa using h2);simpa [updO,Go.Proofs.YtbmkkhpoaicclabGreat.upd] using h9),(fun h1 h2=>by have h9:=c1 (by simpa using h1) (by simpa using h2);simpa [updO,Go.Proofs.YtbmkkhpoaicclabGreat.upd] using h9),fun h=>?_⟩
       have h9:=cS (by simpa using h)
       exact⟨by simp[h9.1],h9.2⟩
      refine StepsE.run rfl ?_ ?_
      ·
       intro L U wr hC hP hlk hcl haf A K hFm hK;simp[Aft,Region.binds]at haf;have g6:U 64=(.pointer (some ⟨CB,1,none⟩)):=hP 6 64 (by simp[haf]) rfl
       have e64:A.tmps[64]?=some (.pointer (some ⟨CB,1,none⟩)):=hFm.is 6 64 rfl g6;have hb8:Below wk.heap.size wk wr:=hC.1 (by cases h:L 12 with|false=>rfl|true=>exact absurd (hC.2.2.2 h).1 (by simp[hlk]))
       obtain⟨m0,m1,m2,m3,m4⟩:=HM9.out wr hb8;clear hb8;have HC:Hid _:=hC;clear hC;refine⟨?_⟩;go_simp;refine hK _ _ rfl ?_;obtain⟨c0,cB,c1,cS⟩:=HC.out;refine⟨fun h=>c0 (by simpa using h),(fun h1 h2=>by have h9:=cB (by simpa using h1) (by simpa using h2);simpa [updO,Go.Proofs.YtbmkkhpoaicclabGreat.upd] using h9),(fun h1 h2=>by have h9:=c1 (by simpa using h1) (by simpa using h2);simpa [updO,Go.Proofs.YtbmkkhpoaicclabGreat.upd] using h9),fun h=>?_⟩
       have h9:=cS (by simpa using h)
       exact⟨by simp[h9.1],h9.2⟩
      refine StepsE.run rfl ?_ ?_
      ·
       intro L U wr hC hP hlk hcl haf A K hFm hK;simp[Aft,Region.binds]at haf;have g5:U 63=(.pointer (some ⟨g,0,none⟩)):=hP 5 63 (by simp[haf]) rfl
       have e63:A.tmps[63]?=some (.pointer (some ⟨g,0,none⟩)):=hFm.is 5 63 rfl g5;have g7:U 65=(.int .i64 fs):=hP 7 65 (by simp[haf]) rfl
       have e65:A.tmps[65]?=some (.int .i64 fs):=hFm.is 7 65 rfl g7;refine⟨?_⟩;have hb8:Below wk.heap.size wk wr:=hC.1 (by cases h:L 12 with|false=>rfl|true=>exact absurd (hC.2.2.2 h).1 (by simp[hlk]))
       have HC:Hid _:=hC;clear hC;go_simp;refine (HTD.out wr hb8).mono ?_;rintro e wx ⟨rfl,rfl⟩;go_simp;exact hK _ _ rfl ⟨fun h=>HC.out.1 (by simpa using h),(fun h1 h2=>by have h9:=HC.out.2.1 (by simpa using h1) (by simpa using h2);simpa [updO,Go.Proofs.YtbmkkhpoaicclabGreat.upd] using h9),(fun h1 h2=>by have h9:=HC.out.2.2.1 (by simpa using h1) (by simpa using h2);simpa [updO,Go.Proofs.YtbmkkhpoaicclabGreat.upd] using h9),fun h=>absurd (HC.out.2.2.2 (by simpa using h)).1 (by simp[hlk])⟩
      refine StepsE.run rfl ?_ ?_
      ·
       intro L U wr hC hP hlk hcl haf A K hFm hK;simp[Aft,Region.binds]at haf;have e6:A.tmps[6]?=some (.slice (some ⟨BS,0,none⟩) j j):=(hFm.old 6 (by decide)).trans (by kernel_rfl)
       have HC:Hid _:=hC;clear hC;refine⟨?_⟩;go_simp;refine hK _ _ rfl ?_;obtain⟨c0,cB,c1,cS⟩:=HC.out;refine⟨fun h=>c0 (by simpa using h),(fun h1 h2=>by have h9:=cB (by simpa using h1) (by simpa using h2);simpa [updO,Go.Proofs.YtbmkkhpoaicclabGreat.upd] using h9),(fun h1 h2=>by have h9:=c1 (by simpa using h1) (by simpa using h2);simpa [updO,Go.Proofs.YtbmkkhpoaicclabGreat.upd] using h9),fun h=>?_⟩
       have h9:=cS (by simpa using h)
       exact⟨by simp[h9.1],h9.2⟩
      refine StepsE.run rfl ?_ ?_
      ·
       intro L U wr hC hP hlk hcl haf A K hFm hK;simp[Aft,Region.binds]at haf;have e62:A.tmps[62]?=some (U 62):=hFm.got 4 62 rfl;have g8:U 66=(.int .i64 tf):=hP 8 66 (by simp[haf]) rfl
       have e66:A.tmps[66]?=some (.int .i64 tf):=hFm.is 8 66 rfl g8;have g9:U 67=(.slice (some ⟨BS,0,none⟩) j j):=hP 9 67 (by simp[haf]) rfl
       have e67:A.tmps[67]?=some (.slice (some ⟨BS,0,none⟩) j j):=hFm.is 9 67 rfl g9;have l4:L 4=true:=by simp[haf]
       refine⟨?_⟩;have hs:L 12=false:=(by cases h:L 12 with|false=>rfl|true=>exact absurd (hC.2.2.2 h).1 (by simp[hlk]))
       have oc9:=hC.2.1 l4 hs;obtain⟨qa,ca,hv9,-⟩:=oc9.1.shape;have e62b:A.tmps[62]?=some (.slice qa lc ca):=by rw[e62,hv9]
       clear oc9;have HC:Hid _:=hC;clear hC e62;go_simp;exact hK _ _ trivial ⟨fun h=>HC.out.1 (by simpa using h),(fun h1 h2=>by have h9:=HC.out.2.1 (by simpa using h1) (by simpa using h2);simpa [updO,Go.Proofs.YtbmkkhpoaicclabGreat.upd] using h9),(fun _ _=>by simp[updO,Go.Proofs.YtbmkkhpoaicclabGreat.upd,hv9]),fun h=>absurd (HC.out.2.2.2 (by simpa using h)).1 (by simp[hlk])⟩
      refine StepsE.run rfl ?_ ?_
      ·
       intro L U wr hC hP hlk hcl haf A K hFm hK;simp[Aft,Region.binds]at haf;have g0:U 58=(.slice (some ⟨BO,0,none⟩) nl nl):=hP 0 58 (by simp[haf]) rfl
       have e58:A.tmps[58]?=some (.slice (some ⟨BO,0,none⟩) nl nl):=hFm.is 0 58 rfl g0;have g1:U 59=(.int .i64 (i:Nat)):=hP 1 59 (by simp[haf]) rfl
       have e59:A.tmps[59]?=some (.int .i64 (i:Nat)):=hFm.is 1 59 rfl g1;have HC:Hid _:=hC;clear hC;refine⟨?_⟩;go_simp;refine hK _ _ rfl ?_;obtain⟨c0,cB,c1,cS⟩:=HC.out;refine⟨fun h=>c0 (by simpa using h),(fun h1 h2=>by have h9:=cB (by simpa using h1) (by simpa using h2);simpa [updO,Go.Proofs.YtbmkkhpoaicclabGreat.upd] using h9),(fun h1 h2=>by have h9:=c1 (by simpa using h1) (by simpa using h2);simpa [updO,Go.Proofs.YtbmkkhpoaicclabGreat.upd] using h9),fun h=>?_⟩
       have h9:=cS (by simpa using h)
       exact⟨by simp[h9.1],h9.2⟩
      refine StepsE.run rfl ?_ StepsE.nil
      ·
       intro L U wr hC hP hlk hcl haf A K hFm hK;simp[Aft,Region.binds]at haf;have g11:U 69=(.pointer (some ⟨BO,i*3,none⟩)):=hP 11 69 (by simp[haf]) rfl
       have e69:A.tmps[69]?=some (.pointer (some ⟨BO,i*3,none⟩)):=hFm.is 11 69 rfl g11;have e68:A.tmps[68]?=some (U 68):=hFm.got 10 68 rfl;have l11:L 11=true:=by simp[haf]
       have l10:L 10=true:=by simp[haf]
       have a11:=hcl 11 _ rfl l11;simp[Aft,Region.binds]at a11;have l0:L 0=true:=by simp[a11]
       have l1:L 1=true:=by simp[a11]
       have a10:=hcl 10 _ rfl l10;simp[Aft,Region.binds]at a10;have l4:L 4=true:=by simp[a10]
       have l8:L 8=true:=by simp[a10]
       have l9:L 9=true:=by simp[a10]
       have a4:=hcl 4 _ rfl l4;simp[Aft,Region.binds]at a4;have l3:L 3=true:=by simp[a4]
       have a8:=hcl 8 _ rfl l8;simp[Aft,Region.binds]at a8;have l5:L 5=true:=by simp[a8]
       have l7:L 7=true:=by simp[a8]
       have a3:=hcl 3 _ rfl l3;simp[Aft,Region.binds]at a3;have l2:L 2=true:=by simp[a3]
       have a7:=hcl 7 _ rfl l7;simp[Aft,Region.binds]at a7;have l6:L 6=true:=by simp[a7]
       refine⟨?_⟩;have hb8:=hC.1 hlk;have oc9:=hC.2.1 l4 hlk;have hu68:=hC.2.2.1 l10 hlk;obtain⟨qa,ca,hv9,-⟩:=oc9.1.shape;have HK9:Hid _:=HST.out wr (U 62) hb8 oc9;rw[hv9]at HK9 hu68;obtain⟨k0,k1,k2,k3,k4,k5,k6⟩:=HFZ.out wr hb8;have e68b:A.tmps[68]?=some (.agg #[.slice qa lc ca,.int .i64 tf,.slice (some ⟨BS,0,none⟩) j j]):=by rw[e68,hu68]
       clear hb8 oc9 hu68 hv9 hC e68;go_simp;refine hK (.tuple #[]) _ trivial ⟨fun h=>?_,fun h1 h2=>?_,fun h1 h2=>?_,fun _=>⟨?_,HK9.out⟩⟩
       · simp at h
       · simp at h2
       · simp at h2
       · simp[l0,l1,l2,l3,l4,l5,l6,l7,l8,l9,l10,l11]
     ·
      intro L9 U9 w3 hL9 hC9 hP9;have hE:=(hC9.2.2.2 (hL9 12 (by decide))).2
      rw[hE5]at hE;obtain⟨vc2,vs2,hE⟩:=hE;have HE3:=hide hE;clear hE hL9 hC9 hP9 HM9 HTD HST HFZ HCL hE5;simp only[setM];go_wp2;go_roundw
      case rel=>exact⟨i+1,vc2,vs2,by go_num,by omega,HE3.out⟩
      case measure=>simp[intOf]<;>omega
  ·
   have hltI:¬ ((i:Int)<(nl:Int)):=by omega
   obtain rfl:i=nl:=by omega
   have HE:Hid (PoEnd g nv ad st T w (.returned (.slice (some ⟨BO,0,none⟩) i i)) wl):=by
    have h9:=HJ.out;have sz4:w.heap.size≤w4.heap.size:=by have h1:=HB2.out.1.size;have h2:=HP4.out.2.2.1.size;omega
    refine⟨_,cs,_,vc,vs,vc',vs',rfl,p4,HP4.out.2.1,?_,?_,?_,fun b hb=>by cases hb;have:=h9.bo;show w.heap.size≤BO;omega⟩
    · exact ((Mv.below (F:=(·=g)) HB2.out.1).trans HP4.out.2.2.1 (fun b hb=>Or.inl hb)).trans (Mv.below (F:=(·=g)) h9.bl) (fun b hb=>Or.inl hb)
    · have h8:=h9.oo;rw[HNL.out]at h8;rw[HNL.out];exact h8
    · intro t x ht hx;rw[HNL.out]at ht;obtain⟨c1,c2,c3,c4⟩:=h9.cw t x ht hx;exact⟨c1,c2,fun b hb=>by have:=c3 b hb;omega,fun b hb=>by have:=c4 b hb;omega⟩
   clear HJ p4;go_wp2;go_ret
   exact HE.out
end Sat
namespace Sat
open Euf (OL App ONE5 wp_push1)
def AdEnd (g:Nat) (d:Dt) (a:Key→Value) (I:List (List Nat)) (A:Nat) (U L:List Nat) (w w':World):Prop :=
  ∃d' a',SW w' g d' a'∧Mq g d a w d' a' w'∧Idl d' (I++[L]) (A+1) U∧d'.nv=d.nv∧d'.added=d.added+1
set_option maxRecDepth 20000 in
set_option maxHeartbeats 16000000 in
theorem addC_any (g:Nat) (d:Dt) (a:Key→Value) (I:List (List Nat)) (A:Nat) (U:List Nat) (q:Option Addr) (n cap:Nat) (zs:List Int) (w:World) (hw:SW w g d a) (hi:Idl d I A U) (hz:IL w q n cap zs) (hnf:zs≠[]→∀b off,q=some ⟨b,off,none⟩→¬ Fo g d a b) (hok:∀z∈zs,Okl d.nv z) (hn:n≤4096) (had:d.added<65536) (hnv:d.nv≤5000) (hA:A≤90000000) :
  Calls Tryz.prog 14 #[.pointer (some ⟨g,0,none⟩),.slice q n cap] w fun e w'=>e=.returned (.tuple #[.int .i64 (d.added:Nat),.int .i64 0])∧AdEnd g d a I A U (zs.map lit) w w':=by
 have hlg:=hw.lt;have c0:w.cell? ⟨g,0,none⟩=some (.int .i64 (d.nv:Nat)):=hw.cell 0;have c1:w.cell? ⟨g,1,none⟩=some (.int .i64 (d.added:Nat)):=hw.cell 1;have z1:=hw.frozen 1;have HWI:=hide (within_any q n cap zs d.nv w hz hnv);have HS1:=hide (hw.added_ (d.added+1));have HS2:=hide HS1.out.1.nil_mo;obtain⟨w1,hw1⟩:∃w1,w.setCell ⟨g,1,none⟩ (.int .i64 ((d.added+1:Nat):Int))=w1:=⟨_,rfl⟩;rw[hw1]at HS1 HS2;obtain⟨qM,cM,hM,-,-,-⟩:=HS1.out.1.len (k:=kMod) (by exact⟨by decide,rfl⟩)
 have c18:w1.cell? ⟨g,18,none⟩=some (.slice qM d.mo.length cM):=(HS1.out.1.cell 18).trans (congrArg some hM);have z18:=HS1.out.1.frozen 18;have hlg1:=HS1.out.1.lt;obtain⟨w2,hw2⟩:∃w2,w1.setCell ⟨g,18,none⟩ (.slice none 0 0)=w2:=⟨_,rfl⟩;rw[hw2]at HS2;obtain⟨d2,hd2⟩:∃d2,({ ({ d with added:=d.added+1 }:Dt) with mo:=[] }:Dt)=d2:=⟨_,rfl⟩;obtain⟨a2,ha2⟩:∃a2,updK a kMod (.slice none 0 0)=a2:=⟨_,rfl⟩;rw[hd2,ha2]at HS2;have HM2:Hid (Mq g d a w d2 a2 w2):=by rw[← hd2,← ha2]at HS2 ⊢;exact HS1.out.2.q.trans HS2.out.2.q
 have zl2:IL w2 q n cap zs:=hz.keep HM2.out.mv.size (fun e0 b off e hl=>HM2.out.mv.other b hl (hnf e0 b off e))
 have HSE:=hide (set_any q n cap zs w2 zl2 (by omega))
 have c5:w2.cell? ⟨g,5,none⟩=some (.bool false):=by
  have h9:w2.cell? ⟨g,5,none⟩=some (.bool d2.refuted):=HS2.out.1.cell 5;have e9:d2.refuted=false:=by rw[← hd2];exact hi.ic.rf
  rw[e9]at h9;exact h9
 have S2:=hide HS2.out.1;have HIK:=hide (And.intro hi (And.intro hok hd2));have hnI:(n:Int)≤4096:=by omega
 have hadI:(d.added:Int)<65536:=by omega
 have hnc:d.nc≤100000000:=by have:=hi.ai.bs.numQ;omega
 have hql:d.Q.length≤100000000:=by have h1:=nodup_le d.nc d.Q hi.ic.qn hi.ic.ql;omega
 have hnc2:d2.nc=d.nc:=by rw[← hd2]
 have hQ2:d2.Q=d.Q:=by rw[← hd2]
 have hnv2:d2.nv=d.nv:=by rw[← hd2]
 obtain⟨ad,had9⟩:∃ad,d.added=ad:=⟨_,rfl⟩;have hwa:((ad+1:Nat):Int)=(ad:Int)+1:=by omega
 rw[had9]at c1 hw1 hadI;rw[hwa]at hw1;have HAD:=hide had9;clear hw hi hz hnf hok hM HS1 HS2 ha2 zl2 hd2 had had9 hwa;rw[HAD.out];go_enter Tryz.func14,Tryz.ntmps14;go_wp2_with fail
 refine HWI.out.mono ?_;rintro e w9 ⟨⟨b9,rfl,hb9⟩,hw9⟩;obtain rfl:=hw9.symm;obtain rfl:b9=true:=hb9.2 HIK.out.2.1;clear hb9 HWI;have h17:decide ((65536:Int)≤(ad:Int))=false:=by simp;omega
 have h18:decide ((4096:Int)<(n:Int))=false:=by simp;omega
 have HADI:=hide hadI;clear hadI hnI;go_upto_if 24 with fail
 clear h17 h18;have hadJ:(ad:Int)≤100000:=by have:=HADI.out;omega
 go_wp2_with fail
 refine HSE.out.mono ?_;rintro e w3 ⟨v3,s,rfl,hset,ol3,own3,bl3⟩;have oks:∀z∈s,Okl d.nv z:=fun z hz=>HIK.out.2.1 z ((hset.2 z).1 hz)
 have inI:∀z∈s,InI z:=fun z hz=>by obtain⟨-,h1,h2⟩:=oks z hz;exact⟨by omega,by omega⟩
 obtain⟨qs,cs,hv3,il3⟩:=OL.il ol3 inI;subst hv3;obtain⟨ns,hns⟩:∃ns,s.length=ns:=⟨_,rfl⟩;rw[hns]at il3 own3;have small:∀z∈s,-5000≤z∧z≤5000:=fun z hz=>by obtain⟨-,h1,h2⟩:=oks z hz;omega
 have hnsl:ns≤10002:=by
  have h1:(s.map lit).Nodup:=List.pairwise_map.2 (hset.1.imp (fun hb e=>by have:=lit_inj e;subst this;exact bv_irr _ hb))
  have h2:=nodup_le (2*(d.nv+1)) (s.map lit) h1 (fun x hx=>by obtain⟨z,hz,rfl⟩:=List.mem_map.1 hx;exact (lit_ok (oks z hz)).2)
  rw[List.length_map]at h2;omega
 have S3:=hide (S2.out.below bl3);have M3:=hide (HM2.out.below bl3);have c5':w3.cell? ⟨g,5,none⟩=some (.bool false):=by rw[← c5];exact World.cell?_of_block (a:=⟨g,5,none⟩) (bl3.block g S2.out.lt)
 have hlg3:=S3.out.lt;have HAT:=hide (alwaysTrue_any qs ns cs s w3 il3 small);have HST:=hide (And.intro hset (And.intro oks (And.intro small (And.intro hns (And.intro own3 il3)))));rw[hns];clear hset ol3 own3 bl3 inI il3 oks small hns S2 HM2 HSE c5;go_wp2_with fail
 refine HAT.out.mono ?_;rintro e w4 ⟨⟨b9,rfl,hb9⟩,k9,hw4⟩;have HT:Hid (b9=true↔∃m∈zs.map lit,ng m∈zs.map lit):=by
  show _↔_
  rw[hb9,← HST.out.2.2.2.1];exact taut_iff HST.out.1 (fun z hz=>(HIK.out.2.1 z hz).1)
 have S4:Hid (SW w4 g d2 a2):=by rw[hw4];exact S3.out.drewN _
 have M4:Hid (Mq g d a w d2 a2 w4):=by rw[hw4];exact M3.out.drewN _
 have il4:IL w4 qs ns cs s:=by rw[hw4];exact⟨HST.out.2.2.2.2.2.len,HST.out.2.2.2.2.2.le,HST.out.2.2.2.2.2.mx,HST.out.2.2.2.2.2.nl,HST.out.2.2.2.2.2.at_,HST.out.2.2.2.2.2.ok⟩
 clear hb9 hw4 HAT S3 M3 c5';cases b9 with
 | true =>
  have HE:Hid (AdEnd g d a I A U (zs.map lit) w w4):=⟨d2,a2,S4.out,M4.out,HIK.out.1.taut (HT.out.1 rfl) (by rw[← HIK.out.2.2]),hnv2,by rw[← HIK.out.2.2]⟩
  clear il4;go_wp2;go_ret2
  exact⟨rfl,HE.out⟩
 | false =>
  have nt:¬ ∃m∈zs.map lit,ng m∈zs.map lit:=fun h=>by have:=HT.out.2 h;cases this
  obtain⟨x,hx⟩:∃x:Cl,({ lits:=s.map lit,num:=(ad:Int),first:=0,links:=[] }:Cl)=x:=⟨_,rfl⟩
  have hxl:x.lits=s.map lit:=by rw[← hx]
  have hxn:x.num=(ad:Int):=by rw[← hx]
  have hxf:x.first=0:=by rw[← hx]
  have hxk:x.links=[]:=by rw[← hx]
  obtain⟨nc,hnc9⟩:∃nc,d2.nc=nc:=⟨_,rfl⟩;obtain⟨nq,hnq⟩:∃nq,d2.Q.length=nq:=⟨_,rfl⟩;obtain⟨Q0,hQ0⟩:∃Q0,d2.Q=Q0:=⟨_,rfl⟩;obtain⟨vW,hvW⟩:∃vW,a2 kWai=vW:=⟨_,rfl⟩;obtain⟨nq1,hnq1⟩:∃nq1,nq+1=nq1:=⟨_,rfl⟩;have hIdl:∀d',d'={ d2.more x with Q:=Q0++[nc] }→Idl d' (I++[zs.map lit]) (A+1) U∧d'.nv=d.nv∧d'.added=d.added+1:=fun d' hd'=>by
   have e2:d'={ d with nc:=d.nc+1,C:=upd d.C d.nc x,Q:=d.Q++[d.nc],added:=d.added+1,mo:=[] }:=by rw[hd',← hQ0,← hnc9,← HIK.out.2.2]
   refine⟨HIK.out.1.more (x:=x) (L:=zs.map lit) ?_ ?_ ?_ ?_ e2,by rw[e2],by rw[e2]⟩
   · intro m hm;rw[hxl]at hm;obtain⟨z,hz,rfl⟩:=List.mem_map.1 hm;exact lit_ok (HST.out.2.1 z hz)
   · rw[hxl];exact set_nd HST.out.1 (fun z hz=>(HIK.out.2.1 z hz).1) nt
   · rw[hxn,← HAD.out,HIK.out.1.ic.ad]
   · intro m;rw[hxl];exact lit_mem HST.out.1 m
  -- the region's worlds
  obtain⟨PA,hPA⟩:∃PA:World→Prop,PA=fun wr=>∃k,wr=w4.drewN k:=⟨_,rfl⟩
  obtain⟨PB,hPB⟩:∃PB:World→Prop,PB=fun wr=>OL 1 106 wr (.slice (some ⟨w4.heap.size,0,none⟩) ns ns) ns (i32C (s.map lit))∧Below w4.heap.size w4 wr:=⟨_,rfl⟩
  obtain⟨PC,hPC⟩:∃PC:World→Prop,PC=fun wr=>∃a5,SW wr g (d2.more x) a5∧Mv (Fo g d2 a2) w4 wr∧(∀b,Fo g (d2.more x) a5 b→Fo g d2 a2 b∨w4.heap.size≤b)∧a5 kWai=vW:=⟨_,rfl⟩
  obtain⟨PE,hPE⟩:∃PE:Value→World→Prop,PE=fun v wr=>∃wk,PC wk∧OL 1 3 wr v nq1 (i64C (Q0++[nc]))∧App vW v wk wr:=⟨_,rfl⟩
  obtain⟨E5,hE5⟩:∃E5:World→Prop,E5=fun wr=>AdEnd g d a I A U (zs.map lit) w wr:=⟨_,rfl⟩
  obtain⟨M5,hM5⟩:∃M5:World→Prop,M5=fun wr=>wr.cell? ⟨g,3,none⟩=some vW∧wr.frozen? ⟨g,3,none⟩=false∧g<wr.heap.size:=⟨_,rfl⟩
  have HM0:Hid (∀wr,PA wr→M5 wr):=fun wr h=>by
   rw[hPA]at h;obtain⟨k,rfl⟩:=h;have s9:=S4.out.drewN k;rw[hM5];exact⟨(s9.cell 3).trans (congrArg some hvW),s9.frozen 3,s9.lt⟩
  have HM1:Hid (∀wr,PB wr→M5 wr):=fun wr h=>by
   rw[hPB]at h;have s9:=S4.out.below h.2;rw[hM5];exact⟨(s9.cell 3).trans (congrArg some hvW),s9.frozen 3,s9.lt⟩
  have HM2:Hid (∀wr,PC wr→M5 wr):=fun wr h=>by
   rw[hPC]at h;obtain⟨a5,s9,-,-,e9⟩:=h;rw[hM5];exact⟨(s9.cell 3).trans (congrArg some e9),s9.frozen 3,s9.lt⟩
  have HFZ0:Hid (∀wr v,PE v wr→M5 wr):=fun wr v h=>by
   rw[hPE]at h;obtain⟨wk,hc,-,ap⟩:=h;rw[hPC]at hc;obtain⟨a5,s9,-,-,e9⟩:=hc;have hng:vW.ownBlock≠some g:=by rw[← e9];exact s9.ne (k:=kWai) ⟨by decide,rfl⟩
   have hb:=ap.other g s9.lt hng;rw[hM5];exact⟨(World.cell?_of_block (a:=⟨g,3,none⟩) hb).trans ((s9.cell 3).trans (congrArg some e9)),frozen_of_row wr g 3 _ 78 (hb.trans s9.blk),Nat.lt_of_lt_of_le s9.lt ap.size⟩
  have HM4:=HFZ0;have HFZ:Hid (∀wr v,PE v wr→wr.cell? ⟨g,3,none⟩=some vW∧wr.frozen? ⟨g,3,none⟩=false∧g<wr.heap.size):=fun wr v h=>by have h9:=HFZ0.out wr v h;rw[hM5]at h9;exact h9
  have HP0:Hid (PA w4.drew):=by show PA w4.drew;rw[hPA];exact⟨1,rfl⟩
  have HIN:Hid (∀wr,PA wr→Calls Tryz.prog 35 #[.slice qs ns cs] wr fun e w'=>e=.returned (.slice (some ⟨w4.heap.size,0,none⟩) ns ns)∧PB w'):=fun wr h=>by
   rw[hPA]at h;obtain⟨k,rfl⟩:=h;have ilk:IL (w4.drewN k) qs ns cs s:=⟨il4.len,il4.le,il4.mx,il4.nl,il4.at_,il4.ok⟩;refine (inside_any qs ns cs s (w4.drewN k) ilk HST.out.2.2.1 (by omega)).mono ?_
   rintro e w' ⟨he,ol,bl⟩;rw[hPB];exact⟨he,ol,⟨bl.os,bl.tape,bl.output,bl.size,bl.block⟩⟩
  have HKE:Hid (∀wr,PB wr→Calls Tryz.prog 34 #[.pointer (some ⟨g,0,none⟩),.agg #[.slice (some ⟨w4.heap.size,0,none⟩) ns ns,.int .i64 (ad:Nat),.int .i64 0,.slice none 0 0]] wr fun e w'=>e=.returned (.int .i64 (nc:Nat))∧PC w'):=fun wr h=>by
   rw[hPB]at h;obtain⟨ol,bl⟩:=h;have hlx:x.lits.length=ns:=by rw[hxl,List.length_map,HST.out.2.2.2.1]
   have h9:=keep_any g d2 a2 x (.slice (some ⟨w4.heap.size,0,none⟩) ns ns) (.slice none 0 0) wr (S4.out.below bl) (by rw[hlx,hxl];exact ol) (by rw[hxk];exact OL.nil _ _ _ _) (fun b hb hf=>by cases hb;exact absurd (S4.out.foLt hf) (Nat.lt_irrefl _)) (fun b hb=>by cases hb) (by omega)
   rw[hxn,hxf,hnc9]at h9;refine h9.mono ?_;rintro e w' ⟨he,vc,s9,mv9,fo9⟩;rw[hPC];refine⟨he,_,s9,(Mv.below bl).trans mv9 (fun b hb=>Or.inl hb),fun b hb=>?_,?_⟩
   ·
    rcases fo9 b hb with h8|h8|h8|h8
    · exact Or.inl h8
    · cases h8;exact Or.inr (Nat.le_refl _)
    · cases h8
    · exact Or.inr (Nat.le_trans bl.size h8)
   · rw[← hvW];exact aMore_stab (d:=d2) a2 _ _ _ kWai trivial
  have HPA:Hid (∀wr o,PC wr→PC (wr.alloc o)):=fun wr o h=>by
   rw[hPC]at h ⊢;obtain⟨a5,s9,mv9,fo9,e9⟩:=h;have bl:Below wr.heap.size wr (wr.alloc o):=(Below.refl _ _).alloc (Nat.le_refl _) _;exact⟨a5,s9.below bl,mv9.alloc o,fo9,e9⟩
  have HOWN:Hid (∀wr,PC wr→OL 1 3 wr vW nq (i64C Q0)):=fun wr h=>by
   rw[hPC]at h;obtain⟨a5,s9,mv9,fo9,e9⟩:=h;have h8:=s9.ol (k:=kWai) ⟨by decide,rfl⟩
   rw[e9]at h8;rw[← hnq,← hQ0];exact h8
  have HNB:Hid (nq+1≤1000000000):=by show _≤_;rw[← hnq,hQ2];omega
  have hlQ:Q0.length=nq:=by rw[← hQ0];exact hnq
  have HF1:Hid (∀k,k<nq→i64C (Q0++[nc]) k=i64C Q0 k):=fun k hk=>by simp[i64C,List.getElem?_append_left (show k<Q0.length by omega)]
  have HF2:Hid (i64C (Q0++[nc]) nq=[.int .i64 (nc:Nat)]):=by show _=_;simp[i64C,← hlQ]
  have HPE:Hid (∀wr v w9,PC wr→OL 1 3 w9 v (nq+1) (i64C (Q0++[nc]))→App vW v wr w9→PE v w9):=fun wr v w9 h1 h2 h3=>by
   rw[hPE];exact⟨wr,h1,by rw[← hnq1];exact h2,h3⟩
  have HSH:Hid (∀wr v,PE v wr→∃ao cc,v=.slice ao nq1 cc):=fun wr v h=>by
   rw[hPE]at h;obtain⟨wk,-,ol,-⟩:=h;obtain⟨ao,cc,e9,-⟩:=ol.shape;exact⟨ao,cc,e9⟩
  have HSET:Hid (∀wr v,PE v wr→E5 (wr.setCell ⟨g,3,none⟩ v)):=fun wr v h=>by
   rw[hPE]at h;obtain⟨wk,hc,ol,ap⟩:=h;rw[hPC]at hc;obtain⟨a5,s9,mv9,fo9,e9⟩:=hc;have h8:=s9.push_Q (v':=v) (x:=nc) (w1:=wr) (by rw[e9];exact ap) (by show OL 1 _ wr v (d2.Q.length+1) (i64C (d2.Q++[nc]));rw[hnq,hQ0,hnq1];exact ol)
   rw[hE5];have hQx:({ d2.more x with Q:=(d2.more x).Q++[nc] }:Dt)={ d2.more x with Q:=Q0++[nc] }:=by rw[← hQ0]
   rw[hQx]at h8;obtain⟨i1,i2,i3⟩:=hIdl _ rfl;exact⟨_,_,h8.1,M4.out.trans (Mq.trans ⟨mv9,fo9⟩ h8.2),i1,i2,i3⟩
  have hE5':=hide hE5;clear hPC hPE hPA hPB hE5 hIdl hx hxl hxn hxf hxk hvW hQ0 hnq hnc9 hlQ HST HT nt il4 HFZ0 S4 M4 hnq1 HIK;go_wp2_with fail
  refine wp_region_E (by kernel_rfl) [some 51,some 52,some 53,some 54,some 55,some 56,some 57,some 58,some 59,some 60,some 61,some 62,some 63,some 64,some 65,none] [none,none,none,none,none,none,none,none,none,none,none,none,none,none,none,none,none,none,none,none,none,none,none,none,none,none,none,none,none,none,none,none,none,none,none,none,none,none,none,none,none,none,none,none,none,none,none,none,none,none,none,some 51,some 52,some 53,some 54,some 55,some 56,some 57,some 58,some 59,some 60,some 61,some 62,some 63,some 64,some 65] (fun U=>by kernel_rfl) [fun u=>u=(.pointer (some ⟨g,0,none⟩)),fun u=>u=(.pointer (some ⟨g,0,none⟩)),fun u=>u=(.pointer (some ⟨g,0,none⟩)),fun u=>u=(.pointer (some ⟨g,3,none⟩)),fun u=>u=(vW),fun u=>u=(.pointer (some ⟨g,0,none⟩)),fun u=>u=(.slice qs ns cs),fun u=>u=(.slice (some ⟨w4.heap.size,0,none⟩) ns ns),fun u=>u=(.int .i64 (ad:Nat)),fun u=>u=(.agg #[.slice (some ⟨w4.heap.size,0,none⟩) ns ns,.int .i64 (ad:Nat),.int .i64 0,.slice none 0 0]),fun u=>u=(.int .i64 (nc:Nat)),fun _=>True,fun _=>True,fun u=>u=(.pointer (some ⟨g,0,none⟩)),fun u=>u=(.pointer (some ⟨g,3,none⟩)),fun _=>True] (fun L U wr=>(L 7=false→PA wr)∧(L 7=true→L 10=false→PB wr)∧(L 10=true→L 11=false→PC wr)∧(L 11=true→L 12=false→PC wr∧ONE5 3 [.int .i64 (nc:Nat)] (U 62) wr)∧(L 12=true→L 15=false→PE (U 63) wr)∧(L 15=true→(L 0=true∧L 1=true∧L 2=true∧L 3=true∧L 4=true∧L 5=true∧L 6=true∧L 7=true∧L 8=true∧L 9=true∧L 10=true∧L 11=true∧L 12=true∧L 13=true∧L 14=true)∧E5 wr)) (by kernel_rfl) (by decide) (by kernel_rfl) (by kernel_rfl) ?_ ?_ ?_
  · exact fun U=>⟨fun _=>HP0.out,(fun h=>by cases h),(fun h=>by cases h),(fun h=>by cases h),(fun h=>by cases h),(fun h=>by cases h)⟩
  ·
   refine StepsE.run rfl ?_ ?_
   ·
    intro L U wr hC hP hlk hcl haf A K hFm hK;simp[Aft,Region.binds]at haf;have e0:A.tmps[0]?=some (.pointer (some ⟨g,0,none⟩)):=(hFm.old 0 (by decide)).trans (by kernel_rfl)
    have HC:Hid _:=hC;clear hC;refine⟨?_⟩;go_simp;refine hK _ _ rfl ?_;obtain⟨c0,cB,c1,cX,cZ,cS⟩:=HC.out;refine⟨fun h=>c0 (by simpa using h),(fun h1 h2=>by have h9:=cB (by simpa using h1) (by simpa using h2);simpa [updO,Go.Proofs.YtbmkkhpoaicclabGreat.upd] using h9),(fun h1 h2=>by have h9:=c1 (by simpa using h1) (by simpa using h2);simpa [updO,Go.Proofs.YtbmkkhpoaicclabGreat.upd] using h9),(fun h1 h2=>by have h9:=cX (by simpa using h1) (by simpa using h2);simpa [updO,Go.Proofs.YtbmkkhpoaicclabGreat.upd] using h9),(fun h1 h2=>by have h9:=cZ (by simpa using h1) (by simpa using h2);simpa [updO,Go.Proofs.YtbmkkhpoaicclabGreat.upd] using h9),fun h=>?_⟩
    have h9:=cS (by simpa using h)
    exact⟨by simp[h9.1],h9.2⟩
   refine StepsE.run rfl ?_ ?_
   ·
    intro L U wr hC hP hlk hcl haf A K hFm hK;simp[Aft,Region.binds]at haf;have e0:A.tmps[0]?=some (.pointer (some ⟨g,0,none⟩)):=(hFm.old 0 (by decide)).trans (by kernel_rfl)
    have HC:Hid _:=hC;clear hC;refine⟨?_⟩;go_simp;refine hK _ _ rfl ?_;obtain⟨c0,cB,c1,cX,cZ,cS⟩:=HC.out;refine⟨fun h=>c0 (by simpa using h),(fun h1 h2=>by have h9:=cB (by simpa using h1) (by simpa using h2);simpa [updO,Go.Proofs.YtbmkkhpoaicclabGreat.upd] using h9),(fun h1 h2=>by have h9:=c1 (by simpa using h1) (by simpa using h2);simpa [updO,Go.Proofs.YtbmkkhpoaicclabGreat.upd] using h9),(fun h1 h2=>by have h9:=cX (by simpa using h1) (by simpa using h2);simpa [updO,Go.Proofs.YtbmkkhpoaicclabGreat.upd] using h9),(fun h1 h2=>by have h9:=cZ (by simpa using h1) (by simpa using h2);simpa [updO,Go.Proofs.YtbmkkhpoaicclabGreat.upd] using h9),fun h=>?_⟩
    have h9:=cS (by simpa using h)
    exact⟨by simp[h9.1],h9.2⟩
   refine StepsE.run rfl ?_ ?_
   ·
    intro L U wr hC hP hlk hcl haf A K hFm hK;simp[Aft,Region.binds]at haf;have g1:U 52=(.pointer (some ⟨g,0,none⟩)):=hP 1 52 (by simp[haf]) rfl
    have e52:A.tmps[52]?=some (.pointer (some ⟨g,0,none⟩)):=hFm.is 1 52 rfl g1;have hM8:M5 wr:=by
     obtain⟨c0,cB,c1,cX,cZ,cS⟩:=hC;have hs:L 15=false:=by cases h:L 15 with|false=>rfl|true=>exact absurd (cS h).1 (by simp[hlk])
     cases h12:L 12 with
     | true=>exact HM4.out wr (U 63) (cZ h12 hs)
     | false =>
      cases h11:L 11 with
      | true=>exact HM2.out wr (cX h11 h12).1
      | false =>
       cases h10:L 10 with
       | true=>exact HM2.out wr (c1 h10 h11)
       | false =>
        cases h7:L 7 with
        | true=>exact HM1.out wr (cB h7 h10)
        | false=>exact HM0.out wr (c0 h7)
    rw[hM5]at hM8;obtain⟨m3,mz,mg⟩:=hM8;have HC:Hid _:=hC;clear hC;refine⟨?_⟩;go_simp;refine hK _ _ rfl ?_;obtain⟨c0,cB,c1,cX,cZ,cS⟩:=HC.out;refine⟨fun h=>c0 (by simpa using h),(fun h1 h2=>by have h9:=cB (by simpa using h1) (by simpa using h2);simpa [updO,Go.Proofs.YtbmkkhpoaicclabGreat.upd] using h9),(fun h1 h2=>by have h9:=c1 (by simpa using h1) (by simpa using h2);simpa [updO,Go.Proofs.YtbmkkhpoaicclabGreat.upd] using h9),(fun h1 h2=>by have h9:=cX (by simpa using h1) (by simpa using h2);simpa [updO,Go.Proofs.YtbmkkhpoaicclabGreat.upd] using h9),(fun h1 h2=>by have h9:=cZ (by simpa using h1) (by simpa using h2);simpa [updO,Go.Proofs.YtbmkkhpoaicclabGreat.upd] using h9),fun h=>?_⟩
    have h9:=cS (by simpa using h)
    exact⟨by simp[h9.1],h9.2⟩
   refine StepsE.run rfl ?_ ?_
   ·
    intro L U wr hC hP hlk hcl haf A K hFm hK;simp[Aft,Region.binds]at haf;have g2:U 53=(.pointer (some ⟨g,0,none⟩)):=hP 2 53 (by simp[haf]) rfl
    have e53:A.tmps[53]?=some (.pointer (some ⟨g,0,none⟩)):=hFm.is 2 53 rfl g2;have hM8:M5 wr:=by
     obtain⟨c0,cB,c1,cX,cZ,cS⟩:=hC;have hs:L 15=false:=by cases h:L 15 with|false=>rfl|true=>exact absurd (cS h).1 (by simp[hlk])
     cases h12:L 12 with
     | true=>exact HM4.out wr (U 63) (cZ h12 hs)
     | false =>
      cases h11:L 11 with
      | true=>exact HM2.out wr (cX h11 h12).1
      | false =>
       cases h10:L 10 with
       | true=>exact HM2.out wr (c1 h10 h11)
       | false =>
        cases h7:L 7 with
        | true=>exact HM1.out wr (cB h7 h10)
        | false=>exact HM0.out wr (c0 h7)
    rw[hM5]at hM8;obtain⟨m3,mz,mg⟩:=hM8;have HC:Hid _:=hC;clear hC;refine⟨?_⟩;go_simp;refine hK _ _ rfl ?_;obtain⟨c0,cB,c1,cX,cZ,cS⟩:=HC.out;refine⟨fun h=>c0 (by simpa using h),(fun h1 h2=>by have h9:=cB (by simpa using h1) (by simpa using h2);simpa [updO,Go.Proofs.YtbmkkhpoaicclabGreat.upd] using h9),(fun h1 h2=>by have h9:=c1 (by simpa using h1) (by simpa using h2);simpa [updO,Go.Proofs.YtbmkkhpoaicclabGreat.upd] using h9),(fun h1 h2=>by have h9:=cX (by simpa using h1) (by simpa using h2);simpa [updO,Go.Proofs.YtbmkkhpoaicclabGreat.upd] using h9),(fun h1 h2=>by have h9:=cZ (by simpa using h1) (by simpa using h2);simpa [updO,Go.Proofs.YtbmkkhpoaicclabGreat.upd] using h9),fun h=>?_⟩
    have h9:=cS (by simpa using h)
    exact⟨by simp[h9.1],h9.2⟩
   refine StepsE.run rfl ?_ ?_
   ·
    intro L U wr hC hP hlk hcl haf A K hFm hK;simp[Aft,Region.binds]at haf;have g3:U 54=(.pointer (some ⟨g,3,none⟩)):=hP 3 54 (by simp[haf]) rfl
    have e54:A.tmps[54]?=some (.pointer (some ⟨g,3,none⟩)):=hFm.is 3 54 rfl g3;have hM8:M5 wr:=by
     obtain⟨c0,cB,c1,cX,cZ,cS⟩:=hC;have hs:L 15=false:=by cases h:L 15 with|false=>rfl|true=>exact absurd (cS h).1 (by simp[hlk])
     cases h12:L 12 with
     | true=>exact HM4.out wr (U 63) (cZ h12 hs)
     | false =>
      cases h11:L 11 with
      | true=>exact HM2.out wr (cX h11 h12).1
      | false =>
       cases h10:L 10 with
       | true=>exact HM2.out wr (c1 h10 h11)
       | false =>
        cases h7:L 7 with
        | true=>exact HM1.out wr (cB h7 h10)
        | false=>exact HM0.out wr (c0 h7)
    rw[hM5]at hM8;obtain⟨m3,mz,mg⟩:=hM8;have HC:Hid _:=hC;clear hC;refine⟨?_⟩;go_simp;refine hK _ _ rfl ?_;obtain⟨c0,cB,c1,cX,cZ,cS⟩:=HC.out;refine⟨fun h=>c0 (by simpa using h),(fun h1 h2=>by have h9:=cB (by simpa using h1) (by simpa using h2);simpa [updO,Go.Proofs.YtbmkkhpoaicclabGreat.upd] using h9),(fun h1 h2=>by have h9:=c1 (by simpa using h1) (by simpa using h2);simpa [updO,Go.Proofs.YtbmkkhpoaicclabGreat.upd] using h9),(fun h1 h2=>by have h9:=cX (by simpa using h1) (by simpa using h2);simpa [updO,Go.Proofs.YtbmkkhpoaicclabGreat.upd] using h9),(fun h1 h2=>by have h9:=cZ (by simpa using h1) (by simpa using h2);simpa [updO,Go.Proofs.YtbmkkhpoaicclabGreat.upd] using h9),fun h=>?_⟩
    have h9:=cS (by simpa using h)
    exact⟨by simp[h9.1],h9.2⟩
   refine StepsE.run rfl ?_ ?_
   ·
    intro L U wr hC hP hlk hcl haf A K hFm hK;simp[Aft,Region.binds]at haf;have e0:A.tmps[0]?=some (.pointer (some ⟨g,0,none⟩)):=(hFm.old 0 (by decide)).trans (by kernel_rfl)
    have HC:Hid _:=hC;clear hC;refine⟨?_⟩;go_simp;refine hK _ _ rfl ?_;obtain⟨c0,cB,c1,cX,cZ,cS⟩:=HC.out;refine⟨fun h=>c0 (by simpa using h),(fun h1 h2=>by have h9:=cB (by simpa using h1) (by simpa using h2);simpa [updO,Go.Proofs.YtbmkkhpoaicclabGreat.upd] using h9),(fun h1 h2=>by have h9:=c1 (by simpa using h1) (by simpa using h2);simpa [updO,Go.Proofs.YtbmkkhpoaicclabGreat.upd] using h9),(fun h1 h2=>by have h9:=cX (by simpa using h1) (by simpa using h2);simpa [updO,Go.Proofs.YtbmkkhpoaicclabGreat.upd] using h9),(fun h1 h2=>by have h9:=cZ (by simpa using h1) (by simpa using h2);simpa [updO,Go.Proofs.YtbmkkhpoaicclabGreat.upd] using h9),fun h=>?_⟩
    have h9:=cS (by simpa using h)
    exact⟨by simp[h9.1],h9.2⟩
   refine StepsE.run rfl ?_ ?_
   ·
    intro L U wr hC hP hlk hcl haf A K hFm hK;simp[Aft,Region.binds]at haf;have e7:A.tmps[7]?=some (.slice qs ns cs):=(hFm.old 7 (by decide)).trans (by kernel_rfl)
    have HC:Hid _:=hC;clear hC;refine⟨?_⟩;go_simp;refine hK _ _ rfl ?_;obtain⟨c0,cB,c1,cX,cZ,cS⟩:=HC.out;refine⟨fun h=>c0 (by simpa using h),(fun h1 h2=>by have h9:=cB (by simpa using h1) (by simpa using h2);simpa [updO,Go.Proofs.YtbmkkhpoaicclabGreat.upd] using h9),(fun h1 h2=>by have h9:=c1 (by simpa using h1) (by simpa using h2);simpa [updO,Go.Proofs.YtbmkkhpoaicclabGreat.upd] using h9),(fun h1 h2=>by have h9:=cX (by simpa using h1) (by simpa using h2);simpa [updO,Go.Proofs.YtbmkkhpoaicclabGreat.upd] using h9),(fun h1 h2=>by have h9:=cZ (by simpa using h1) (by simpa using h2);simpa [updO,Go.Proofs.YtbmkkhpoaicclabGreat.upd] using h9),fun h=>?_⟩
    have h9:=cS (by simpa using h)
    exact⟨by simp[h9.1],h9.2⟩
   refine StepsE.run rfl ?_ ?_
   ·
    intro L U wr hC hP hlk hcl haf A K hFm hK;simp[Aft,Region.binds]at haf;have g6:U 57=(.slice qs ns cs):=hP 6 57 (by simp[haf]) rfl
    have e57:A.tmps[57]?=some (.slice qs ns cs):=hFm.is 6 57 rfl g6;have nf9:L 9=false:=by cases h:L 9 with|false=>rfl|true=>have h9:=hcl 9 _ rfl h;simp[Aft,Region.binds,hlk]at h9
    have nf10:L 10=false:=by cases h:L 10 with|false=>rfl|true=>have h9:=hcl 10 _ rfl h;simp[Aft,Region.binds,nf9]at h9
    have nf11:L 11=false:=by cases h:L 11 with|false=>rfl|true=>have h9:=hcl 11 _ rfl h;simp[Aft,Region.binds,nf10]at h9
    have nf12:L 12=false:=by cases h:L 12 with|false=>rfl|true=>have h9:=hcl 12 _ rfl h;simp[Aft,Region.binds,nf11]at h9
    have nf15:L 15=false:=by cases h:L 15 with|false=>rfl|true=>have h9:=hcl 15 _ rfl h;simp[Aft,Region.binds,nf12]at h9
    refine⟨?_⟩;have HB9:=hide (hC.1 hlk);clear hC;go_simp;refine (HIN.out wr HB9.out).mono ?_;rintro e w9 ⟨rfl,hpb⟩;have HPB:=hide hpb;clear hpb;go_simp;refine hK _ _ rfl ⟨fun h=>?_,fun _ _=>HPB.out,fun h _=>?_,fun h _=>?_,fun h _=>?_,fun h=>?_⟩
    · simp at h
    · simp[nf10]at h
    · simp[nf11]at h
    · simp[nf12]at h
    · simp[nf15]at h
   refine StepsE.run rfl ?_ ?_
   ·
    intro L U wr hC hP hlk hcl haf A K hFm hK;simp[Aft,Region.binds]at haf;have e6:A.tmps[6]?=some (.int .i64 (ad:Nat)):=(hFm.old 6 (by decide)).trans (by kernel_rfl)
    have HC:Hid _:=hC;clear hC;refine⟨?_⟩;go_simp;refine hK _ _ rfl ?_;obtain⟨c0,cB,c1,cX,cZ,cS⟩:=HC.out;refine⟨fun h=>c0 (by simpa using h),(fun h1 h2=>by have h9:=cB (by simpa using h1) (by simpa using h2);simpa [updO,Go.Proofs.YtbmkkhpoaicclabGreat.upd] using h9),(fun h1 h2=>by have h9:=c1 (by simpa using h1) (by simpa using h2);simpa [updO,Go.Proofs.YtbmkkhpoaicclabGreat.upd] using h9),(fun h1 h2=>by have h9:=cX (by simpa using h1) (by simpa using h2);simpa [updO,Go.Proofs.YtbmkkhpoaicclabGreat.upd] using h9),(fun h1 h2=>by have h9:=cZ (by simpa using h1) (by simpa using h2);simpa [updO,Go.Proofs.YtbmkkhpoaicclabGreat.upd] using h9),fun h=>?_⟩
    have h9:=cS (by simpa using h)
    exact⟨by simp[h9.1],h9.2⟩
   refine StepsE.run rfl ?_ ?_
   ·
    intro L U wr hC hP hlk hcl haf A K hFm hK;simp[Aft,Region.binds]at haf;have g7:U 58=(.slice (some ⟨w4.heap.size,0,none⟩) ns ns):=hP 7 58 (by simp[haf]) rfl
    have e58:A.tmps[58]?=some (.slice (some ⟨w4.heap.size,0,none⟩) ns ns):=hFm.is 7 58 rfl g7;have g8:U 59=(.int .i64 (ad:Nat)):=hP 8 59 (by simp[haf]) rfl
    have e59:A.tmps[59]?=some (.int .i64 (ad:Nat)):=hFm.is 8 59 rfl g8;have HC:Hid _:=hC;clear hC;refine⟨?_⟩;go_simp;refine hK _ _ rfl ?_;obtain⟨c0,cB,c1,cX,cZ,cS⟩:=HC.out;refine⟨fun h=>c0 (by simpa using h),(fun h1 h2=>by have h9:=cB (by simpa using h1) (by simpa using h2);simpa [updO,Go.Proofs.YtbmkkhpoaicclabGreat.upd] using h9),(fun h1 h2=>by have h9:=c1 (by simpa using h1) (by simpa using h2);simpa [updO,Go.Proofs.YtbmkkhpoaicclabGreat.upd] using h9),(fun h1 h2=>by have h9:=cX (by simpa using h1) (by simpa using h2);simpa [updO,Go.Proofs.YtbmkkhpoaicclabGreat.upd] using h9),(fun h1 h2=>by have h9:=cZ (by simpa using h1) (by simpa using h2);simpa [updO,Go.Proofs.YtbmkkhpoaicclabGreat.upd] using h9),fun h=>?_⟩
    have h9:=cS (by simpa using h)
    exact⟨by simp[h9.1],h9.2⟩
   refine StepsE.run rfl ?_ ?_
   ·
    intro L U wr hC hP hlk hcl haf A K hFm hK;simp[Aft,Region.binds]at haf;have g5:U 56=(.pointer (some ⟨g,0,none⟩)):=hP 5 56 (by simp[haf]) rfl
    have e56:A.tmps[56]?=some (.pointer (some ⟨g,0,none⟩)):=hFm.is 5 56 rfl g5;have g9:U 60=(.agg #[.slice (some ⟨w4.heap.size,0,none⟩) ns ns,.int .i64 (ad:Nat),.int .i64 0,.slice none 0 0]):=hP 9 60 (by simp[haf]) rfl
    have e60:A.tmps[60]?=some (.agg #[.slice (some ⟨w4.heap.size,0,none⟩) ns ns,.int .i64 (ad:Nat),.int .i64 0,.slice none 0 0]):=hFm.is 9 60 rfl g9;have nf11:L 11=false:=by cases h:L 11 with|false=>rfl|true=>have h9:=hcl 11 _ rfl h;simp[Aft,Region.binds,hlk]at h9
    have nf12:L 12=false:=by cases h:L 12 with|false=>rfl|true=>have h9:=hcl 12 _ rfl h;simp[Aft,Region.binds,nf11]at h9
    have nf15:L 15=false:=by cases h:L 15 with|false=>rfl|true=>have h9:=hcl 15 _ rfl h;simp[Aft,Region.binds,nf12]at h9
    have l9:L 9=true:=by simp[haf]
    have a9:=hcl 9 _ rfl l9;simp[Aft,Region.binds]at a9;have l7:L 7=true:=by simp[a9]
    refine⟨?_⟩;have HB9:=hide (hC.2.1 l7 hlk);clear hC;go_simp;refine (HKE.out wr HB9.out).mono ?_;rintro e w9 ⟨rfl,hpc⟩;have HPC:=hide hpc;clear hpc;go_simp;refine hK _ _ rfl ⟨fun h=>?_,fun _ h=>?_,fun _ _=>HPC.out,fun h _=>?_,fun h _=>?_,fun h=>?_⟩
    · simp[l7]at h
    · simp at h
    · simp[nf11]at h
    · simp[nf12]at h
    · simp[nf15]at h
   refine StepsE.run rfl ?_ ?_
   ·
    intro L U wr hC hP hlk hcl haf A K hFm hK;simp[Aft,Region.binds]at haf;have g10:U 61=(.int .i64 (nc:Nat)):=hP 10 61 (by simp[haf]) rfl
    have e61:A.tmps[61]?=some (.int .i64 (nc:Nat)):=hFm.is 10 61 rfl g10;have nf12:L 12=false:=by cases h:L 12 with|false=>rfl|true=>have h9:=hcl 12 _ rfl h;simp[Aft,Region.binds,hlk]at h9
    have nf15:L 15=false:=by cases h:L 15 with|false=>rfl|true=>have h9:=hcl 15 _ rfl h;simp[Aft,Region.binds,nf12]at h9
    have l10:L 10=true:=by simp[haf]
    have a10:=hcl 10 _ rfl l10;simp[Aft,Region.binds]at a10;have l9:L 9=true:=by simp[a10]
    have a9:=hcl 9 _ rfl l9;simp[Aft,Region.binds]at a9;have l7:L 7=true:=by simp[a9]
    refine⟨?_⟩;have HC9:=hide (hC.2.2.1 l10 hlk);clear hC;go_simp;refine hK _ _ trivial ⟨fun h=>?_,fun _ h=>?_,fun _ h=>?_,fun _ _=>⟨HPA.out wr _ HC9.out,⟨wr.heap.size,rfl,heap_alloc_new wr _⟩⟩,fun h _=>?_,fun h=>?_⟩
    · simp[l7]at h
    · simp[l10]at h
    · simp at h
    · simp[nf12]at h
    · simp[nf15]at h
   refine StepsE.run rfl ?_ ?_
   ·
    intro L U wr hC hP hlk hcl haf A K hFm hK;simp[Aft,Region.binds]at haf;have g4:U 55=(vW):=hP 4 55 (by simp[haf]) rfl
    have e55:A.tmps[55]?=some (vW):=hFm.is 4 55 rfl g4;have e62:A.tmps[62]?=some (U 62):=hFm.got 11 62 rfl;have nf15:L 15=false:=by cases h:L 15 with|false=>rfl|true=>have h9:=hcl 15 _ rfl h;simp[Aft,Region.binds,hlk]at h9
    have l11:L 11=true:=by simp[haf]
    have a11:=hcl 11 _ rfl l11;simp[Aft,Region.binds]at a11;have l10:L 10=true:=by simp[a11]
    have a10:=hcl 10 _ rfl l10;simp[Aft,Region.binds]at a10;have l9:L 9=true:=by simp[a10]
    have a9:=hcl 9 _ rfl l9;simp[Aft,Region.binds]at a9;have l7:L 7=true:=by simp[a9]
    refine⟨?_⟩;have hcx:=hC.2.2.2.1 l11 hlk;obtain⟨hc9,hone9⟩:=hcx;refine wp_push1 (.tmp 55) (.tmp 62) 35 rfl 1 3 _ 8 u_cloneI i_cloneI (by decide) rfl (by decide) vW nq (i64C Q0) (by simp[Act.eval,e55]) (HOWN.out wr hc9) (fun _ _=>rfl) [.int .i64 (nc:Nat)] 3 (U 62) hone9 (by simp[Act.eval,e62]) rfl (by intro u hu;simp at hu;subst hu;rfl) HNB.out (i64C (Q0++[nc])) HF1.out HF2.out ?_
    intro v9 w9 hol9 hap9 hne9;refine hK _ _ trivial ⟨fun h=>?_,fun _ h=>?_,fun _ h=>?_,fun _ h=>?_,fun _ _=>?_,fun h=>?_⟩
    · simp[l7]at h
    · simp[l10]at h
    · simp[l11]at h
    · simp at h
    · simp only[updO,Go.Proofs.YtbmkkhpoaicclabGreat.upd,beq_self_eq_true,cond_true];exact HPE.out wr v9 w9 hc9 hol9 hap9
    · simp[nf15]at h
   refine StepsE.run rfl ?_ ?_
   ·
    intro L U wr hC hP hlk hcl haf A K hFm hK;simp[Aft,Region.binds]at haf;have g0:U 51=(.pointer (some ⟨g,0,none⟩)):=hP 0 51 (by simp[haf]) rfl
    have e51:A.tmps[51]?=some (.pointer (some ⟨g,0,none⟩)):=hFm.is 0 51 rfl g0;have hM8:M5 wr:=by
     obtain⟨c0,cB,c1,cX,cZ,cS⟩:=hC;have hs:L 15=false:=by cases h:L 15 with|false=>rfl|true=>exact absurd (cS h).1 (by simp[hlk])
     cases h12:L 12 with
     | true=>exact HM4.out wr (U 63) (cZ h12 hs)
     | false =>
      cases h11:L 11 with
      | true=>exact HM2.out wr (cX h11 h12).1
      | false =>
       cases h10:L 10 with
       | true=>exact HM2.out wr (c1 h10 h11)
       | false =>
        cases h7:L 7 with
        | true=>exact HM1.out wr (cB h7 h10)
        | false=>exact HM0.out wr (c0 h7)
    rw[hM5]at hM8;obtain⟨m3,mz,mg⟩:=hM8;have HC:Hid _:=hC;clear hC;refine⟨?_⟩;go_simp;refine hK _ _ rfl ?_;obtain⟨c0,cB,c1,cX,cZ,cS⟩:=HC.out;refine⟨fun h=>c0 (by simpa using h),(fun h1 h2=>by have h9:=cB (by simpa using h1) (by simpa using h2);simpa [updO,Go.Proofs.YtbmkkhpoaicclabGreat.upd] using h9),(fun h1 h2=>by have h9:=c1 (by simpa using h1) (by simpa using h2);simpa [updO,Go.Proofs.YtbmkkhpoaicclabGreat.upd] using h9),(fun h1 h2=>by have h9:=cX (by simpa using h1) (by simpa using h2);simpa [updO,Go.Proofs.YtbmkkhpoaicclabGreat.upd] using h9),(fun h1 h2=>by have h9:=cZ (by simpa using h1) (by simpa using h2);simpa [updO,Go.Proofs.YtbmkkhpoaicclabGreat.upd] using h9),fun h=>?_⟩
    have h9:=cS (by simpa using h)
    exact⟨by simp[h9.1],h9.2⟩
   refine StepsE.run rfl ?_ ?_
   ·
    intro L U wr hC hP hlk hcl haf A K hFm hK;simp[Aft,Region.binds]at haf;have g13:U 64=(.pointer (some ⟨g,0,none⟩)):=hP 13 64 (by simp[haf]) rfl
    have e64:A.tmps[64]?=some (.pointer (some ⟨g,0,none⟩)):=hFm.is 13 64 rfl g13;have hM8:M5 wr:=by
     obtain⟨c0,cB,c1,cX,cZ,cS⟩:=hC;have hs:L 15=false:=by cases h:L 15 with|false=>rfl|true=>exact absurd (cS h).1 (by simp[hlk])
     cases h12:L 12 with
     | true=>exact HM4.out wr (U 63) (cZ h12 hs)
     | false =>
      cases h11:L 11 with
      | true=>exact HM2.out wr (cX h11 h12).1
      | false =>
       cases h10:L 10 with
       | true=>exact HM2.out wr (c1 h10 h11)
       | false =>
        cases h7:L 7 with
        | true=>exact HM1.out wr (cB h7 h10)
        | false=>exact HM0.out wr (c0 h7)
    rw[hM5]at hM8;obtain⟨m3,mz,mg⟩:=hM8;have HC:Hid _:=hC;clear hC;refine⟨?_⟩;go_simp;refine hK _ _ rfl ?_;obtain⟨c0,cB,c1,cX,cZ,cS⟩:=HC.out;refine⟨fun h=>c0 (by simpa using h),(fun h1 h2=>by have h9:=cB (by simpa using h1) (by simpa using h2);simpa [updO,Go.Proofs.YtbmkkhpoaicclabGreat.upd] using h9),(fun h1 h2=>by have h9:=c1 (by simpa using h1) (by simpa using h2);simpa [updO,Go.Proofs.YtbmkkhpoaicclabGreat.upd] using h9),(fun h1 h2=>by have h9:=cX (by simpa using h1) (by simpa using h2);simpa [updO,Go.Proofs.YtbmkkhpoaicclabGreat.upd] using h9),(fun h1 h2=>by have h9:=cZ (by simpa using h1) (by simpa using h2);simpa [updO,Go.Proofs.YtbmkkhpoaicclabGreat.upd] using h9),fun h=>?_⟩
    have h9:=cS (by simpa using h)
    exact⟨by simp[h9.1],h9.2⟩
   refine StepsE.run rfl ?_ StepsE.nil
   ·
    intro L U wr hC hP hlk hcl haf A K hFm hK;simp[Aft,Region.binds]at haf;have g14:U 65=(.pointer (some ⟨g,3,none⟩)):=hP 14 65 (by simp[haf]) rfl
    have e65:A.tmps[65]?=some (.pointer (some ⟨g,3,none⟩)):=hFm.is 14 65 rfl g14;have e63:A.tmps[63]?=some (U 63):=hFm.got 12 63 rfl;have l14:L 14=true:=by simp[haf]
    have l12:L 12=true:=by simp[haf]
    have a14:=hcl 14 _ rfl l14;simp[Aft,Region.binds]at a14;have l13:L 13=true:=by simp[a14]
    have a12:=hcl 12 _ rfl l12;simp[Aft,Region.binds]at a12;have l4:L 4=true:=by simp[a12]
    have l11:L 11=true:=by simp[a12]
    have a13:=hcl 13 _ rfl l13;simp[Aft,Region.binds]at a13;have l0:L 0=true:=by simp[a13]
    have a4:=hcl 4 _ rfl l4;simp[Aft,Region.binds]at a4;have l3:L 3=true:=by simp[a4]
    have a11:=hcl 11 _ rfl l11;simp[Aft,Region.binds]at a11;have l10:L 10=true:=by simp[a11]
    have a3:=hcl 3 _ rfl l3;simp[Aft,Region.binds]at a3;have l2:L 2=true:=by simp[a3]
    have a10:=hcl 10 _ rfl l10;simp[Aft,Region.binds]at a10;have l5:L 5=true:=by simp[a10]
    have l9:L 9=true:=by simp[a10]
    have a2:=hcl 2 _ rfl l2;simp[Aft,Region.binds]at a2;have l1:L 1=true:=by simp[a2]
    have a9:=hcl 9 _ rfl l9;simp[Aft,Region.binds]at a9;have l7:L 7=true:=by simp[a9]
    have l8:L 8=true:=by simp[a9]
    have a7:=hcl 7 _ rfl l7;simp[Aft,Region.binds]at a7;have l6:L 6=true:=by simp[a7]
    refine⟨?_⟩;have hpe:=hC.2.2.2.2.1 l12 hlk;have HKK:=hide (HSET.out wr (U 63) hpe);obtain⟨k4,k5,k6⟩:=HFZ.out wr (U 63) hpe;obtain⟨ao9,cc9,hv9⟩:=HSH.out wr (U 63) hpe;have e63:A.tmps[63]?=some (.slice ao9 nq1 cc9):=hFm.is 12 63 rfl hv9;rw[hv9]at HKK;clear hpe hC;go_simp;refine hK (.tuple #[]) _ trivial ⟨fun h=>?_,fun _ h=>?_,fun _ h=>?_,fun _ h=>?_,fun _ h=>?_,fun _=>⟨?_,HKK.out⟩⟩
    · simp[l7]at h
    · simp[l10]at h
    · simp[l11]at h
    · simp[l12]at h
    · simp at h
    · simp[l0,l1,l2,l3,l4,l5,l6,l7,l8,l9,l10,l11,l12,l13,l14]
  intro L U9 wr hL hC _;have HE:=hide (hC.2.2.2.2.2 (hL 15 (by decide))).2
  rw[hE5'.out]at HE;clear hC;go_wp2;go_ret2
  exact⟨rfl,HE.out⟩
end Sat
end Go.Proofs.YtbmkkhpoaicclabGreat
