/- Joined: SatVs, SatFo, SatA, SatNx: words and contracts; no statement of the seat is proved here. -/
import Derived.Test.YtbmkkhpoaicclabGreatJoin9Grows
import Derived.Deep.RegionLaw
import Derived.Deep.DeepCutAuto
import Derived.BigQuiet
import Derived.Deep.LoopGhost
import Derived.Test.YtbmkkhpoaicclabGreatJoin8Grows
import Derived.Test.YtbmkkhpoaicclabGreatJoin6Grows
namespace Go.Proofs.YtbmkkhpoaicclabGreat
open Go.RowKit
set_option linter.unusedVariables false
namespace Sat
open Euf (OL App)
theorem setRow_drew (w:World) (b:Nat) (x:Array Value):w.drew.setRow b x=(w.setRow b x).drew:=rfl
theorem VsEnd.drew {g:Nat} {d0:Dt} {a0:Key→Value} {I:List (List Nat)} {A:Nat} {U:List Nat} {h:Nat} {w:World} {e:Ending} {w':World} (H:VsEnd g d0 a0 I A U h w e w'):VsEnd g d0 a0 I A U h w e w'.drew:=by
 obtain⟨d,a,s,m,r⟩:=H;exact⟨d,a,s.drew,m.trans (Mo.drew _ _ _ _),r⟩
theorem iWl2:(Tryz.prog.info? 133).map (·.size)=some 2:=by kernel_rfl
section
variable {g:Nat} {d0:Dt} {a0:Key→Value} {I:List (List Nat)} {A:Nat} {U:List Nat} {h gone:Nat} {w:World} {q:Option Addr} {n cap i k:Nat} {d:Dt} {a:Key→Value} {K X R:List (Nat × Nat)} {wr wr':World}
theorem LI.cellk {b:Nat} (L:LI g d0 a0 I A U h gone w (some ⟨b,0,none⟩) n cap i k d a K X R wr) (hk:k<n):∃v0 v1,wr.cell? ⟨b,k*2,none⟩=some v0∧wr.cell? ⟨b,k*2+1,none⟩=some v1∧wr.frozen? ⟨b,k*2,none⟩=false∧wr.frozen? ⟨b,k*2+1,none⟩=false∧b<wr.heap.size:=by
 obtain⟨b',cap',hv,lb,-,-,qb,zb⟩:=L.sw.wlR (l:=gone) L.vi.go.2 (by rw[L.le];omega)
 have e:=L.av.symm.trans hv;simp only[Value.slice.injEq,Option.some.injEq,Addr.mk.injEq]at e;rw[e.1.1];have h9:=qb k (by rw[L.le];exact hk)
 exact⟨_,_,h9.1,h9.2,zb _,zb _,lb⟩
theorem LI.two {c o:Nat} (L:LI g d0 a0 I A U h gone w q n cap i k d a K X ((c,o)::R) wr):∃(x p0 p1:Nat) (r:List Nat),(d.C c).lits=p0::p1::r∧((p0=gone∧p1=x)∨(p0=x∧p1=gone∧p0≠gone)):=by
 obtain⟨hc,⟨x,r,hx⟩,-⟩:=L.vi.head;have hx:(d.C c).lits=x::gone::r∨(d.C c).lits=gone::x::r:=hx;have nd:=L.vi.bs.ci.nd c hc;rcases hx with hx|hx
 ·
  refine⟨x,x,gone,r,hx,Or.inr ⟨rfl,rfl,fun e=>?_⟩⟩
  rw[hx,e]at nd;simp at nd
 · exact⟨x,gone,x,r,hx,Or.inl ⟨rfl,rfl⟩⟩
theorem LI.lx {c o x p0 p1:Nat} {r:List Nat} (L:LI g d0 a0 I A U h gone w q n cap i k d a K X ((c,o)::R) wr) (hL:(d.C c).lits=p0::p1::r) (hp:(p0=gone∧p1=x)∨(p0=x∧p1=gone∧p0≠gone)):x<2*(d.nv+1)∧gone<2*(d.nv+1):=by
 refine⟨(L.vi.bs.ci.ok c L.vi.head.1 x ?_).2,L.vi.go.2⟩;rw[hL];rcases hp with⟨rfl,rfl⟩|⟨rfl,rfl,-⟩<;>simp
theorem LI.lens (L:LI g d0 a0 I A U h gone w q n cap i k d a K X R wr):∀l,l<2*(d.nv+1)→(d.W l).length≤max n d.nc:=by
 intro l hl;by_cases e:l=gone
 · subst e;rw[L.le];exact Nat.le_max_left _ _
 · have h9:=L.vi.vs.wi.len hl;rw[upd_other _ _ e]at h9;exact Nat.le_trans h9 (Nat.le_max_right _ _)
theorem LI.rest {c o x:Nat} {r:List Nat} (L:LI g d0 a0 I A U h gone w q n cap i k d a K X ((c,o)::R) wr) (hL:(d.C c).lits=x::gone::r) (hr:∀m∈r,d.V m=-1):∀m∈(d.C c).lits,m≠x→ng m∈d.T:=by
 intro m hm hne;have hok:=(L.vi.bs.ci.ok c L.vi.head.1 m hm).2;rw[hL]at hm;rcases List.mem_cons.1 hm with h9|h9
 · exact absurd h9 hne
 ·
  rcases List.mem_cons.1 h9 with h8|h8
  · rw[h8];exact List.mem_of_getElem? L.vi.th
  · exact (vl_neg L.vi.bs.ti.nd).1 (by rw[← L.vi.bs.ti.va m hok];exact hr m h8)
theorem LI.low {c o x:Nat} {r:List Nat} {L':List (Nat × Nat)} (L:LI g d0 a0 I A U h gone w q n cap i k d a K X ((c,o)::R) wr) (hL:(d.C c).lits=x::gone::r) (hr:∀m∈r,d.V m=-1) (hn:d.nv≤5000) (hcn:d.nc≤99999999) :
  ∃us:Nat→Nat,(d.S=[]→∀v∈vrs (d.C c).lits (x:Int),(d.F v).unit=(us v:Int))∧((d.wl gone L').S=[]→∃r:Nat,(c:Int)=(r:Int)∧r<(d.wl gone L').nc∧(d.wl gone L').nc≤99999999∧((d.wl gone L').C r).lits.length≤10000∧(∀m∈((d.wl gone L').C r).lits,m<20000)∧∀v∈vrs ((d.wl gone L').C r).lits (x:Int),v≤(d.wl gone L').nv∧((d.wl gone L').F v).unit=(us v:Int)∧us v≤100000000):=by
 have hc:=L.vi.head.1;have hc:c<d.nc:=hc;have hun:d.S=[]→∀v∈vrs (d.C c).lits (x:Int),v≤d.nv∧(d.F v).unit=(((d.F v).unit.toNat:Nat):Int)∧(d.F v).unit.toNat≤100000000:=by
  intro hS v hv;obtain⟨t,t1,t2,-,u,u1,u2,-⟩:=L.vi.bs.units (l:=x) hS (L.rest hL hr) v hv;have:=(L.vi.bs.ti.ok t t1).2;rw[u2];exact⟨by omega,by simp,by simp;omega⟩
 refine⟨fun v=>(d.F v).unit.toNat,fun hS v hv=>(hun hS v hv).2.1,fun hS=>⟨c,rfl,hc,hcn,?_,?_,hun hS⟩⟩
 ·
  have:=L.vi.bs.ci.len hc;show (d.C c).lits.length≤10000
  omega
 · intro m hm;have:=(L.vi.bs.ci.ok c hc m hm).2;omega
end
set_option maxRecDepth 20000 in
set_option maxHeartbeats 16000000 in
theorem visit_any (g:Nat) (d0:Dt) (a0:Key→Value) (I:List (List Nat)) (A:Nat) (U:List Nat) (h gone:Nat) (w:World) (hw:SW w g d0 a0) (hv:VI d0 I A U h gone [] (d0.W gone)) (hn:d0.nv≤5000) (hA:A≤90000000) :
  Calls Tryz.prog 91 #[.pointer (some ⟨g,0,none⟩),.int .i32 (gone:Nat)] w fun e w'=>VsEnd g d0 a0 I A U h w e w':=by
 have hgo:=hv.go;obtain⟨bW,cW,hW,lW,qW,zW⟩:=hw.watR;have c7:w.cell? ⟨g,7,none⟩=some (.slice (some ⟨bW,0,none⟩) (2*(d0.nv+1)) cW):=(hw.cell 7).trans (congrArg some hW);have qg:=qW gone hgo.2;have hol:OL 2 133 w (a0 (kWl gone)) (d0.W gone).length (prC (d0.W gone)):=hw.ol (k:=kWl gone) hgo.2;obtain⟨q,cap,hq,hcp,-,hq0,hq1⟩:=hol.shape;rw[hq]at qg;have hlg:=hw.lt;have hgI:(gone:Int)<2*((d0.nv:Int)+1):=by omega
 obtain⟨n,hnl⟩:∃n,(d0.W gone).length=n:=⟨_,rfl⟩;rw[hnl]at qg hq hcp hq0;have hn8:n≤100000000:=by
  have h9:=(hv.vs.wi.len hgo.2);rw[upd_same,List.nil_append,hnl]at h9;have:=hv.bs.num;omega
 have H0:Hid (LI g d0 a0 I A U h gone w q n cap 0 0 d0 a0 [] [] (d0.W gone) w):=⟨hw,Mo.refl _ _ _ _,Sm.refl _,hv,rfl,rfl,rfl,hnl,hq⟩;have HQ:=hide (And.intro hq0 hq1);have HWT:Hid (a0 kWat=.slice (some ⟨bW,0,none⟩) (2*(d0.nv+1)) cW):=hW;clear hw hv hW qW zW hol hq hq0 hq1 hnl;go_enter Tryz.func91,Tryz.ntmps91;go_wp2;clear c7 qg hlg lW;go_loopw [6,7,20] (fun v6 v7 v20 wr=>∃(i k:Nat) (d:Dt) (a:Key→Value) (K X R:List (Nat × Nat)),v20=.int .i64 (i:Nat)∧v6=.int .i64 (k:Nat)∧v7=.int .i64 (-1)∧i≤n∧k≤i∧Hid (LI g d0 a0 I A U h gone w q n cap i k d a K X R wr)) (fun _ _ v _=>n - (intOf v).toNat)
 case atStart=>exact⟨0,0,d0,a0,[],[],_,rfl,rfl,rfl,Nat.zero_le _,Nat.le_refl _,H0.out⟩
 case round =>
  rename World=>wl
  clear H0;obtain⟨i,k,d,a,K,X,R,rfl,rfl,rfl,hi,hki,H⟩:=hrel;have hnv:d.nv=d0.nv:=H.out.sm.nv;have hWd:a kWat=.slice (some ⟨bW,0,none⟩) (2*(d.nv+1)) cW:=by rw[hnv];exact (H.out.mo.ad kWat trivial).trans HWT.out
  by_cases hlt:i<n
  ·
   have hltI:(i:Int)<(n:Int):=by omega
   obtain⟨p,R',rfl⟩:∃p R',R=p::R':=by
    cases R with
    | nil =>
     exfalso
     have h9:=H.out.le;rw[H.out.wg,List.append_nil,List.length_append]at h9;have:=H.out.kl;have:=H.out.xl;omega
    | cons p R'=>exact⟨p,R',rfl⟩
   obtain⟨c,o⟩:=p;obtain⟨b,cap',hvb,lb,hcb,hcb2,qb,zb⟩:=H.out.sw.wlR (l:=gone) (by rw[hnv];exact hgo.2) (by rw[H.out.le];omega)
   have e1:=H.out.av.symm.trans hvb;have e2:q=some ⟨b,0,none⟩∧cap=cap':=by
    rw[H.out.le]at e1;simp only[Value.slice.injEq]at e1;exact⟨e1.1,e1.2.2⟩
   obtain⟨rfl,rfl⟩:=e2;have hdi:(d.W gone)[i]?=some (c,o):=by
    rw[H.out.wg,List.getElem?_append_right (by rw[List.length_append,H.out.kl,H.out.xl];omega),List.length_append,H.out.kl,H.out.xl]
    simp
   obtain⟨hi9,hdi⟩:=List.getElem?_eq_some_iff.1 hdi;have qi:=qb i hi9;rw[hdi]at qi;obtain⟨qi0,qi1⟩:=qi;have zi0:=zb (i*2);have zi1:=zb (i*2+1);clear hdi hi9 e1 hvb qb zb hcb2;obtain⟨bx,hbx⟩:∃bx,wl.heap.size=bx:=⟨_,rfl⟩;obtain⟨w1,hw1⟩:∃w1,wl.alloc (.cells #[.int .i32 (c:Nat),.int .i32 (o:Nat)] 133 (0,0))=w1:=⟨_,rfl⟩;have hbl:Below wl.heap.size wl w1:=by rw[← hw1];exact⟨rfl,rfl,rfl,by simp,fun b9 hb9=>Below.heap_alloc wl _ b9 hb9⟩
   have H1:Hid (LI g d0 a0 I A U h gone w (some ⟨b,0,none⟩) n cap i k d a K X ((c,o)::R') w1):=H.out.below hbl;have hbh:w1.heap[bx]?=some (.cells #[.int .i32 (c:Nat),.int .i32 (o:Nat)] 133 (0,0)):=by rw[← hw1,← hbx];show (wl.heap.push _)[wl.heap.size]?=_;simp
   have hbf:¬ Fo g d a bx:=fun hf=>by have:=H.out.sw.foLt hf;omega
   have HBX:=hide (And.intro hbh hbf);have x0:w1.cell? ⟨bx,0,none⟩=some (.int .i32 (c:Nat)):=cell_of_row w1 bx 0 _ _ (0,0) hbh;have x1:w1.cell? ⟨bx,1,none⟩=some (.int .i32 (o:Nat)):=cell_of_row w1 bx 1 _ _ (0,0) hbh;have lbx:bx<w1.heap.size:=(Array.getElem?_eq_some_iff.1 hbh).1;obtain⟨hc,hxr,hoL⟩:=H1.out.vi.head;have hoL:o∈(d.C c).lits:=hoL;have hc:c<d.nc:=hc;have hxr:∃x r,(d.C c).lits=x::gone::r∨(d.C c).lits=gone::x::r:=hxr;have hol:=(H1.out.vi.bs.ci.ok c hc o hoL).2;have holI:(o:Int)<2*((d.nv:Int)+1):=by omega
   obtain⟨bV,cV,hVv,lV,qV,-⟩:=H1.out.sw.valR;have c6:w1.cell? ⟨g,6,none⟩=some (.slice (some ⟨bV,0,none⟩) (2*(d.nv+1)) cV):=(H1.out.sw.cell 6).trans (congrArg some hVv);have qo:=qV o hol;have hlg1:=H1.out.sw.lt;have HM:=hide (And.intro hc (And.intro hxr hoL));have hVo:=H1.out.vi.bs.ti.va o hol;clear hxr hoL hVv qV H hbh hbl hbf;by_cases hto:d.V o=1
   ·
    have HTO:Hid (o∈d.T):=vl_one.1 (by rw[← hVo];exact hto)
    rw[hto]at qo;clear hVo;go_wp2_with fail
    go_quiet (fail)
    obtain⟨wd,hwd⟩:∃wd,w1.drewN nq=wd:=⟨_,rfl⟩;rw[hwd];have HD:Hid (LI g d0 a0 I A U h gone w (some ⟨b,0,none⟩) n cap i k d a K X ((c,o)::R') wd∧wd.cell? ⟨bx,0,none⟩=some (.int .i32 (c:Nat))∧wd.cell? ⟨bx,1,none⟩=some (.int .i32 (o:Nat))∧bx<wd.heap.size):=by rw[← hwd];exact⟨H1.out.drewN _,x0,x1,lbx⟩
    clear hwd H1 x0 x1 lbx c6 qo hlg1 lV qi0 qi1 zi0 zi1;obtain⟨-,x0,x1,lbx⟩:=HD.out;obtain⟨v0,v1,y0,y1,z0,z1,lb⟩:=HD.out.1.cellk (by omega)
    obtain⟨X',hE⟩:=HD.out.1.true_ HM.out.2.2 HTO.out;have HE:=hide hE;clear hE HBX HM HD HTO;go_wp2;go_roundw
    case rel=>exact⟨i+1,k+1,_,_,_,X',R',by go_num,by go_num,rfl,by omega,by omega,HE.out⟩
    case measure=>simp[intOf]<;>omega
   ·
    have htoB:(d.V o == 1)=false:=by simpa using hto
    generalize d.V o=vo at qo hto htoB hVo;clear hVo;go_wp2_with fail
    go_quiet (fail)
    obtain⟨wd,hwd⟩:∃wd,w1.drewN nq=wd:=⟨_,rfl⟩;rw[hwd];have HD:Hid (LI g d0 a0 I A U h gone w (some ⟨b,0,none⟩) n cap i k d a K X ((c,o)::R') wd∧wd.heap[bx]?=some (.cells #[.int .i32 (c:Nat),.int .i32 (o:Nat)] 133 (0,0))):=by rw[← hwd];exact⟨H1.out.drewN _,HBX.out.1⟩
    have x0:wd.cell? ⟨bx,0,none⟩=some (.int .i32 (c:Nat)):=cell_of_row wd bx 0 _ _ (0,0) HD.out.2;have lbx:bx<wd.heap.size:=(Array.getElem?_eq_some_iff.1 HD.out.2).1;obtain⟨x,p0,p1,r,hL,hp⟩:=HD.out.1.two;have hcl:=HM.out.1;have hcn:d.nc≤99999999:=by have:=HD.out.1.vi.bs.num;omega
    have hMV:=moved_any g d a c gone x p0 p1 r wd HD.out.1.sw HM.out.1 (by omega) hL hp (HD.out.1.lx hL hp) (fun m hm=>(HD.out.1.vi.bs.ci.ok c HM.out.1 m (by rw[hL];simp[hm])).2) (by omega) (by have h9:=HD.out.1.vi.bs.ci.len HM.out.1;rw[hL]at h9;simp at h9;omega) (fun l hl=>by have:=HD.out.1.lens l hl;omega)
    have HMV:=hide hMV;have HL:=hide (And.intro hL hp);have HXL:=hide (HD.out.1.lx hL hp);clear hMV hL hp hwd H1 x1 c6 qo hlg1 lV qi0 qi1 zi0 zi1 hto htoB;go_wp2_with fail
    refine HMV.out.mono ?_;rintro e w3 (⟨rfl,hr3,s3,m3⟩|⟨rfl,hx3,j,hj,hj3,a',s3,m3,ha3⟩)
    ·
     have HL3:=hide (HD.out.1.swapped HL.out.1 HL.out.2 s3 m3);have hb3:=(m3.mv.other bx lbx HBX.out.2).trans HD.out.2;have HB3:Hid (d.V x=1∨∀m∈r,d.V m=-1):=hr3;have hlit:((d.lits c (x::gone::r)).C c).lits=x::gone::r:=by show (upd d.C c _ c).lits=_;rw[upd_same]
     obtain⟨d3,hd3⟩:∃d3,d.lits c (x::gone::r)=d3:=⟨_,rfl⟩;have hd3V:d3.V=d.V:=by rw[← hd3]
     have hd3n:d3.nv=d.nv∧d3.nc=d.nc:=by rw[← hd3];exact⟨rfl,rfl⟩
     rw[hd3]at HL3 hlit;rw[← hd3V]at HB3;have hcl3:c<d3.nc:=by rw[hd3n.2];exact hcl
     have hxl:x<2*(d3.nv+1):=by rw[hd3n.1];exact HXL.out.1
     have hnv3:d3.nv=d0.nv:=hd3n.1.trans hnv;have hncc:d3.nc≤99999999:=by omega
     clear s3 m3 hr3 HMV HL HD HBX hd3 hd3V hd3n x0 lbx HXL hnv hcn hcl HM hWd hol holI hc;have HLT:=hide hlit;obtain⟨bC,cC,hC,lC,qC,-⟩:=HL3.out.sw.clzR (by omega)
     have c2:w3.cell? ⟨g,2,none⟩=some (.slice (some ⟨bC,0,none⟩) d3.nc cC):=(HL3.out.sw.cell 2).trans (congrArg some hC);obtain⟨bL,cL,hv,lL,-,-,qL,-⟩:=HL3.out.sw.litR (c:=c) hcl3 (by rw[hlit];simp)
     have qc:w3.cell? ⟨bC,c*4,none⟩=some (a (kLit c)):=(qC c hcl3).1;rw[hv]at qc;have q0:w3.cell? ⟨bL,0,none⟩=some (.int .i32 (x:Nat)):=by have h9:=qL 0 (by rw[hlit];simp);simpa [hlit] using h9
     obtain⟨nl,hnl⟩:∃nl,(d3.C c).lits.length=nl:=⟨_,rfl⟩;have hnl0:0<nl:=by rw[← hnl,hlit];simp
     have hnl0I:(0:Int)<(nl:Int):=by omega
     rw[hnl]at qc;have hcI:(c:Int)<(d3.nc:Int):=by omega
     have x0:w3.cell? ⟨bx,0,none⟩=some (.int .i32 (c:Nat)):=cell_of_row w3 bx 0 _ _ (0,0) hb3;have lbx:bx<w3.heap.size:=(Array.getElem?_eq_some_iff.1 hb3).1;have hlg3:=HL3.out.sw.lt;have HB:=hide hb3;clear hC qC hv qL hnl hlit hb3;go_wp2_with fail
     go_quiet (fail)
     obtain⟨w4,hw4⟩:∃w4,w3.drewN nq=w4:=⟨_,rfl⟩;rw[hw4];have HL4:Hid (LI g d0 a0 I A U h gone w (some ⟨b,0,none⟩) n cap i k d3 a K X ((c,o)::R') w4):=by rw[← hw4];exact HL3.out.drewN _
     have hb4:w4.heap[bx]?=some (.cells #[.int .i32 (c:Nat),.int .i32 (o:Nat)] 133 (0,0)):=by rw[← hw4];exact HB.out
     clear HL3 HB hw4 c2 qc q0 x0 lbx hlg3 lC lL;have x0:w4.cell? ⟨bx,0,none⟩=some (.int .i32 (c:Nat)):=cell_of_row w4 bx 0 _ _ (0,0) hb4;have lbx:bx<w4.heap.size:=(Array.getElem?_eq_some_iff.1 hb4).1;obtain⟨v0,v1,y0,y1,z0,z1,lb4⟩:=HL4.out.cellk (by omega)
     have hbne:bx≠b:=by omega
     obtain⟨s5,m5,X',e5,hX5⟩:=HL4.out.setk (x:=x);obtain⟨w5,hw5⟩:∃w5,(w4.setCell ⟨b,k*2,none⟩ (.int .i32 (c:Nat))).setCell ⟨b,k*2+1,none⟩ (.int .i32 (x:Nat))=w5:=⟨_,rfl⟩;have hb5:w5.heap[bx]?=some (.cells #[.int .i32 (c:Nat),.int .i32 (o:Nat)] 133 (0,0)):=by
      rw[← hw5,heap_setCell_other _ ⟨b,k*2+1,none⟩ bx _ hbne,heap_setCell_other _ ⟨b,k*2,none⟩ bx _ hbne];exact hb4
     have x5:w5.cell? ⟨bx,0,none⟩=some (.int .i32 (c:Nat)):=cell_of_row w5 bx 0 _ _ (0,0) hb5;have lbx5:bx<w5.heap.size:=(Array.getElem?_eq_some_iff.1 hb5).1;have H5:Hid (SW w5 g (d3.wl gone ((d3.W gone).set k (c,x))) a∧Mo g d0 a0 w (d3.wl gone ((d3.W gone).set k (c,x))) a w5∧(d3.W gone).set k (c,x)=(K++[(c,x)])++X'++R'∧X'.length=X.length):=by rw[← hw5];exact⟨s5,m5,e5,hX5⟩
     obtain⟨bV,cV,hVv,lV,qV,-⟩:=H5.out.1.valR;have c6:w5.cell? ⟨g,6,none⟩=some (.slice (some ⟨bV,0,none⟩) (2*(d3.nv+1)) cV):=(H5.out.1.cell 6).trans (congrArg some hVv);have qx:w5.cell? ⟨bV,x,none⟩=some (.int .i8 (d3.V x)):=qV x hxl;have hlg5:=H5.out.1.lt;have hxI:(x:Int)<2*((d3.nv:Int)+1):=by omega
     have HW5:=hide hw5;have HVX:=hide (HL4.out.vi.bs.ti.va x hxl);clear hb4 hb5 s5 m5 e5 hX5 hVv qV;by_cases hx0:d3.V x=0
     ·
      have hr3:∀m∈r,d3.V m=-1:=HB3.out.resolve_left (by omega)
      have hfx:=HL4.out.rest HLT.out hr3;have h0x:vl d3.T x=0:=by rw[← HVX.out];exact hx0
      obtain⟨us,hus,hlo⟩:=HL4.out.low HLT.out hr3 (by omega) hncc
      have HAS:=hide <| assign_any g (d3.wl gone ((d3.W gone).set k (c,x))) a x (c:Int) us w5 H5.out.1 hxl (by show d3.nv≤5000;omega) (by show d3.T.length≤10000;have:=HL4.out.vi.bs.ti.len;omega) (by show d3.S.length≤10000;have:=HL4.out.vi.bs.ti.lenS;omega) hlo
      have HF:=hide (And.intro hfx (And.intro h0x hus));rw[hx0]at qx;clear hr3 hfx h0x hus hlo HVX HB3;go_wp2_with fail
      refine HAS.out.mono ?_;rintro e w6 ⟨rfl,hend⟩;obtain⟨d',a',hE⟩:=HL4.out.asgn (us:=us) (by rw[HLT.out];simp) HF.out.2.1 HF.out.1 HF.out.2.2 H5.out.2.2.1 H5.out.2.2.2 H5.out.2.1 hend
      have HE:=hide hE;clear hE hend HAS HF H5 HL4 HLT HW5 hw5 x0 lbx y0 y1 z0 z1 lb4 x5 lbx5 c6 qx hlg5 lV;go_wp2;go_roundw
      case rel=>exact⟨i+1,k+1,_,_,_,X',R',by go_num,by go_num,rfl,by omega,by omega,HE.out⟩
      case measure=>simp[intOf]<;>omega
     ·
      by_cases hx1:d3.V x=-1
      ·
       have hr3:∀m∈r,d3.V m=-1:=HB3.out.resolve_left (by omega)
       have hfx:=HL4.out.rest HLT.out hr3;have hxx:ng x∈d3.T:=(vl_neg HL4.out.vi.bs.ti.nd).1 (by rw[← HVX.out];exact hx1)
       have HFX:Hid (∀m∈(d3.C c).lits,ng m∈d3.T):=fun m hm=>by
        by_cases e9:m=x
        · rw[e9];exact hxx
        · exact hfx m hm e9
       rw[hx1]at qx;have hle5:((d3.wl gone ((d3.W gone).set k (c,x))).W gone).length=n:=by
        show (upd d3.W gone _ gone).length=n
        rw[upd_same,List.length_set];exact HL4.out.le
       have hln:n=i+1+R'.length:=by
        have h9:=HL4.out.le;rw[HL4.out.wg]at h9;have h8:=HL4.out.kl;have h7:=HL4.out.xl;simp only[List.length_append,List.length_cons]at h9;omega
       obtain⟨cur,cs,w6,hg6,hcs6,hsrc6,hone6,hfit6,hw6,s6,m6⟩:=H5.out.1.copyW (l:=gone) (b:=b) (cap:=cap) (t:=k+1) (f:=i+1) (m:=R'.length) (by show gone<2*(d3.nv+1);omega) (by rw[hle5];exact HL4.out.av) (by rw[hle5];omega) (by rw[hle5];omega)
       have H6:Hid (SW w6 g (d3.wl gone (cpy ((d3.W gone).set k (c,x)) (k+1) (i+1) R'.length)) a∧Mo g d0 a0 w (d3.wl gone (cpy ((d3.W gone).set k (c,x)) (k+1) (i+1) R'.length)) a w6):=by
        have m7:=H5.out.2.1.trans m6;simp only[upd_same]at s6 m7;have e9:∀L1 L2,(d3.wl gone L1).wl gone L2=d3.wl gone L2:=fun L1 L2=>by
         show ({ d3 with W:=upd (upd d3.W gone _) gone _ }:Dt)=_
         rw[upd_upd]
        rw[e9]at s6 m7;exact⟨s6,m7⟩
       have HSRC:=hide hsrc6;have HONE:=hide hone6;have hnc:n≤cap:=hcp;clear hr3 hfx hxx hx1 hx0 s6 m6 hsrc6 hone6 HVX HB3;obtain⟨m,hm⟩:∃m,R'.length=m:=⟨_,rfl⟩;rw[hm]at hln hcs6 H6;have HLN:=hide hln;have HMR:=hide hm;have hkn:k+1≤n:=by omega
       have hin:i+1≤n:=by omega
       obtain⟨k1,hk1⟩:∃k1,k1=k+1:=⟨_,rfl⟩;obtain⟨i1,hi1⟩:∃i1,i1=i+1:=⟨_,rfl⟩;have hk1I:(k:Int)+1=(k1:Int):=by omega
       have hi1I:(i:Int)+1=(i1:Int):=by omega
       have HK1:=hide hk1;have HI1:=hide hi1;have hknI:(k1:Int)≤(n:Int):=by omega
       have hinI:(i1:Int)≤(n:Int):=by omega
       have hk1n:k1≤n:=by omega
       have hi1n:i1≤n:=by omega
       have hcapI:(n:Int)≤(cap:Int):=by omega
       have hk1c:k1≤cap:=by omega
       have hi1c:i1≤cap:=by omega
       have hk1cI:(k1:Int)≤(cap:Int):=by omega
       have hi1cI:(i1:Int)≤(cap:Int):=by omega
       have hwi:IntKind.i64.wrap (i1:Int)=(i1:Int):=by rw[IntWalk.i64_left,IntWalk.wrap64_in _ (by omega)]
       have hkm:k1+m≤n:=by omega
       have HWK:Hid (IntKind.i64.wrap ((k1:Int)+(m:Int))=((k1+m:Nat):Int)):=by show _=_;rw[IntWalk.i64_left,IntWalk.wrap64_in _ (by omega)];omega
       have hkmI:(k1:Int)+(m:Int)≤(n:Int):=by omega
       rw[← hk1]at hw6 hfit6;rw[← hi1]at HSRC;clear hln hm hlt hltI hi hkn hin hk1 hi1;go_wp2_with fail
       go_cut [6] (fun v6 wx=>v6=.int .i64 ((k1+m:Nat))∧∃j,w6.drewN j=wx)
       case first =>
        by_cases hR:i1=n
        ·
         have hin2:i1=n:=hR;have hw6d:w5.drew.setRow b (List.take (k1*2) cur.toList++cs++List.drop (k1*2+cs.length) cur.toList).toArray=w6.drew:=(setRow_drew _ _ _).trans (congrArg World.drew hw6);have hgd:w5.drew.heap[b]?=some (.cells cur 133 (0,0)):=hg6;have HM0:Hid (m=0):=by have:=HLN.out;have:=HI1.out;show m=0;omega
         have HWD:=hide hw6d;have HGD:=hide hgd;clear hw6d hgd hw6 hg6 HSRC;have hc1:i1≤k1∨k1<i1:=by omega
         by_cases hi3:cap=i1
         ·
          have hcn:cap=n:=by omega
          subst hcn;by_cases hk3:cap=k1
          ·
           have HMN:Hid (m=Nat.min 0 0):=by have:=HM0.out;show m=min _ _;omega
           subst hk3;subst hi3;go_region_law (refine step_copy_sz rfl (.tmp 94) (.tmp 98) 131 131 rfl 133 2 uWl iWl2 (some ⟨b,0,none⟩) (some ⟨b,0,none⟩) 0 0 0 0 (by kernel_rfl) (by kernel_rfl) b (cap*2) cur 133 HGD.out m HMN.out cs hcs6 (fun h9=>absurd h9 (by have:=HM0.out;omega)) hfit6 HONE.out w6.drew HWD.out ?_)
           all_goals (go_wp2_with fail;go_meet)
           all_goals exact⟨congrArg _ HWK.out,1,rfl⟩
          ·
           have HMN:Hid (m=Nat.min 0 (cap - k1)):=by have:=HM0.out;show m=min _ _;omega
           subst hi3;go_region_law (refine step_copy_sz rfl (.tmp 94) (.tmp 98) 131 131 rfl 133 2 uWl iWl2 (some ⟨b,k1*2,none⟩) (some ⟨b,0,none⟩) (cap - k1) (cap - k1) 0 0 (by kernel_rfl) (by kernel_rfl) b (k1*2) cur 133 HGD.out m HMN.out cs hcs6 (fun h9=>absurd h9 (by have:=HM0.out;omega)) hfit6 HONE.out w6.drew HWD.out ?_)
           all_goals (go_wp2_with fail;go_meet)
           all_goals exact⟨congrArg _ HWK.out,1,rfl⟩
         ·
          have hk3:¬ (cap=k1):=by have:=HK1.out;have:=HI1.out;omega
          have HMN:Hid (m=Nat.min 0 (n - k1)):=by have:=HM0.out;show m=min _ _;omega
          subst hR;have HMN:Hid (m=Nat.min 0 (i1 - k1)):=HMN;go_region_law (refine step_copy_sz rfl (.tmp 94) (.tmp 98) 131 131 rfl 133 2 uWl iWl2 (some ⟨b,k1*2,none⟩) (some ⟨b,i1*2,none⟩) (i1 - k1) (cap - k1) 0 (cap - i1) (by kernel_rfl) (by kernel_rfl) b (k1*2) cur 133 HGD.out m HMN.out cs hcs6 (fun h9=>absurd h9 (by have:=HM0.out;omega)) hfit6 HONE.out w6.drew HWD.out ?_)
          all_goals (go_wp2_with fail;go_meet)
          all_goals exact⟨congrArg _ HWK.out,1,rfl⟩
        ·
         have hk2:¬ (k1=cap):=by have:=HK1.out;have:=HI1.out;omega
         have hi2:¬ (i1=cap):=by omega
         have hk3:¬ (cap=k1):=by omega
         have hi3:¬ (cap=i1):=by omega
         have hw6d:w5.drew.setRow b (List.take (k1*2) cur.toList++cs++List.drop (k1*2+cs.length) cur.toList).toArray=w6.drew:=(setRow_drew _ _ _).trans (congrArg World.drew hw6);have hmn:m=Nat.min (n - i1) (n - k1):=by have:=HLN.out;have:=HK1.out;have:=HI1.out;show m=min _ _;omega
         have hgd:w5.drew.heap[b]?=some (.cells cur 133 (0,0)):=hg6;have HSD:Hid (∀j v,cs[j]?=some v→w5.drew.cell? ((⟨b,i1*2,none⟩:Addr).add j)=some v):=HSRC.out;have HMN:=hide hmn;have HWD:=hide hw6d;have HGD:=hide hgd;clear hmn hw6d hgd hw6 hg6 HSRC;go_region_law (refine step_copy_sz rfl (.tmp 94) (.tmp 98) 131 131 rfl 133 2 uWl iWl2 (some ⟨b,k1*2,none⟩) (some ⟨b,i1*2,none⟩) (n - k1) (cap - k1) (n - i1) (cap - i1) (by kernel_rfl) (by kernel_rfl) b (k1*2) cur 133 HGD.out m HMN.out cs hcs6 (fun _=>⟨rfl,_,rfl,HSD.out⟩) hfit6 HONE.out w6.drew HWD.out ?_)
         all_goals (go_wp2_with fail;go_meet)
         all_goals exact⟨congrArg _ HWK.out,1,rfl⟩
       case rest =>
        obtain⟨rfl,j,hj⟩:=hcut;have hWd:a kWat=.slice (some ⟨bW,0,none⟩) (2*(d3.nv+1)) cW:=by rw[hnv3];exact (HL4.out.mo.ad kWat trivial).trans HWT.out
        have H7:Hid (SW wc g (d3.wl gone (cpy ((d3.W gone).set k (c,x)) (k+1) (i+1) m)) a∧Mo g d0 a0 w (d3.wl gone (cpy ((d3.W gone).set k (c,x)) (k+1) (i+1) m)) a wc):=by rw[← hj];exact⟨H6.out.1.drewN _,H6.out.2.drewN _⟩
        have h8:VsEnd g d0 a0 I A U h w (.returned (.int .i64 (c:Nat))) (wc.setCell ⟨bW,gone,none⟩ (.slice (some ⟨b,0,none⟩) (k+1+R'.length) cap)):=HL4.out.clash (wa:=w4) (by rw[HLT.out];simp) HFX.out hWd H5.out.2.2.1 H5.out.2.2.2 (by rw[HMR.out];exact H7.out.1) (by rw[HMR.out];exact H7.out.2)
        rw[HMR.out,← HK1.out]at h8;have HE:=hide h8;obtain⟨bW',cW',hW',lW,qW,zW⟩:=H7.out.1.watR;have e9:=hWd.symm.trans hW';have e8:bW=bW'∧cW=cW':=by
         have e7:Value.slice (some ⟨bW,0,none⟩) (2*(d3.nv+1)) cW=Value.slice (some ⟨bW',0,none⟩) (2*(d3.nv+1)) cW':=e9;simp only[Value.slice.injEq,Option.some.injEq,Addr.mk.injEq]at e7;exact⟨e7.1.1,e7.2.2⟩
        obtain⟨rfl,rfl⟩:=e8;have c7:wc.cell? ⟨g,7,none⟩=some (.slice (some ⟨bW,0,none⟩) (2*(d3.nv+1)) cW):=(H7.out.1.cell 7).trans (congrArg some hWd);have qg:wc.cell? ⟨bW,gone,none⟩=some (a (kWl gone)):=qW gone (by show gone<2*(d3.nv+1);omega)
        have zg:=zW gone;have hg3:gone<2*(d3.nv+1):=by omega
        have hg3I:(gone:Int)<2*((d3.nv:Int)+1):=by omega
        have hlgc:=H7.out.1.lt;have hkmc:k1+m≤cap:=by omega
        have hkmcI:(k1:Int)+(m:Int)≤(cap:Int):=by omega
        generalize a (kWl gone)=v9 at qg;clear h8 hj hWd hW' qW zW e9 H7 H6 HL4 HLT H5 HFX HSRC HONE hg6 hcs6 hfit6 hw6 HMR HLN HW5 hw5 x0 lbx y0 y1 z0 z1 lb4 x5 lbx5 c6 qx hlg5 lV;go_wp2_with fail
        go_region
        go_wp2;go_ret
        exact HE.out.drew
      ·
       have hT1:x∈d3.T:=by
        have h9:=HVX.out;unfold vl at h9;split at h9
        · assumption
        ·
         split at h9
         · exact absurd h9 hx1
         · exact absurd h9 hx0
       have hx2:d3.V x=1:=by rw[HVX.out];exact vl_one.2 hT1
       obtain⟨X2,hE⟩:=HL4.out.true_ (x:=x) (by rw[HLT.out];simp) hT1
       rw[hw5]at hE;have HE:=hide hE;rw[hx2]at qx;clear hE hT1 hx2 hx0 hx1 HVX HB3 H5 HL4 HLT;go_wp2;go_roundw
       case rel=>exact⟨i+1,k+1,_,_,_,X2,R',by go_num,by go_num,rfl,by omega,by omega,HE.out⟩
       case measure=>simp[intOf]<;>omega
    ·
     have HE:=hide (HD.out.1.moved HL.out.1 HL.out.2 hj hj3 s3 m3 ha3);clear hx3 hj3 s3 m3 ha3 x0 lbx HMV HL HD HBX;go_wp2;go_roundw
     case rel=>exact⟨i+1,k,_,_,_,_,R',by go_num,rfl,rfl,by omega,by omega,HE.out⟩
     case measure=>simp[intOf]<;>omega
  ·
   have hltI:¬ ((i:Int)<(n:Int)):=by omega
   obtain rfl:i=n:=by omega
   have HE:=hide (H.out.fin hWd);obtain⟨bW',cW',hW',lW,qW,zW⟩:=H.out.sw.watR;have e9:=hWd.symm.trans hW';have e8:bW=bW'∧cW=cW':=by
    have e7:Value.slice (some ⟨bW,0,none⟩) (2*(d.nv+1)) cW=Value.slice (some ⟨bW',0,none⟩) (2*(d.nv+1)) cW':=e9;simp only[Value.slice.injEq,Option.some.injEq,Addr.mk.injEq]at e7;exact⟨e7.1.1,e7.2.2⟩
   obtain⟨rfl,rfl⟩:=e8;have c7:wl.cell? ⟨g,7,none⟩=some (.slice (some ⟨bW,0,none⟩) (2*(d.nv+1)) cW):=(H.out.sw.cell 7).trans (congrArg some hWd);have qg:wl.cell? ⟨bW,gone,none⟩=some (.slice q i cap):=(qW gone (by omega)).trans (congrArg some H.out.av)
   have zg:=zW gone;have hg3:gone<2*(d.nv+1):=by omega
   have hg3I:(gone:Int)<2*((d.nv:Int)+1):=by omega
   have hlgc:=H.out.sw.lt;have hkc:k≤cap:=by omega
   have hkcI:(k:Int)≤(cap:Int):=by omega
   have hkiI:(k:Int)≤(i:Int):=by omega
   clear hWd hW' qW zW e9 H;cases q with
   | none =>
    obtain⟨rfl,rfl⟩:=HQ.out.1 rfl;obtain rfl:k=0:=by omega
    go_wp2_with fail
    go_region
    go_wp2;go_ret
    exact HE.out.drew
   | some p =>
    obtain⟨b,off,sp⟩:=p;obtain⟨h8,h9⟩:=HQ.out.2 _ rfl;simp only at h8 h9;subst h8 h9;go_wp2_with fail
    go_region
    go_wp2;go_ret
    exact HE.out.drew
end Sat
namespace Sat
open Euf (OL App)
structure Sf (d0 d:Dt):Prop where
  eq:d={ d0 with nc:=d.nc,C:=d.C,V:=d.V,W:=d.W,F:=d.F,T:=d.T,head:=d.head,clash:=d.clash }
  pre:∃Y,d.T=d0.T++Y
  mr:∀v,(d.F v).mark=(d0.F v).mark
  le:d0.nc≤d.nc
  ol:∀c,c<d0.nc→∀m,m∈(d.C c).lits↔m∈(d0.C c).lits
theorem Sf.refl (d:Dt):Sf d d:=⟨rfl,⟨[],by simp⟩,fun _=>rfl,Nat.le_refl _,fun _ _ _=>Iff.rfl⟩
theorem Sf.trans {d0 d1 d2:Dt} (h:Sf d0 d1) (k:Sf d1 d2):Sf d0 d2:=by
 refine⟨?_,?_,fun v=>(k.mr v).trans (h.mr v),Nat.le_trans h.le k.le,fun c hc m=>(k.ol c (Nat.lt_of_lt_of_le hc h.le) m).trans (h.ol c hc m)⟩
 · rw[k.eq,h.eq]
 · obtain⟨Y,e⟩:=h.pre;obtain⟨Z,e2⟩:=k.pre;exact⟨Y++Z,by rw[e2,e,List.append_assoc]⟩
theorem Sm.sf {d0 d:Dt} (h:Sm d0 d):Sf d0 d:=⟨by rw[h.eq],h.pre,h.mr,h.le,h.ol⟩
theorem Sf.head (d:Dt) (x:Nat):Sf d { d with head:=x }:=⟨rfl,⟨[],by simp⟩,fun _=>rfl,Nat.le_refl _,fun _ _ _=>Iff.rfl⟩
theorem Sf.clash (d:Dt) (x:Int):Sf d { d with clash:=x }:=⟨rfl,⟨[],by simp⟩,fun _=>rfl,Nat.le_refl _,fun _ _ _=>Iff.rfl⟩
theorem Sf.nv {d0 d:Dt} (h:Sf d0 d):d.nv=d0.nv:=by rw[h.eq]
theorem Sf.S {d0 d:Dt} (h:Sf d0 d):d.S=d0.S:=by rw[h.eq]
theorem Bs.same {d:Dt} {I:List (List Nat)} {A:Nat} {Q U:List Nat} (b:Bs d I A Q U) {d':Dt} (h1:d'.nv=d.nv) (h2:d'.V=d.V) (h3:d'.T=d.T) (h4:d'.S=d.S) (h5:d'.F=d.F) (h6:d'.nc=d.nc) (h7:d'.C=d.C):Bs d' I A Q U :=
  ⟨by rw[h1,h2,h3,h4,h5,h6,h7];exact b.ti,by rw[h1,h6,h7];exact b.ci,by rw[h6,h7];exact b.uc,by rw[h3];exact b.ut,by rw[h6,h7];exact b.dv,by rw[h6,h3,h4];exact b.cn⟩
def FI (d:Dt) (U:List Nat):Prop :=
  (d.clash=-1∧SI d.nv d.V d.T d.S d.F d.nc d.C d.W d.head [] U)∨∃c:Nat,d.clash=(c:Int)∧c<d.nc∧d.S=[]∧∀m∈(d.C c).lits,ng m∈d.T
def FoEnd (g:Nat) (d0:Dt) (a0:Key→Value) (I:List (List Nat)) (A:Nat) (U:List Nat) (w:World) (e:Ending) (w':World):Prop :=
  ∃d a,SW w' g d a∧Mo g d0 a0 w d a w'∧Sf d0 d∧Bs d I A [] U ∧
    ((e=.returned (.int .i64 (-1))∧d.clash=-1∧d.head=d.T.length∧SI d.nv d.V d.T d.S d.F d.nc d.C d.W d.T.length [] U) ∨
     ∃c:Nat,e=.returned (.int .i64 (c:Nat))∧c<d.nc∧(∀m∈(d.C c).lits,ng m∈d.T)∧((d.S=[]∧d.clash=(c:Int))∨(d.S≠[]∧d.clash=-1∧∃h,SI d.nv d.V d.T d.S d.F d.nc d.C d.W h [] U)))
theorem FoEnd.drewN {g:Nat} {d0:Dt} {a0:Key→Value} {I:List (List Nat)} {A:Nat} {U:List Nat} {w:World} {e:Ending} {w':World} (H:FoEnd g d0 a0 I A U w e w') (n:Nat):FoEnd g d0 a0 I A U w e (w'.drewN n):=by
 obtain⟨d,a,s,m,r⟩:=H;exact⟨d,a,s.drewN n,m.drewN n,r⟩
set_option maxRecDepth 20000 in
set_option maxHeartbeats 16000000 in
theorem follow_any (g:Nat) (d0:Dt) (a0:Key→Value) (I:List (List Nat)) (A:Nat) (U:List Nat) (w:World) (hw:SW w g d0 a0) (hb:Bs d0 I A [] U) (hi:FI d0 U) (hn:d0.nv≤5000) (hA:A≤90000000) :
  Calls Tryz.prog 65 #[.pointer (some ⟨g,0,none⟩)] w fun e w'=>FoEnd g d0 a0 I A U w e w':=by
 have H0:=hide (And.intro hw (And.intro hb hi));clear hw hb hi;go_enter Tryz.func65,Tryz.ntmps65;go_wp2;go_loopg [4] (d0.nv+1 - d0.head) (fun gk v4 wr=>∃(d:Dt) (a:Key→Value),Hid (d.nv+1 - d.head=gk∧SW wr g d a∧Mo g d0 a0 w d a wr∧Sf d0 d∧Bs d I A [] U∧FI d U))
 case atStart=>exact⟨d0,a0,rfl,H0.out.1,Mo.refl _ _ _ _,Sf.refl _,H0.out.2.1,H0.out.2.2⟩
 case round =>
  rename World=>wl
  clear H0;obtain⟨d,a,H⟩:=hrel;have hnv:d.nv=d0.nv:=H.out.2.2.2.1.nv;have hlg:=H.out.2.1.lt;have c4:wl.cell? ⟨g,4,none⟩=some (.int .i64 d.clash):=H.out.2.1.cell 4;rcases H.out.2.2.2.2.2 with⟨hc,hs⟩|⟨c,hc,hcl,hS,hf⟩
  ·
   obtain⟨qT,cT,hTv,-,-,-⟩:=H.out.2.1.len (k:=kTra) (by exact⟨by decide,rfl⟩)
   have c9:wl.cell? ⟨g,9,none⟩=some (.slice qT d.T.length cT):=(H.out.2.1.cell 9).trans (congrArg some hTv);have c11:wl.cell? ⟨g,11,none⟩=some (.int .i64 (d.head:Nat)):=H.out.2.1.cell 11;have hTl:=H.out.2.2.2.2.1.ti.len;by_cases hlt:d.head<d.T.length
   ·
    have hltI:(d.head:Int)<(d.T.length:Int):=by omega
    obtain⟨bT,cT',hT',lT,-,-,qT',-⟩:=H.out.2.1.traR (by omega)
    have e1:=hTv.symm.trans hT';have e2:qT=some ⟨bT,0,none⟩∧cT=cT':=by
     have e3:Value.slice qT d.T.length cT=Value.slice (some ⟨bT,0,none⟩) d.T.length cT':=e1;simp only[Value.slice.injEq]at e3;exact⟨e3.1,e3.2.2⟩
    obtain⟨rfl,rfl⟩:=e2;have qh:=qT' d.head hlt;have hok:=H.out.2.2.2.2.1.ti.ok _ (List.getElem_mem hlt);have HV:Hid (VI { d with head:=d.head+1 } I A U d.head (ng d.T[d.head]) [] (d.W (ng d.T[d.head]))):=⟨H.out.2.2.2.2.1.same rfl rfl rfl rfl rfl rfl rfl,hs.visit hlt,by rw[ng_ng];exact List.getElem?_eq_getElem hlt,hs.hs⟩
    obtain⟨l,hl⟩:∃l,d.T[d.head]=l:=⟨_,rfl⟩;rw[hl]at qh hok HV;rw[hc]at c4;have hl2:l<20000:=by omega
    have HCC:=hide hc;clear hs e1 hTv hT' qT' hl hc;go_wp2_with fail
    go_quiet (fail)
    obtain⟨w1,hw1⟩:∃w1,wl.drewN nq=w1:=⟨_,rfl⟩;rw[hw1];have H1:Hid (SW w1 g d a∧Mo g d0 a0 w d a w1):=by rw[← hw1];exact⟨H.out.2.1.drewN _,H.out.2.2.1.drewN _⟩
    have c9':w1.cell? ⟨g,9,none⟩=some (.slice (some ⟨bT,0,none⟩) d.T.length cT):=by rw[← hw1];exact c9
    have c11':w1.cell? ⟨g,11,none⟩=some (.int .i64 (d.head:Nat)):=by rw[← hw1];exact c11
    have qh':w1.cell? ⟨bT,d.head,none⟩=some (.int .i32 (l:Nat)):=by rw[← hw1];exact qh
    have hlg1:=H1.out.1.lt;have lT1:bT<w1.heap.size:=by rw[← hw1];exact lT
    clear hw1 c9 c11 qh hlg c4 lT;go_wp2_with fail
    go_quiet (fail)
    obtain⟨w2,hw2⟩:∃w2,w1.drewN nq=w2:=⟨_,rfl⟩;rw[hw2];have H2:Hid (SW w2 g d a∧Mo g d0 a0 w d a w2):=by rw[← hw2];exact⟨H1.out.1.drewN _,H1.out.2.drewN _⟩
    have c11:w2.cell? ⟨g,11,none⟩=some (.int .i64 (d.head:Nat)):=H2.out.1.cell 11;have z11:=H2.out.1.frozen 11;have hlg2:=H2.out.1.lt;have hS3:=hide (H2.out.1.head_ (d.head+1));have hh1:(d.head:Int)+1=((d.head+1:Nat):Int):=by omega
    obtain⟨h1,hh⟩:∃h1,h1=d.head+1:=⟨_,rfl⟩;rw[← hh]at hS3 hh1 HV;have HH:=hide hh;have hwr:IntKind.i64.wrap ((d.head:Int)+1)=(h1:Int):=by rw[IntWalk.i64_left,IntWalk.wrap64_in _ (by omega)];omega
    clear hw2 c9' c11' qh' hlg1 lT1 H1 hh;go_wp2_with (first|(go_at_call 72;refine (opposite_any l _ hl2).mono ?_;rintro e w9 ⟨rfl,hw9⟩;obtain rfl:=hw9.symm)|fail)
    refine (visit_any g { d with head:=h1 } a I A U d.head (ng l) _ hS3.out.1 HV.out (by show d.nv≤5000;omega) hA).mono ?_
    rintro e w3 ⟨d3,a3,s3,m3,sm3,b3,hcase⟩;have hSd:d3.S=d.S:=sm3.S;have hnv3:d3.nv=d.nv:=sm3.nv;have hcl3:d3.clash=-1:=by rw[sm3.eq];exact HCC.out
    have hhd3:d3.head=h1:=by rw[sm3.eq]
    have H3:Hid (SW w3 g d3 a3∧Mo g d0 a0 w d3 a3 w3∧Sf d0 d3∧Bs d3 I A [] U):=⟨s3,(H2.out.2.trans hS3.out.2).trans m3,(H.out.2.2.2.1.trans (Sf.head d h1)).trans sm3.sf,b3⟩;have HGK:Hid (d3.nv+1 - d3.head<gk):=by
     have h9:=H.out.1;have h8:=HH.out;show _<_
     rw[hnv3,hhd3];omega
    have hl3:=s3.lt;obtain⟨qS,cS,hSv,-,-,-⟩:=s3.len (k:=kSta) (by exact⟨by decide,rfl⟩)
    have c10:w3.cell? ⟨g,10,none⟩=some (.slice qS d3.S.length cS):=(s3.cell 10).trans (congrArg some hSv);clear s3 m3 sm3 b3 hSv hS3 HV H2 c11 z11 hlg2 hwr hh1;rcases hcase with⟨rfl,si⟩|⟨c,rfl,hc3,hf3,si⟩
    ·
     have HE:Hid (FI d3 U):=Or.inl ⟨hcl3,by rw[hhd3,HH.out];exact si⟩
     clear si;go_wp2;go_roundg (d3.nv+1 - d3.head)
     case measure=>exact HGK.out
     case rel=>exact⟨d3,a3,rfl,H3.out.1,H3.out.2.1,H3.out.2.2.1,H3.out.2.2.2,HE.out⟩
    ·
     have hcB:((c:Int) != -1)=true:=by simp<;>omega
     have hcI:¬ ((c:Int)=-1):=by omega
     by_cases hSe:d3.S=[]
     ·
      have hS0:d3.S.length=0:=by rw[hSe];rfl
      rw[hS0]at c10;have c4:w3.cell? ⟨g,4,none⟩=some (.int .i64 d3.clash):=H3.out.1.cell 4;rw[hcl3]at c4;have z4:=H3.out.1.frozen 4;have HS4:=hide (H3.out.1.clash_ (c:Int));have HE:Hid (FI { d3 with clash:=(c:Int) } U):=Or.inr ⟨c,rfl,hc3,hSe,hf3⟩;clear si hf3 hSe;go_wp2;go_roundg (d3.nv+1 - d3.head)
      case measure=>exact HGK.out
      case rel=>exact⟨{ d3 with clash:=(c:Int) },a3,rfl,HS4.out.1,H3.out.2.1.trans HS4.out.2,H3.out.2.2.1.trans (Sf.clash d3 c),H3.out.2.2.2.same rfl rfl rfl rfl rfl rfl rfl,HE.out⟩
     ·
      obtain⟨ns,hns⟩:∃ns,d3.S.length=ns:=⟨_,rfl⟩;have hnn:¬ (ns=0):=by
       intro e;exact hSe (List.length_eq_zero_iff.1 (by omega))
      rw[hns]at c10;have hS0:¬ ((ns:Int)=0):=by omega
      have hS1:((ns:Int) == 0)=false:=by simpa using hS0
      clear hns;have HE:Hid (FoEnd g d0 a0 I A U w (.returned (.int .i64 (c:Nat))) w3):=⟨d3,a3,H3.out.1,H3.out.2.1,H3.out.2.2.1,H3.out.2.2.2,Or.inr ⟨c,rfl,hc3,hf3,Or.inr ⟨hSe,hcl3,d.head,si⟩⟩⟩;clear si hf3 hSe;go_wp2;go_ret
      exact HE.out
   ·
    have hltI:¬ ((d.head:Int)<(d.T.length:Int)):=by omega
    have hhl:d.head=d.T.length:=Nat.le_antisymm hs.hl (by omega)
    have HE:Hid (FoEnd g d0 a0 I A U w (.returned (.int .i64 (-1))) wl):=⟨d,a,H.out.2.1,H.out.2.2.1,H.out.2.2.2.1,H.out.2.2.2.2.1,Or.inl ⟨rfl,hc,hhl,by rw[← hhl];exact hs⟩⟩
    rw[hc]at c4;clear hs hc hTv hhl;go_wp2_with fail
    go_quiet (fail)
    go_wp2;go_ret
    exact HE.out.drewN _
  ·
   have hcB:((c:Int) == -1)=false:=by simp<;>omega
   have hcI:¬ ((c:Int)=-1):=by omega
   have hcD:decide ((c:Int)=-1)=false:=by simp<;>omega
   have HE:Hid (FoEnd g d0 a0 I A U w (.returned (.int .i64 (c:Nat))) wl):=⟨d,a,H.out.2.1,H.out.2.2.1,H.out.2.2.2.1,H.out.2.2.2.2.1,Or.inr ⟨c,rfl,hcl,hf,Or.inl ⟨hS,hc⟩⟩⟩;rw[hc]at c4;clear hf hc hS;go_wp2_with fail
   go_quiet (fail)
   go_wp2;go_ret
   exact HE.out.drewN _
end Sat
namespace Sat
section
variable {nv:Nat} {V:Nat→Int} {T S:List Nat} {F:Nat→Fc} {nc:Nat} {C:Nat→Cl} {W:Nat→List (Nat × Nat)} {h:Nat} {Q Q' U U':List Nat}
def QF (nv:Nat) (W:Nat→List (Nat × Nat)) (Q:List Nat):Prop:=∀l,l<2*(nv+1)→∀p∈W l,p.1 ∉ Q
theorem WI.permQ (wi:WI nv nc C W) (qf:QF nv W Q) {c:Nat} {L:List Nat} (hc:c∈Q):WI nv nc (upd C c { C c with lits:=L }) W :=
  ⟨fun l hl p hp=>by
    have hne:p.1≠c:=fun e=>qf l hl p hp (e ▸ hc)
    rw[upd_other _ _ hne];exact wi.w1 l hl p hp,wi.w2⟩
theorem SI.permQ (s:SI nv V T S F nc C W h Q U) (qf:QF nv W Q) {c:Nat} {L:List Nat} (hc:c∈Q) (hp:L.Perm (C c).lits):SI nv V T S F nc (upd C c { C c with lits:=L }) W h Q U:=by
 have ne:∀x,x ∉ Q→x≠c:=fun x hx e=>hx (e ▸ hc)
 refine { ti:=s.ti.perm hp,ci:=s.ci.perm hp,wi:=s.wi.permQ qf hc,w4:=fun l hl p hp'=>(s.w4 l hl p hp').perm hp,he:=fun x h1 h2=>?_,fr:=fun x h1 h2 y hy=>(s.fr x h1 h2 y hy).perm hp,hl:=s.hl,hs:=s.hs,uc:=fun x h1 h2=>?_,ut:=s.ut }
 · have h9:=s.he x h1 h2;unfold Held at h9 ⊢;rw[upd_other _ _ (ne x h2)];exact h9
 · rw[upd_other _ _ (ne x h2)];exact s.uc x h1 h2
theorem SI.moreU (s:SI nv V T S F nc C W h Q U) (hU:∀u∈U,u∈U'):SI nv V T S F nc C W h Q U' :=
  { s with uc:=fun c h1 h2 m hm=>hU _ (s.uc c h1 h2 m hm),ut:=fun t ht=>hU _ (s.ut t ht) }
theorem SI.low_ (s:SI nv V T [] F nc C W h Q U) {c m:Nat} (hq:∀x,x∈Q→x=c∨x∈Q') (hm:m∈(C c).lits) (hT:m∈T) (hU:∀m∈(C c).lits,m / 2∈U):SI nv V T [] F nc C W h Q' U:=by
 have lo:low T [] m:=by
  obtain⟨i,hi,e⟩:=List.mem_iff_getElem.1 hT;exact⟨i,by rw[List.getElem?_eq_getElem hi,e],rfl⟩
 have nq:∀x,x ∉ Q'→x≠c→x ∉ Q:=fun x h1 h2 h3=>(hq x h3).elim h2 h1
 refine { s with he:=fun x h1 h2=>?_,fr:=fun x h1 h2 y hy=>(by cases hy),uc:=fun x h1 h2=>?_ }
 ·
  by_cases e:x=c
  · subst e;exact Or.inr ⟨m,hm,lo⟩
  · exact s.he x h1 (nq x h2 e)
 ·
  by_cases e:x=c
  · subst e;exact hU
  · exact s.uc x h1 (nq x h2 e)
theorem wt_mem {a b c l:Nat} {p:Nat × Nat} (hp:p∈upd (upd W a (W a++[(c,b)])) b (W b++[(c,a)]) l) (ab:a≠b):p∈W l∨(l=a∧p=(c,b))∨(l=b∧p=(c,a)):=by
 by_cases e:l=b
 ·
  subst e;rw[upd_same]at hp;rcases List.mem_append.1 hp with hp|hp
  · exact Or.inl hp
  · simp at hp;exact Or.inr (Or.inr ⟨rfl,hp⟩)
 ·
  rw[upd_other _ _ e]at hp;by_cases e2:l=a
  ·
   subst e2;rw[upd_same]at hp;rcases List.mem_append.1 hp with hp|hp
   · exact Or.inl hp
   · simp at hp;exact Or.inr (Or.inl ⟨rfl,hp⟩)
  · rw[upd_other _ _ e2]at hp;exact Or.inl hp
theorem wt_keep {a b c l x:Nat} (ab:a≠b) (hc:x∈(W l).map Prod.fst):x∈((upd (upd W a (W a++[(c,b)])) b (W b++[(c,a)])) l).map Prod.fst:=by
 by_cases e:l=b
 · subst e;rw[upd_same,List.map_append];exact List.mem_append_left _ hc
 ·
  rw[upd_other _ _ e];by_cases e2:l=a
  · subst e2;rw[upd_same,List.map_append];exact List.mem_append_left _ hc
  · rw[upd_other _ _ e2];exact hc
theorem WI.watch (wi:WI nv nc C W) {c a b:Nat} {r:List Nat} (hc:c<nc) (hL:(C c).lits=a::b::r) (ab:a≠b) (hn:∀l,l<2*(nv+1)→c ∉ (W l).map Prod.fst):WI nv nc C (upd (upd W a (W a++[(c,b)])) b (W b++[(c,a)])):=by
 refine⟨fun l hl p hp=>?_,fun l hl=>?_⟩
 ·
  rcases wt_mem hp ab with hp|⟨rfl,rfl⟩|⟨rfl,rfl⟩
  · exact wi.w1 l hl p hp
  · exact⟨hc,⟨l,b,⟨r,hL⟩,Or.inl rfl⟩,by rw[hL];simp⟩
  · exact⟨hc,⟨a,l,⟨r,hL⟩,Or.inr rfl⟩,by rw[hL];simp⟩
 ·
  have h9:=wi.w2 l hl;by_cases e:l=b
  · subst e;rw[upd_same,List.map_append,List.nodup_append];exact⟨h9,by simp,fun y hy z hz=>by simp at hz;subst hz;rintro rfl;exact hn _ hl hy⟩
  ·
   rw[upd_other _ _ e];by_cases e2:l=a
   · subst e2;rw[upd_same,List.map_append,List.nodup_append];exact⟨h9,by simp,fun y hy z hz=>by simp at hz;subst hz;rintro rfl;exact hn _ hl hy⟩
   · rw[upd_other _ _ e2];exact h9
theorem QF.watch (qf:QF nv W Q) {c a b:Nat} (ab:a≠b) (hq:∀x∈Q',x∈Q∧x≠c):QF nv (upd (upd W a (W a++[(c,b)])) b (W b++[(c,a)])) Q':=by
 intro l hl p hp hx;rcases wt_mem hp ab with hp|⟨rfl,rfl⟩|⟨rfl,rfl⟩
 · exact qf l hl p hp (hq _ hx).1
 · exact (hq _ hx).2 rfl
 · exact (hq _ hx).2 rfl
theorem QF.less (qf:QF nv W Q) (hq:∀x∈Q',x∈Q):QF nv W Q':=fun l hl p hp hx=>qf l hl p hp (hq _ hx)
theorem QF.not (qf:QF nv W Q) {c:Nat} (hc:c∈Q):∀l,l<2*(nv+1)→c ∉ (W l).map Prod.fst:=fun l hl hh=>by
  obtain⟨p,hp,e⟩:=List.mem_map.1 hh
  exact qf l hl p hp (e ▸ hc)
theorem SI.watch (s:SI nv V T [] F nc C W h Q U) (qf:QF nv W Q) {c a b:Nat} {r:List Nat} (hc:c<nc) (hcq:c∈Q) (hq:∀x,x∈Q→x=c∨x∈Q') (hL:(C c).lits=a::b::r) (ha:ng a ∉ T) (hb:ng b ∉ T) (hU:∀m∈(C c).lits,m / 2∈U) :
  SI nv V T [] F nc C (upd (upd W a (W a++[(c,b)])) b (W b++[(c,a)])) h Q' U:=by
 have ab:a≠b:=fun e=>by have:=s.ci.nd c hc;rw[hL,e]at this;simp at this
 have nq:∀x,x ∉ Q'→x≠c→x ∉ Q:=fun x h1 h2 h3=>(hq x h3).elim h2 h1
 refine { ti:=s.ti,ci:=s.ci,wi:=s.wi.watch hc hL ab (qf.not hcq),w4:=?_,he:=fun x h1 h2=>?_,fr:=fun x h1 h2 y hy=>(by cases hy),hl:=s.hl,hs:=fun x hx=>(by cases hx),uc:=fun x h1 h2=>?_,ut:=s.ut }
 ·
  intro l hl p hp;rcases wt_mem hp ab with hp|⟨rfl,rfl⟩|⟨rfl,rfl⟩
  · exact s.w4 l hl p hp
  · intro i hi he;exact absurd (List.mem_of_getElem? he) ha
  · intro i hi he;exact absurd (List.mem_of_getElem? he) hb
 ·
  by_cases e:x=c
  ·
   subst e;refine Or.inl ⟨a,b,⟨r,hL⟩,?_,?_⟩
   · rw[upd_other _ _ ab,upd_same];simp
   · rw[upd_same];simp
  · exact (s.he x h1 (nq x h2 e)).lists (fun l hl=>wt_keep ab hl)
 ·
  by_cases e:x=c
  · subst e;exact hU
  · exact s.uc x h1 (nq x h2 e)
theorem SI.low' (s:SI nv V T S F nc C W h Q U) (hS:S=[]) {c m:Nat} (hq:∀x,x∈Q→x=c∨x∈Q') (hm:m∈(C c).lits) (hT:m∈T) (hU:∀m∈(C c).lits,m / 2∈U):SI nv V T S F nc C W h Q' U:=by
 subst hS;exact s.low_ hq hm hT hU
theorem SI.watch' (s:SI nv V T S F nc C W h Q U) (hS:S=[]) (qf:QF nv W Q) {c a b:Nat} {r:List Nat} (hc:c<nc) (hcq:c∈Q) (hq:∀x,x∈Q→x=c∨x∈Q') (hL:(C c).lits=a::b::r) (ha:ng a ∉ T) (hb:ng b ∉ T) (hU:∀m∈(C c).lits,m / 2∈U) :
  SI nv V T S F nc C (upd (upd W a (W a++[(c,b)])) b (W b++[(c,a)])) h Q' U:=by
 subst hS;exact s.watch qf hc hcq hq hL ha hb hU
theorem SI.push0' (s:SI nv V T S F nc C W h Q U) (hS:S=[]) {l:Nat} {F':Nat→Fc} {nc':Nat} {C':Nat→Cl} {V':Nat→Int} (t:TI nv V' (T++[l]) S F' nc' C') (hn:nc'=nc∧C'=C∨nc'=nc+1∧∃x,x.lits=[l]∧C'=upd C nc x) (hl:2≤l∧l<2*(nv+1)) (hU:l / 2∈U) :
  SI nv V' (T++[l]) S F' nc' C' W h Q U:=by
 subst hS;exact s.push0 t hn hl hU
end
/-! ## Those that aren't false come first -/
theorem swap_perm {L:List Nat} {k i:Nat} (hk:k<L.length) (hi:i<L.length):((L.set k L[i]).set i L[k]).Perm L:=by
 apply List.perm_iff_count.2
 intro x;by_cases e:k=i
 · subst e;simp
 ·
  rw[List.count_set (by simpa using hi),List.count_set hk,List.getElem_set_ne (by omega)]
  have h1:∀j (hj:j<L.length),L[j]=x→0<L.count x:=fun j hj e=>List.count_pos_iff.2 (e ▸ List.getElem_mem hj)
  by_cases a:L[k]=x<;>by_cases b:L[i]=x<;>simp[a,b]<;>(first|(have:=h1 k hk a;omega)|(have:=h1 i hi b;omega))
structure AP (V:Nat→Int) (L0:List Nat) (i k:Nat) (L:List Nat):Prop where
  pe:L.Perm L0
  le:k≤i
  lo:∀j (hj:j<L.length),j<k→V L[j]≠-1
  hi:∀j (hj:j<L.length),k≤j→j<i→V L[j]=-1
  re:∀j,i≤j→L[j]?=L0[j]?
theorem AP.start (V:Nat→Int) (L0:List Nat):AP V L0 0 0 L0:=⟨List.Perm.refl _,Nat.le_refl _,fun j _ h=>absurd h (by omega),fun j _ _ h=>absurd h (by omega),fun _ _=>rfl⟩
section
variable {V:Nat→Int} {L0 L:List Nat} {i k:Nat}
theorem AP.len (a:AP V L0 i k L):L.length=L0.length:=a.pe.length_eq
theorem AP.at_ (a:AP V L0 i k L) (hi:i<L.length):L[i]=L0[i]'(by rw[← a.len];exact hi):=by
 have:=a.re i (Nat.le_refl _);rw[List.getElem?_eq_getElem hi,List.getElem?_eq_getElem (by rw[← a.len];exact hi)]at this
 exact Option.some.inj this
theorem AP.skip (a:AP V L0 i k L) (hi:i<L.length) (hV:V L[i]=-1):AP V L0 (i+1) k L :=
  ⟨a.pe,Nat.le_succ_of_le a.le,a.lo,fun j hj h1 h2=>by
    by_cases e:j=i
    · subst e;exact hV
    · exact a.hi j hj h1 (by omega),fun j hj=>a.re j (by omega)⟩
theorem AP.swap (a:AP V L0 i k L) (hi:i<L.length) (hV:V L[i]≠-1):AP V L0 (i+1) (k+1) ((L.set k L[i]).set i (L[k]'(Nat.lt_of_le_of_lt a.le hi))):=by
 have hk:k<L.length:=Nat.lt_of_le_of_lt a.le hi;have len:((L.set k L[i]).set i L[k]).length=L.length:=by simp
 have get:∀j (hj:j<L.length),((L.set k L[i]).set i L[k])[j]'(by rw[len];exact hj)=if j=i then L[k] else if j=k then L[i] else L[j]:=fun j hj=>by
  by_cases e:j=i
  · subst e;simp
  ·
   rw[List.getElem_set_ne (by omega),if_neg e]
   by_cases e2:j=k
   · subst e2;simp
   · rw[List.getElem_set_ne (by omega),if_neg e2]
 refine⟨(swap_perm hk hi).trans a.pe,by have:=a.le;omega,fun j hj h1=>?_,fun j hj h1 h2=>?_,fun j hj=>?_⟩
 ·
  rw[len]at hj;rw[get j hj];by_cases e:j=i
  ·
   rw[if_pos e];have:k=i:=by have:=a.le;omega
   subst this;exact hV
  ·
   rw[if_neg e];by_cases e2:j=k
   · rw[if_pos e2];exact hV
   · rw[if_neg e2];exact a.lo j hj (by omega)
 ·
  rw[len]at hj;rw[get j hj];by_cases e:j=i
  · rw[if_pos e];exact a.hi k hk (Nat.le_refl _) (by omega)
  · rw[if_neg e,if_neg (by omega)];exact a.hi j hj (by omega) (by omega)
 · rw[List.getElem?_set_ne (by omega),List.getElem?_set_ne (by have:=a.le;omega)];exact a.re j (by omega)
end
end Sat
namespace Sat
open Euf (OL App)
theorem lit_nat (v:Nat):lit (v:Int)=2*v:=by unfold lit;rw[if_neg (by omega)];omega
def NxEnd (g:Nat) (d:Dt) (a:Key→Value) (w:World) (e:Ending) (w':World):Prop :=
  ∃hp' at' a',SW w' g (d.ord hp' at') a'∧Mo g d a w (d.ord hp' at') a' w'∧OI d.nv hp' at'∧(∀u∈hp',u∈d.hp)∧(∀u∈d.hp,u ∉ hp'→d.V (2*u)≠0) ∧
    ((∃v∈hp',e=.returned (.int .i64 (v:Nat))∧d.V (2*v)=0)∨(hp'=[]∧e=.returned (.int .i64 (-1))))
set_option maxRecDepth 20000 in
set_option maxHeartbeats 16000000 in
theorem next_any (g:Nat) (d:Dt) (a:Key→Value) (w:World) (h:SW w g d a) (ho:OI d.nv d.hp d.at_) (hn:d.nv≤5000) :
  Calls Tryz.prog 69 #[.pointer (some ⟨g,0,none⟩)] w fun e w'=>NxEnd g d a w e w':=by
 have H0:=hide (And.intro h ho);clear h ho;go_enter Tryz.func69,Tryz.ntmps69;go_wp2;go_loopg [3] d.hp.length (fun gk v3 wr=>∃(hp':List Nat) (at':Nat→Nat) (a':Key→Value),Hid (hp'.length=gk∧SW wr g (d.ord hp' at') a'∧Mo g d a w (d.ord hp' at') a' wr∧OI d.nv hp' at'∧(∀u∈hp',u∈d.hp)∧(∀u∈d.hp,u ∉ hp'→d.V (2*u)≠0)))
 case atStart=>exact⟨d.hp,d.at_,a,rfl,H0.out.1,Mo.refl _ _ _ _,H0.out.2,fun _ h=>h,fun u h1 h2=>absurd h1 h2⟩
 case round =>
  rename World=>wl
  clear H0;obtain⟨hp',at',a',H⟩:=hrel;have hlg:=H.out.2.1.lt;have hlen:=H.out.2.2.2.1.len;obtain⟨qH,cH,hH,-,-,-⟩:=H.out.2.1.len (k:=kHea) (by exact⟨by decide,rfl⟩)
  have c12:wl.cell? ⟨g,12,none⟩=some (.slice qH hp'.length cH):=(H.out.2.1.cell 12).trans (congrArg some hH);by_cases h0:0<hp'.length
  ·
   obtain⟨bH,cH',hH',lH,-,-,qH',-⟩:=H.out.2.1.hpR h0;have e1:=hH.symm.trans hH';have e2:qH=some ⟨bH,0,none⟩∧cH=cH':=by
    have e3:Value.slice qH hp'.length cH=Value.slice (some ⟨bH,0,none⟩) hp'.length cH':=e1;simp only[Value.slice.injEq]at e3;exact⟨e3.1,e3.2.2⟩
   obtain⟨rfl,rfl⟩:=e2;have q0:wl.cell? ⟨bH,0,none⟩=some (.int .i64 (hp'[0]:Nat)):=qH' 0 h0;have h0I:(0:Int)<(hp'.length:Int):=by omega
   have HV:=hide (H.out.2.2.2.1.c _ (List.getElem_mem h0));have HP:=hide (pop_any g (d.ord hp' at') a' wl.drew H.out.2.1.drew H.out.2.2.2.1 h0 hn);have HM:=hide (List.getElem_mem h0);obtain⟨v,hv⟩:∃v,hp'[0]=v:=⟨_,rfl⟩;rw[hv]at q0 HV HM;have HVE:=hide hv;have hvn:v≤d.nv:=HV.out;obtain⟨bV,cV,hV,lV,qV,-⟩:=H.out.2.1.valR;have c6:wl.cell? ⟨g,6,none⟩=some (.slice (some ⟨bV,0,none⟩) (2*(d.nv+1)) cV):=(H.out.2.1.cell 6).trans (congrArg some hV);have q6:wl.cell? ⟨bV,2*v,none⟩=some (.int .i8 (d.V (2*v))):=qV (2*v) (by show 2*v<2*(d.nv+1);omega)
   have HL:Hid (∀w9,Calls Tryz.prog 59 #[.int .i64 (v:Nat)] w9 fun e w'=>e=.returned (.int .i32 ((2*v:Nat):Int))∧w'=w9):=fun w9=>by
    have h9:=litOf_any (v:Int) w9 (by omega) (by omega)
    rwa [lit_nat]at h9
   obtain⟨y,hy⟩:∃y,y=2*v:=⟨_,rfl⟩;rw[← hy]at q6 HL;have hyl:y<2*(d.nv+1):=by omega
   have hyI:(y:Int)<2*((d.nv:Int)+1):=by omega
   have HY:=hide hy;clear hH hH' e1 qH' qV hV hy hv;by_cases hz:d.V y=0
   ·
    rw[hz]at q6;have HZ:=hide hz;go_wp2;go_cut [26] (fun v26 wx=>v26=.bool true∧wl.drew=wx)
    case first =>
     clear HP;go_region_with (go_at_call 59;refine (HL.out _).mono ?_;rintro e w9 ⟨rfl,rfl⟩)
     all_goals (go_wp2_with fail;go_meet)
     all_goals exact⟨rfl,rfl⟩
    case rest =>
     obtain⟨rfl,hwc⟩:=hcut;clear HP;go_wp2;go_ret
     refine⟨hp',at',a',?_,?_,H.out.2.2.2.1,H.out.2.2.2.2.1,H.out.2.2.2.2.2,Or.inl ⟨v,HM.out,rfl,by rw[← HY.out];exact HZ.out⟩⟩
     · rw[← hwc];exact H.out.2.1.drew
     · rw[← hwc];exact H.out.2.2.1.trans (Mo.drew _ _ _ _)
   ·
    have hzI:¬ (d.V y=0):=hz;have hzB:(d.V y == 0)=false:=by simpa using hz
    have HZ:=hide hz;generalize d.V y=vy at q6 hzI hzB hz;go_wp2;go_cut [26] (fun v26 wx=>v26=.bool false∧wl.drew=wx)
    case first =>
     clear HP;go_region_with (go_at_call 59;refine (HL.out _).mono ?_;rintro e w9 ⟨rfl,rfl⟩)
     all_goals (go_wp2_with fail;go_meet)
     all_goals exact⟨rfl,rfl⟩
    case rest =>
     obtain⟨rfl,hwc⟩:=hcut;rw[hwc]at HP;have hlg2:g<wc.heap.size:=by rw[← hwc];exact hlg
     go_wp2_with fail
     refine HP.out.mono ?_;rintro e w3 ⟨rfl,hp2,at2,a2,hs2,hm2,ho2,hu2,hl2⟩;have HE:Hid (hp2.length+1=hp'.length∧SW w3 g (d.ord hp2 at2) a2∧Mo g d a w (d.ord hp2 at2) a2 w3∧OI d.nv hp2 at2∧(∀u∈hp2,u∈d.hp)∧(∀u∈d.hp,u ∉ hp2→d.V (2*u)≠0)):=by
      refine⟨hl2,hs2,(H.out.2.2.1.trans (by rw[← hwc]at hm2;exact (Mo.drew _ _ _ _).trans hm2)),ho2,fun u hu=>H.out.2.2.2.2.1 u ((hu2 u).1 hu).1,fun u h1 h2=>?_⟩
      by_cases h3:u∈hp'
      ·
       have h4:u=v:=by
        apply Classical.byContradiction
        intro h5;exact h2 ((hu2 u).2 ⟨h3,fun e9=>h5 (e9.trans HVE.out)⟩)
       subst h4;rw[← HY.out];exact HZ.out
      · exact H.out.2.2.2.2.2 u h1 h3
     clear hs2 hm2 ho2 hu2 hl2 HP hwc;go_wp2;go_roundg hp2.length
     case measure=>have h8:=HE.out.1;have h9:=H.out.1;omega
     case rel=>exact⟨hp2,at2,a2,rfl,HE.out.2⟩
  ·
   have h0I:¬ ((0:Int)<(hp'.length:Int)):=by omega
   have hl0:hp'.length=0:=by omega
   rw[hl0]at c12;clear hH;go_wp2;go_ret
   exact⟨hp',at',a',H.out.2.1,H.out.2.2.1,H.out.2.2.2.1,H.out.2.2.2.2.1,H.out.2.2.2.2.2,Or.inr ⟨List.length_eq_zero_iff.1 hl0,rfl⟩⟩
end Sat
end Go.Proofs.YtbmkkhpoaicclabGreat
