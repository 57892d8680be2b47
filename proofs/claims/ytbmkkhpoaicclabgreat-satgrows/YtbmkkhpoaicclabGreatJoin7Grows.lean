/- Joined: SatMo, SatWt, SatN, SatL: words and contracts; no statement of the seat is proved here. -/
import Derived.Test.YtbmkkhpoaicclabGreatJoin6Grows
import Derived.Test.YtbmkkhpoaicclabGreatJoin1Grows
namespace Go.Proofs.YtbmkkhpoaicclabGreat
open Go.RowKit
set_option linter.unusedVariables false
namespace Sat
open Euf (OL App ONE5 wp_push1)
theorem uWl:Tryz.prog.underlying 131=some (.slice 133):=by kernel_rfl
theorem iWl:(Tryz.prog.info? 133).map (fun i=>(i.zero,i.size,i.bytes))=some (some (.agg #[.int .i32 0,.int .i32 0]),2,8):=by kernel_rfl
def MvEnd (g:Nat) (d:Dt) (a:Key→Value) (c gone x:Nat) (r:List Nat) (w:World) (e:Ending) (w':World):Prop :=
  (e=.returned (.bool false)∧(d.V x=1∨∀m∈r,d.V m=-1)∧SW w' g (d.lits c (x::gone::r)) a∧Mo g d a w (d.lits c (x::gone::r)) a w') ∨
  (e=.returned (.bool true)∧d.V x≠1∧∃(i:Nat) (hi:i<r.length),d.V r[i]≠-1∧∃a',SW w' g ((d.lits c (x::r[i]::r.set i gone)).wl r[i] (d.W r[i]++[(c,x)])) a'∧Mo g d a w ((d.lits c (x::r[i]::r.set i gone)).wl r[i] (d.W r[i]++[(c,x)])) a' w'∧∀k,k≠kWl r[i]→a' k=a k)
theorem lits_lits (d:Dt) (c:Nat) (L L':List Nat):(d.lits c L).lits c L'=d.lits c L':=by
 show ({ d with C:=upd (upd d.C c { d.C c with lits:=L }) c { (upd d.C c { d.C c with lits:=L }) c with lits:=L' } }:Dt)=_
 rw[upd_upd,upd_same]
theorem lits_self (d:Dt) (c:Nat):d.lits c (d.C c).lits=d:=by
 have:upd d.C c { d.C c with lits:=(d.C c).lits }=d.C:=by
  funext i
  by_cases e:i=c
  · subst e;rw[upd_same]
  · rw[upd_other _ _ e]
 show ({ d with C:=upd d.C c { d.C c with lits:=(d.C c).lits } }:Dt)=d
 rw[this]
set_option maxRecDepth 20000 in
set_option maxHeartbeats 16000000 in
theorem moved_any (g:Nat) (d:Dt) (a:Key→Value) (c gone x p0 p1:Nat) (r:List Nat) (w:World) (h:SW w g d a) (hc:c<d.nc) (hcn:d.nc≤100000000) (hL:(d.C c).lits=p0::p1::r) (hp:(p0=gone∧p1=x)∨(p0=x∧p1=gone∧p0≠gone)) (hxg:x<2*(d.nv+1)∧gone<2*(d.nv+1)) (hr:∀m∈r,m<2*(d.nv+1)) (hn:d.nv≤5000) (hrl:r.length≤10000) (hWl:∀l,l<2*(d.nv+1)→(d.W l).length≤100000000) :
  Calls Tryz.prog 120 #[.pointer (some ⟨g,0,none⟩),.int .i64 (c:Nat),.int .i32 (gone:Nat)] w fun e w'=>MvEnd g d a c gone x r w e w':=by
 obtain⟨bC,cC,hC,lC,qC,-⟩:=h.clzR (by omega)
 have c2:w.cell? ⟨g,2,none⟩=some (.slice (some ⟨bC,0,none⟩) d.nc cC):=(h.cell 2).trans (congrArg some hC);obtain⟨bL,cL,hv,lL,kL1,kL2,qL,zL⟩:=h.litR hc (by rw[hL];simp)
 have qc:w.cell? ⟨bC,c*4,none⟩=some (a (kLit c)):=(qC c hc).1;rw[hv]at qc;obtain⟨nl,hnl⟩:∃nl,(d.C c).lits.length=nl:=⟨_,rfl⟩;have hnl2:nl=r.length+2:=by rw[← hnl,hL];simp
 have q0:w.cell? ⟨bL,0,none⟩=some (.int .i32 (p0:Nat)):=by have h9:=qL 0 (by rw[hL];simp);simpa [hL] using h9
 have q1:w.cell? ⟨bL,1,none⟩=some (.int .i32 (p1:Nat)):=by have h9:=qL 1 (by rw[hL];simp);simpa [hL] using h9
 have z0:=zL 0;have z1:=zL 1;rw[hnl]at qc;have hcI:(c:Int)<(d.nc:Int):=by omega
 have hlg:=h.lt;have hn1:1<nl:=by omega
 have hn0:0<nl:=by omega
 have hn1I:(1:Int)<(nl:Int):=by omega
 have hn0I:(0:Int)<(nl:Int):=by omega
 have hnl4:nl≤10002:=by omega
 have hc8:c<100000000:=by omega
 have HV:Hid (a (kLit c)=.slice (some ⟨bL,0,none⟩) nl cL∧nl=r.length+2):=⟨by rw[hv,hnl],hnl2⟩
 have HX:=hide (And.intro hxg (And.intro hr hWl));have hg2:gone<20000:=by omega
 have H1:Hid (p0=gone→SW ((w.setCell ⟨bL,0,none⟩ (.int .i32 (p1:Nat))).setCell ⟨bL,1,none⟩ (.int .i32 (gone:Nat))) g (d.lits c (x::gone::r)) a∧Mo g d a w (d.lits c (x::gone::r)) a ((w.setCell ⟨bL,0,none⟩ (.int .i32 (p1:Nat))).setCell ⟨bL,1,none⟩ (.int .i32 (gone:Nat)))):=by
  intro e;have ex:p1=x:=by
   rcases hp with h9|h9
   · exact h9.2
   · exact absurd e h9.2.2
  obtain⟨s1,m1⟩:=h.setLit hc hv (i:=0) (by rw[hL];simp) p1
  have hv1:a (kLit c)=.slice (some ⟨bL,0,none⟩) ((d.lits c ((d.C c).lits.set 0 p1)).C c).lits.length cL:=by
   show _=Value.slice _ (upd d.C c _ c).lits.length cL
   rw[upd_same,List.length_set];exact hv
  obtain⟨s2,m2⟩:=s1.setLit (c:=c) (i:=1) hc hv1 (by show 1<(upd d.C c _ c).lits.length;rw[upd_same,List.length_set,hL];simp) gone
  have eL:((d.lits c ((d.C c).lits.set 0 p1)).C c).lits.set 1 gone=x::gone::r:=by
   show (upd d.C c _ c).lits.set 1 gone=_
   rw[upd_same,hL,ex];rfl
  rw[eL,lits_lits]at s2 m2;exact⟨s2,m1.trans m2⟩
 have H2:Hid (p0≠gone→d.lits c (x::gone::r)=d):=by
  intro e;rcases hp with h9|h9
  · exact absurd h9.1 e
  ·
   have:(d.C c).lits=x::gone::r:=by rw[hL,h9.1,h9.2.1]
   rw[← this];exact lits_self d c
 have H0:=hide h;clear h hC qC hv qL zL hnl hL hp hnl2;go_enter Tryz.func120,Tryz.ntmps120;go_upto_if 22 with fail
 go_cut [22] (fun v22 wx=>Hid (SW wx g (d.lits c (x::gone::r)) a∧Mo g d a w (d.lits c (x::gone::r)) a wx))
 case first =>
  by_cases he:p0=gone
  ·
   have h9:=H1.out he;have H9:=hide h9;subst he;clear H1 H2 h9;go_wp2;go_meet
   exact H9.out
  ·
   have h9:=H2.out he;have heI:¬ ((p0:Int)=(gone:Int)):=by omega
   have heB:((p0:Int) == (gone:Int))=false:=by simpa using heI
   have H9:Hid (SW w g (d.lits c (x::gone::r)) a∧Mo g d a w (d.lits c (x::gone::r)) a w):=by rw[h9];exact⟨H0.out,Mo.refl _ _ _ _⟩
   clear H1 H2 h9;go_wp2;go_meet
   exact H9.out
 case rest =>
  have H:=hcut;clear hcut H1 H2 H0 c2 qc q0 q1 z0 z1 hlg lL lC;obtain⟨bL',cL',hv',lL,-,-,qL,zL⟩:=H.out.1.litR (c:=c) hc (by show 0<(upd d.C c _ c).lits.length;rw[upd_same];simp)
  have eC:((d.lits c (x::gone::r)).C c).lits=x::gone::r:=by show (upd d.C c _ c).lits=_;rw[upd_same]
  have e2:bL=bL'∧cL=cL':=by
   have e3:=HV.out.1.symm.trans hv';simp only[Value.slice.injEq,Option.some.injEq,Addr.mk.injEq]at e3;exact⟨e3.1.1,e3.2.2⟩
  obtain⟨rfl,rfl⟩:=e2;have HQ:Hid (∀i (hi:i<(x::gone::r).length),wc.cell? ⟨bL,i,none⟩=some (.int .i32 ((x::gone::r)[i]:Nat))):=by
   intro i hi;have h9:=qL i (by rw[eC];exact hi)
   simpa only [upd_same] using h9
  have q0:wc.cell? ⟨bL,0,none⟩=some (.int .i32 (x:Nat)):=HQ.out 0 (by simp)
  obtain⟨bV,cV,hVv,lV,qV,-⟩:=H.out.1.valR;have c6:wc.cell? ⟨g,6,none⟩=some (.slice (some ⟨bV,0,none⟩) (2*(d.nv+1)) cV):=(H.out.1.cell 6).trans (congrArg some hVv);have HQV:Hid (∀i,i<2*(d.nv+1)→wc.cell? ⟨bV,i,none⟩=some (.int .i8 (d.V i))):=qV;have hlg:=H.out.1.lt;have hxl:x<2*(d.nv+1):=HX.out.1.1;have hxI:(x:Int)<2*((d.nv:Int)+1):=by omega
  have qx:=HQV.out x hxl;clear hv' qL zL qV hVv eC;by_cases hx1:d.V x=1
  ·
   have HX1:=hide hx1;rw[hx1]at qx;go_wp2_with fail
   go_quiet (fail)
   go_wp2;go_ret
   exact Or.inl ⟨rfl,Or.inl HX1.out,H.out.1.drewN _,H.out.2.drewN _⟩
  ·
   have HX1:=hide hx1;have hx1B:(d.V x == 1)=false:=by simpa using hx1
   generalize d.V x=vx at qx hx1 hx1B;go_wp2_with fail
   go_quiet (fail)
   clear qx;obtain⟨wd,hwd⟩:∃wd,wc.drewN nq=wd:=⟨_,rfl⟩;rw[hwd];have HD:Hid (SW wd g (d.lits c (x::gone::r)) a∧Mo g d a w (d.lits c (x::gone::r)) a wd∧∀p,wd.cell? p=wc.cell? p):=by rw[← hwd];exact⟨H.out.1.drewN _,H.out.2.drewN _,fun p=>rfl⟩
   clear hwd H;go_wp2;go_loopw [8] (fun v8 wr=>∃(i:Nat),v8=.int .i64 (i:Nat)∧2≤i∧i≤nl∧wd=wr∧Hid (∀j (hj:j<r.length),j+2<i→d.V r[j]=-1)) (fun v _=>nl - (intOf v).toNat)
   case atStart=>exact⟨2,rfl,Nat.le_refl _,by omega,rfl,fun j hj h=>by omega⟩
   case round =>
    obtain⟨i,rfl,hi2,hi,hwr,HI⟩:=hrel;subst hwr;have c6d:wd.cell? ⟨g,6,none⟩=some (.slice (some ⟨bV,0,none⟩) (2*(d.nv+1)) cV):=(HD.out.2.2 _).trans c6;by_cases hlt:i<nl
    ·
     have hltI:(i:Int)<(nl:Int):=by omega
     obtain⟨j,rfl⟩:∃j,i=j+2:=⟨i - 2,by omega⟩
     have hj:j<r.length:=by have:=HV.out.2;omega
     have qi:wd.cell? ⟨bL,j+2,none⟩=some (.int .i32 (r[j]:Nat)):=(HD.out.2.2 _).trans (HQ.out (j+2) (by simp;omega))
     have hml:=HX.out.2.1 _ (List.getElem_mem hj);have qv:wd.cell? ⟨bV,r[j],none⟩=some (.int .i8 (d.V r[j])):=(HD.out.2.2 _).trans (HQV.out _ hml);obtain⟨l,hl⟩:∃l,r[j]=l:=⟨_,rfl⟩;rw[hl]at qi hml qv;have HLE:=hide hl;have hlI:(l:Int)<2*((d.nv:Int)+1):=by omega
     clear hl;by_cases hv1:d.V l=-1
     ·
      rw[hv1]at qv;have HN:Hid (∀k (hk:k<r.length),k+2<j+2+1→d.V r[k]=-1):=by
       intro k hk h9;by_cases e:k=j
       · subst e;rw[HLE.out];exact hv1
       · exact HI.out k hk (by omega)
      clear hv1;go_wp2;go_roundw
      case rel=>exact⟨j+2+1,by go_num,by omega,by omega,by simp,HN.out⟩
      case measure=>simp[intOf]<;>omega
     ·
      have HNV:=hide hv1;have hv1B:(d.V l != -1)=true:=by simpa using hv1
      generalize d.V l=vl at qv hv1 hv1B;have lLd:bL<wd.heap.size:=by
       have h9:=HD.out.1.foLt (b:=bL) (Or.inr ⟨kLit c,hc,by rw[HV.out.1];rfl⟩)
       exact h9
      have q1d:wd.cell? ⟨bL,1,none⟩=some (.int .i32 (gone:Nat)):=(HD.out.2.2 _).trans (HQ.out 1 (by simp))
      have z1d:wd.frozen? ⟨bL,1,none⟩=false:=(HD.out.1.litR (c:=c) hc (by show 0<(upd d.C c _ c).lits.length;rw[upd_same];simp)).elim (fun b h9=>h9.elim (fun cap h8=>by
       have e9:=HV.out.1.symm.trans h8.1;simp only[Value.slice.injEq,Option.some.injEq,Addr.mk.injEq]at e9;rw[e9.1.1];exact h8.2.2.2.2.2 1))
      have z2d:wd.frozen? ⟨bL,j+2,none⟩=false:=(HD.out.1.litR (c:=c) hc (by show 0<(upd d.C c _ c).lits.length;rw[upd_same];simp)).elim (fun b h9=>h9.elim (fun cap h8=>by
       have e9:=HV.out.1.symm.trans h8.1;simp only[Value.slice.injEq,Option.some.injEq,Addr.mk.injEq]at e9;rw[e9.1.1];exact h8.2.2.2.2.2 (j+2)))
      have hlgd:=HD.out.1.lt;have H5:Hid (SW ((wd.setCell ⟨bL,1,none⟩ (.int .i32 (l:Nat))).setCell ⟨bL,j+2,none⟩ (.int .i32 (gone:Nat))) g (d.lits c (x::l::r.set j gone)) a∧Mo g d a w (d.lits c (x::l::r.set j gone)) a ((wd.setCell ⟨bL,1,none⟩ (.int .i32 (l:Nat))).setCell ⟨bL,j+2,none⟩ (.int .i32 (gone:Nat)))):=by
       have hA:a (kLit c)=.slice (some ⟨bL,0,none⟩) ((d.lits c (x::gone::r)).C c).lits.length cL:=by
        show _=Value.slice _ (upd d.C c _ c).lits.length cL
        rw[upd_same,HV.out.1,HV.out.2];rfl
       obtain⟨s1,m1⟩:=HD.out.1.setLit (c:=c) (i:=1) hc hA (by show 1<(upd d.C c _ c).lits.length;rw[upd_same];simp) l
       have e1:((d.lits c (x::gone::r)).C c).lits.set 1 l=x::l::r:=by show (upd d.C c _ c).lits.set 1 l=_;rw[upd_same];rfl
       rw[e1,lits_lits]at s1 m1;have hB:a (kLit c)=.slice (some ⟨bL,0,none⟩) ((d.lits c (x::l::r)).C c).lits.length cL:=by
        show _=Value.slice _ (upd d.C c _ c).lits.length cL
        rw[upd_same,HV.out.1,HV.out.2];rfl
       obtain⟨s2,m2⟩:=s1.setLit (c:=c) (i:=j+2) hc hB (by show j+2<(upd d.C c _ c).lits.length;rw[upd_same];simp;omega) gone
       have e2:((d.lits c (x::l::r)).C c).lits.set (j+2) gone=x::l::r.set j gone:=by show (upd d.C c _ c).lits.set (j+2) gone=_;rw[upd_same];rfl
       rw[e2,lits_lits]at s2 m2;exact⟨s2,HD.out.2.1.trans (m1.trans m2)⟩
      obtain⟨w5,hw5⟩:∃w5,(wd.setCell ⟨bL,1,none⟩ (.int .i32 (l:Nat))).setCell ⟨bL,j+2,none⟩ (.int .i32 (gone:Nat))=w5:=⟨_,rfl⟩;rw[hw5]at H5;go_wp2;clear hw5 qi qv c6d c6 q0 q1d z1d z2d lLd hlgd hlg lL lV;obtain⟨bW,cW,hW,lW,qW,zW⟩:=H5.out.1.watR;have dL:dom (d.lits c (x::l::r.set j gone)) (kWl l):=hml;have dW:dom (d.lits c (x::l::r.set j gone)) kWat:=⟨by decide,rfl⟩
      have dC:dom (d.lits c (x::l::r.set j gone)) (kLit c):=hc;have n1:kWat≠kWl l:=by intro e;injection e with e _;exact absurd e (by decide)
      have n2:kLit c≠kWl l:=by intro e;injection e with e _;exact absurd e (by decide)
      obtain⟨vW,hvW⟩:∃vW,a (kWl l)=vW:=⟨_,rfl⟩;obtain⟨LW,hLW⟩:∃LW,d.W l=LW:=⟨_,rfl⟩;have ho:OL 2 133 w5 (a (kWl l)) (d.W l).length (prC (d.W l)):=H5.out.1.ol dL;have hLn:LW.length≤100000000:=by rw[← hLW];exact HX.out.2.2 l hml
      rw[hvW,hLW]at ho;have ngW:vW.ownBlock≠some g:=by rw[← hvW];exact H5.out.1.ne dL
      have nbW:vW.ownBlock≠some bW:=by rw[← hvW];exact H5.out.1.apart dW dL n1 (by rw[hW];rfl)
      have nbL:vW.ownBlock≠some bL:=by rw[← hvW];exact H5.out.1.apart dC dL n2 (by rw[HV.out.1];rfl)
      have m0:w5.cell? ⟨g,7,none⟩=some (.slice (some ⟨bW,0,none⟩) (2*(d.nv+1)) cW):=(H5.out.1.cell 7).trans (congrArg some hW);have m1:w5.cell? ⟨bW,l,none⟩=some vW:=by rw[← hvW];exact qW l hml
      have m2:w5.cell? ⟨bL,0,none⟩=some (.int .i32 (x:Nat)):=by
       obtain⟨b9,c9,h9,-,-,-,q9,-⟩:=H5.out.1.litR (c:=c) hc (by show 0<(upd d.C c _ c).lits.length;rw[upd_same];simp)
       have e9:=HV.out.1.symm.trans h9;simp only[Value.slice.injEq,Option.some.injEq,Addr.mk.injEq]at e9;rw[e9.1.1];have h8:=q9 0 (by show 0<(upd d.C c _ c).lits.length;rw[upd_same];simp)
       simpa only [upd_same,List.getElem_cons_zero] using h8
      have hbL5:bL<w5.heap.size:=H5.out.1.foLt (Or.inr ⟨kLit c,dC,by rw[HV.out.1];rfl⟩)
      have hg5:=H5.out.1.lt;obtain⟨E5,hE5⟩:∃E5:World→Prop,E5=fun wr=>∃v9,SW wr g ((d.lits c (x::l::r.set j gone)).wl l (LW++[(c,x)])) (updK a (kWl l) v9)∧Mo g d a w ((d.lits c (x::l::r.set j gone)).wl l (LW++[(c,x)])) (updK a (kWl l) v9) wr:=⟨_,rfl⟩
      obtain⟨M5,hM5⟩:∃M5:World→Prop,M5=fun wr=>wr.cell? ⟨g,7,none⟩=some (.slice (some ⟨bW,0,none⟩) (2*(d.nv+1)) cW)∧wr.cell? ⟨bW,l,none⟩=some vW∧wr.cell? ⟨bL,0,none⟩=some (.int .i32 (x:Nat))∧g<wr.heap.size∧bW<wr.heap.size∧bL<wr.heap.size:=⟨_,rfl⟩
      have hMb:∀wr,wr.heap[g]?=w5.heap[g]?→wr.heap[bW]?=w5.heap[bW]?→wr.heap[bL]?=w5.heap[bL]?→w5.heap.size≤wr.heap.size→M5 wr:=by
       intro wr e1 e2 e3 e4;rw[hM5];exact⟨(World.cell?_of_block (a:=⟨g,7,none⟩) e1).trans m0,(World.cell?_of_block (a:=⟨bW,l,none⟩) e2).trans m1,(World.cell?_of_block (a:=⟨bL,0,none⟩) e3).trans m2,by omega,by omega,by omega⟩
      have HM0:Hid (∀wr,Below w5.heap.size w5 wr→M5 wr):=fun wr hb=>hMb wr (hb.block g hg5) (hb.block bW lW) (hb.block bL hbL5) hb.size
      have HM1:Hid (∀wr v,App vW v w5 wr→M5 wr):=fun wr v hap=>hMb wr (hap.other g hg5 ngW) (hap.other bW lW nbW) (hap.other bL hbL5 nbL) hap.size
      have HOWN:Hid (∀wr,Below w5.heap.size w5 wr→OL 2 133 wr vW LW.length (prC LW)):=fun wr hb=>ho.stay fun b e=>hb.block b (ho.lt e)
      have HFZ:Hid (∀wr v,App vW v w5 wr→wr.cell? ⟨bW,l,none⟩=some vW∧wr.frozen? ⟨bW,l,none⟩=false):=fun wr v hap=>⟨(World.cell?_of_block (a:=⟨bW,l,none⟩) (hap.other bW lW nbW)).trans m1,(World.frozen?_of_block (a:=⟨bW,l,none⟩) (hap.other bW lW nbW)).trans (zW l)⟩
      have HNB:Hid (LW.length+1≤1000000000):=by show _≤_;omega
      have HLB:Hid ((l:Int)<2*((d.nv:Int)+1)∧l<2*(d.nv+1)):=⟨hlI,hml⟩;have HCW:Hid (IntKind.i32.wrap (c:Int)=(c:Int)):=wrap32 c (by omega)
      have HNL:Hid (0<nl∧(0:Int)<(nl:Int)):=⟨hn0,hn0I⟩;have HSET:Hid (∀wr v,OL 2 133 wr v (LW.length+1) (prC (LW++[(c,x)]))→App vW v w5 wr→v≠.slice none 0 0→E5 (wr.setCell ⟨bW,l,none⟩ v)):=by
       intro wr v hol hap _;rw[hE5];have k1:=H5.out.1.putW (l:=l) (v':=v) (L:=LW++[(c,x)]) hml hW (by rw[hvW];exact (Mv.refl _ w5).app hap (fun b hb=>Or.inl hb)) (fun b hb=>by
        rw[hvW];rcases hap.at_ with e|⟨b',e3,e4⟩
        · exact Or.inl (e ▸ hb)
        · rw[e3]at hb;injection hb with hb;exact Or.inr (by omega)) (by rw[List.length_append];exact hol)
       exact⟨v,k1.1,H5.out.2.trans k1.2⟩
      have HXX:=hide (And.intro hvW hLW);clear hMb ngW nbW nbL m0 m1 m2 ho hW qW zW hvW hLW hbL5 hg5 dL dW dC n1 n2 lW;refine wp_region_E (by kernel_rfl) [some 66,some 67,some 68,some 69,some 70,some 71,some 72,some 73,some 74,some 75,some 76,some 77,some 78,some 79,some 80,some 81,some 82,some 83,some 84,some 85,some 86,none] [none,none,none,none,none,none,none,none,none,none,none,none,none,none,none,none,none,none,none,none,none,none,none,none,none,none,none,none,none,none,none,none,none,none,none,none,none,none,none,none,none,none,none,none,none,none,none,none,none,none,none,none,none,none,none,none,none,none,none,none,none,none,none,none,none,none,some 66,some 67,some 68,some 69,some 70,some 71,some 72,some 73,some 74,some 75,some 76,some 77,some 78,some 79,some 80,some 81,some 82,some 83,some 84,some 85,some 86] (fun U=>by kernel_rfl) [fun u=>u=(.pointer (some ⟨g,0,none⟩)),fun u=>u=(.pointer (some ⟨g,0,none⟩)),fun u=>u=(.pointer (some ⟨g,7,none⟩)),fun u=>u=(.slice (some ⟨bW,0,none⟩) (2*(d.nv+1)) cW),fun u=>u=(.int .i32 (l:Nat)),fun u=>u=(.pointer (some ⟨g,0,none⟩)),fun u=>u=(.pointer (some ⟨g,0,none⟩)),fun u=>u=(.pointer (some ⟨g,7,none⟩)),fun u=>u=(.slice (some ⟨bW,0,none⟩) (2*(d.nv+1)) cW),fun u=>u=(.int .i32 (l:Nat)),fun u=>u=(.pointer (some ⟨bW,l,none⟩)),fun u=>u=(vW),fun u=>u=(.int .i64 (c:Nat)),fun u=>u=(.int .i32 (c:Nat)),fun u=>u=(.slice (some ⟨bL,0,none⟩) nl cL),fun u=>u=(.pointer (some ⟨bL,0,none⟩)),fun u=>u=(.int .i32 (x:Nat)),fun u=>u=(.agg #[.int .i32 (c:Nat),.int .i32 (x:Nat)]),fun _=>True,fun _=>True,fun u=>u=(.pointer (some ⟨bW,l,none⟩)),fun _=>True] (fun L U wr=>(L 19=false→Below w5.heap.size w5 wr)∧(L 18=true→L 19=false→ONE5 133 [.int .i32 (c:Nat),.int .i32 (x:Nat)] (U 84) wr)∧(L 19=true→L 21=false→OL 2 133 wr (U 85) (LW.length+1) (prC (LW++[(c,x)]))∧App (vW) (U 85) w5 wr∧U 85≠.slice none 0 0)∧(L 21=true→(L 0=true∧L 1=true∧L 2=true∧L 3=true∧L 4=true∧L 5=true∧L 6=true∧L 7=true∧L 8=true∧L 9=true∧L 10=true∧L 11=true∧L 12=true∧L 13=true∧L 14=true∧L 15=true∧L 16=true∧L 17=true∧L 18=true∧L 19=true∧L 20=true)∧E5 wr)) (by kernel_rfl) (by decide) (by kernel_rfl) (by kernel_rfl) ?_ ?_ ?_
      · exact fun U=>⟨fun _=>(Below.refl _ _).drew,(fun h=>by cases h),(fun h=>by cases h),(fun h=>by cases h)⟩
      ·
       refine StepsE.run rfl ?_ ?_
       ·
        intro L U wr hC hP hlk hcl haf A K hFm hK;simp[Aft,Region.binds]at haf;have e0:A.tmps[0]?=some (.pointer (some ⟨g,0,none⟩)):=(hFm.old 0 (by decide)).trans (by kernel_rfl)
        have HC:Hid _:=hC;clear hC;refine⟨?_⟩;go_simp;refine hK _ _ rfl ?_;obtain⟨c0,cB,c1,cS⟩:=HC.out;refine⟨fun h=>c0 (by simpa using h),(fun h1 h2=>by have h9:=cB (by simpa using h1) (by simpa using h2);simpa [updO,Go.Proofs.YtbmkkhpoaicclabGreat.upd] using h9),(fun h1 h2=>by have h9:=c1 (by simpa using h1) (by simpa using h2);simpa [updO,Go.Proofs.YtbmkkhpoaicclabGreat.upd] using h9),fun h=>?_⟩
        have h9:=cS (by simpa using h)
        exact⟨by simp[h9.1],h9.2⟩
       refine StepsE.run rfl ?_ ?_
       ·
        intro L U wr hC hP hlk hcl haf A K hFm hK;simp[Aft,Region.binds]at haf;have g0:U 66=(.pointer (some ⟨g,0,none⟩)):=hP 0 66 (by simp[haf]) rfl
        have e66:A.tmps[66]?=some (.pointer (some ⟨g,0,none⟩)):=hFm.is 0 66 rfl g0;have hM8:M5 wr:=by
         obtain⟨c0,cB,c1,cS⟩:=hC;have hs:L 21=false:=by cases h:L 21 with|false=>rfl|true=>exact absurd (cS h).1 (by simp[hlk])
         cases h14:L 19 with
         | false=>exact HM0.out wr (c0 h14)
         | true=>exact HM1.out wr (U 85) (c1 h14 hs).2.1
        rw[hM5]at hM8;obtain⟨m7,mw,mx,hlg,hlw,hlx⟩:=hM8;have HC:Hid _:=hC;clear hC;refine⟨?_⟩;go_simp;refine hK _ _ rfl ?_;obtain⟨c0,cB,c1,cS⟩:=HC.out;refine⟨fun h=>c0 (by simpa using h),(fun h1 h2=>by have h9:=cB (by simpa using h1) (by simpa using h2);simpa [updO,Go.Proofs.YtbmkkhpoaicclabGreat.upd] using h9),(fun h1 h2=>by have h9:=c1 (by simpa using h1) (by simpa using h2);simpa [updO,Go.Proofs.YtbmkkhpoaicclabGreat.upd] using h9),fun h=>?_⟩
        have h9:=cS (by simpa using h)
        exact⟨by simp[h9.1],h9.2⟩
       refine StepsE.run rfl ?_ ?_
       ·
        intro L U wr hC hP hlk hcl haf A K hFm hK;simp[Aft,Region.binds]at haf;have g1:U 67=(.pointer (some ⟨g,0,none⟩)):=hP 1 67 (by simp[haf]) rfl
        have e67:A.tmps[67]?=some (.pointer (some ⟨g,0,none⟩)):=hFm.is 1 67 rfl g1;have hM8:M5 wr:=by
         obtain⟨c0,cB,c1,cS⟩:=hC;have hs:L 21=false:=by cases h:L 21 with|false=>rfl|true=>exact absurd (cS h).1 (by simp[hlk])
         cases h14:L 19 with
         | false=>exact HM0.out wr (c0 h14)
         | true=>exact HM1.out wr (U 85) (c1 h14 hs).2.1
        rw[hM5]at hM8;obtain⟨m7,mw,mx,hlg,hlw,hlx⟩:=hM8;have HC:Hid _:=hC;clear hC;refine⟨?_⟩;go_simp;refine hK _ _ rfl ?_;obtain⟨c0,cB,c1,cS⟩:=HC.out;refine⟨fun h=>c0 (by simpa using h),(fun h1 h2=>by have h9:=cB (by simpa using h1) (by simpa using h2);simpa [updO,Go.Proofs.YtbmkkhpoaicclabGreat.upd] using h9),(fun h1 h2=>by have h9:=c1 (by simpa using h1) (by simpa using h2);simpa [updO,Go.Proofs.YtbmkkhpoaicclabGreat.upd] using h9),fun h=>?_⟩
        have h9:=cS (by simpa using h)
        exact⟨by simp[h9.1],h9.2⟩
       refine StepsE.run rfl ?_ ?_
       ·
        intro L U wr hC hP hlk hcl haf A K hFm hK;simp[Aft,Region.binds]at haf;have g2:U 68=(.pointer (some ⟨g,7,none⟩)):=hP 2 68 (by simp[haf]) rfl
        have e68:A.tmps[68]?=some (.pointer (some ⟨g,7,none⟩)):=hFm.is 2 68 rfl g2;have hM8:M5 wr:=by
         obtain⟨c0,cB,c1,cS⟩:=hC;have hs:L 21=false:=by cases h:L 21 with|false=>rfl|true=>exact absurd (cS h).1 (by simp[hlk])
         cases h14:L 19 with
         | false=>exact HM0.out wr (c0 h14)
         | true=>exact HM1.out wr (U 85) (c1 h14 hs).2.1
        rw[hM5]at hM8;obtain⟨m7,mw,mx,hlg,hlw,hlx⟩:=hM8;have HC:Hid _:=hC;clear hC;refine⟨?_⟩;go_simp;refine hK _ _ rfl ?_;obtain⟨c0,cB,c1,cS⟩:=HC.out;refine⟨fun h=>c0 (by simpa using h),(fun h1 h2=>by have h9:=cB (by simpa using h1) (by simpa using h2);simpa [updO,Go.Proofs.YtbmkkhpoaicclabGreat.upd] using h9),(fun h1 h2=>by have h9:=c1 (by simpa using h1) (by simpa using h2);simpa [updO,Go.Proofs.YtbmkkhpoaicclabGreat.upd] using h9),fun h=>?_⟩
        have h9:=cS (by simpa using h)
        exact⟨by simp[h9.1],h9.2⟩
       refine StepsE.run rfl ?_ ?_
       ·
        intro L U wr hC hP hlk hcl haf A K hFm hK;simp[Aft,Region.binds]at haf;have e9:A.tmps[9]?=some (.int .i32 (l:Nat)):=(hFm.old 9 (by decide)).trans (by kernel_rfl)
        have HC:Hid _:=hC;clear hC;refine⟨?_⟩;go_simp;refine hK _ _ rfl ?_;obtain⟨c0,cB,c1,cS⟩:=HC.out;refine⟨fun h=>c0 (by simpa using h),(fun h1 h2=>by have h9:=cB (by simpa using h1) (by simpa using h2);simpa [updO,Go.Proofs.YtbmkkhpoaicclabGreat.upd] using h9),(fun h1 h2=>by have h9:=c1 (by simpa using h1) (by simpa using h2);simpa [updO,Go.Proofs.YtbmkkhpoaicclabGreat.upd] using h9),fun h=>?_⟩
        have h9:=cS (by simpa using h)
        exact⟨by simp[h9.1],h9.2⟩
       refine StepsE.run rfl ?_ ?_
       ·
        intro L U wr hC hP hlk hcl haf A K hFm hK;simp[Aft,Region.binds]at haf;have e0:A.tmps[0]?=some (.pointer (some ⟨g,0,none⟩)):=(hFm.old 0 (by decide)).trans (by kernel_rfl)
        have HC:Hid _:=hC;clear hC;refine⟨?_⟩;go_simp;refine hK _ _ rfl ?_;obtain⟨c0,cB,c1,cS⟩:=HC.out;refine⟨fun h=>c0 (by simpa using h),(fun h1 h2=>by have h9:=cB (by simpa using h1) (by simpa using h2);simpa [updO,Go.Proofs.YtbmkkhpoaicclabGreat.upd] using h9),(fun h1 h2=>by have h9:=c1 (by simpa using h1) (by simpa using h2);simpa [updO,Go.Proofs.YtbmkkhpoaicclabGreat.upd] using h9),fun h=>?_⟩
        have h9:=cS (by simpa using h)
        exact⟨by simp[h9.1],h9.2⟩
       refine StepsE.run rfl ?_ ?_
       ·
        intro L U wr hC hP hlk hcl haf A K hFm hK;simp[Aft,Region.binds]at haf;have g5:U 71=(.pointer (some ⟨g,0,none⟩)):=hP 5 71 (by simp[haf]) rfl
        have e71:A.tmps[71]?=some (.pointer (some ⟨g,0,none⟩)):=hFm.is 5 71 rfl g5;have hM8:M5 wr:=by
         obtain⟨c0,cB,c1,cS⟩:=hC;have hs:L 21=false:=by cases h:L 21 with|false=>rfl|true=>exact absurd (cS h).1 (by simp[hlk])
         cases h14:L 19 with
         | false=>exact HM0.out wr (c0 h14)
         | true=>exact HM1.out wr (U 85) (c1 h14 hs).2.1
        rw[hM5]at hM8;obtain⟨m7,mw,mx,hlg,hlw,hlx⟩:=hM8;have HC:Hid _:=hC;clear hC;refine⟨?_⟩;go_simp;refine hK _ _ rfl ?_;obtain⟨c0,cB,c1,cS⟩:=HC.out;refine⟨fun h=>c0 (by simpa using h),(fun h1 h2=>by have h9:=cB (by simpa using h1) (by simpa using h2);simpa [updO,Go.Proofs.YtbmkkhpoaicclabGreat.upd] using h9),(fun h1 h2=>by have h9:=c1 (by simpa using h1) (by simpa using h2);simpa [updO,Go.Proofs.YtbmkkhpoaicclabGreat.upd] using h9),fun h=>?_⟩
        have h9:=cS (by simpa using h)
        exact⟨by simp[h9.1],h9.2⟩
       refine StepsE.run rfl ?_ ?_
       ·
        intro L U wr hC hP hlk hcl haf A K hFm hK;simp[Aft,Region.binds]at haf;have g6:U 72=(.pointer (some ⟨g,0,none⟩)):=hP 6 72 (by simp[haf]) rfl
        have e72:A.tmps[72]?=some (.pointer (some ⟨g,0,none⟩)):=hFm.is 6 72 rfl g6;have hM8:M5 wr:=by
         obtain⟨c0,cB,c1,cS⟩:=hC;have hs:L 21=false:=by cases h:L 21 with|false=>rfl|true=>exact absurd (cS h).1 (by simp[hlk])
         cases h14:L 19 with
         | false=>exact HM0.out wr (c0 h14)
         | true=>exact HM1.out wr (U 85) (c1 h14 hs).2.1
        rw[hM5]at hM8;obtain⟨m7,mw,mx,hlg,hlw,hlx⟩:=hM8;have HC:Hid _:=hC;clear hC;refine⟨?_⟩;go_simp;refine hK _ _ rfl ?_;obtain⟨c0,cB,c1,cS⟩:=HC.out;refine⟨fun h=>c0 (by simpa using h),(fun h1 h2=>by have h9:=cB (by simpa using h1) (by simpa using h2);simpa [updO,Go.Proofs.YtbmkkhpoaicclabGreat.upd] using h9),(fun h1 h2=>by have h9:=c1 (by simpa using h1) (by simpa using h2);simpa [updO,Go.Proofs.YtbmkkhpoaicclabGreat.upd] using h9),fun h=>?_⟩
        have h9:=cS (by simpa using h)
        exact⟨by simp[h9.1],h9.2⟩
       refine StepsE.run rfl ?_ ?_
       ·
        intro L U wr hC hP hlk hcl haf A K hFm hK;simp[Aft,Region.binds]at haf;have g7:U 73=(.pointer (some ⟨g,7,none⟩)):=hP 7 73 (by simp[haf]) rfl
        have e73:A.tmps[73]?=some (.pointer (some ⟨g,7,none⟩)):=hFm.is 7 73 rfl g7;have hM8:M5 wr:=by
         obtain⟨c0,cB,c1,cS⟩:=hC;have hs:L 21=false:=by cases h:L 21 with|false=>rfl|true=>exact absurd (cS h).1 (by simp[hlk])
         cases h14:L 19 with
         | false=>exact HM0.out wr (c0 h14)
         | true=>exact HM1.out wr (U 85) (c1 h14 hs).2.1
        rw[hM5]at hM8;obtain⟨m7,mw,mx,hlg,hlw,hlx⟩:=hM8;have HC:Hid _:=hC;clear hC;refine⟨?_⟩;go_simp;refine hK _ _ rfl ?_;obtain⟨c0,cB,c1,cS⟩:=HC.out;refine⟨fun h=>c0 (by simpa using h),(fun h1 h2=>by have h9:=cB (by simpa using h1) (by simpa using h2);simpa [updO,Go.Proofs.YtbmkkhpoaicclabGreat.upd] using h9),(fun h1 h2=>by have h9:=c1 (by simpa using h1) (by simpa using h2);simpa [updO,Go.Proofs.YtbmkkhpoaicclabGreat.upd] using h9),fun h=>?_⟩
        have h9:=cS (by simpa using h)
        exact⟨by simp[h9.1],h9.2⟩
       refine StepsE.run rfl ?_ ?_
       ·
        intro L U wr hC hP hlk hcl haf A K hFm hK;simp[Aft,Region.binds]at haf;have e9:A.tmps[9]?=some (.int .i32 (l:Nat)):=(hFm.old 9 (by decide)).trans (by kernel_rfl)
        have HC:Hid _:=hC;clear hC;refine⟨?_⟩;go_simp;refine hK _ _ rfl ?_;obtain⟨c0,cB,c1,cS⟩:=HC.out;refine⟨fun h=>c0 (by simpa using h),(fun h1 h2=>by have h9:=cB (by simpa using h1) (by simpa using h2);simpa [updO,Go.Proofs.YtbmkkhpoaicclabGreat.upd] using h9),(fun h1 h2=>by have h9:=c1 (by simpa using h1) (by simpa using h2);simpa [updO,Go.Proofs.YtbmkkhpoaicclabGreat.upd] using h9),fun h=>?_⟩
        have h9:=cS (by simpa using h)
        exact⟨by simp[h9.1],h9.2⟩
       refine StepsE.run rfl ?_ ?_
       ·
        intro L U wr hC hP hlk hcl haf A K hFm hK;simp[Aft,Region.binds]at haf;have g8:U 74=(.slice (some ⟨bW,0,none⟩) (2*(d.nv+1)) cW):=hP 8 74 (by simp[haf]) rfl
        have e74:A.tmps[74]?=some (.slice (some ⟨bW,0,none⟩) (2*(d.nv+1)) cW):=hFm.is 8 74 rfl g8;have g9:U 75=(.int .i32 (l:Nat)):=hP 9 75 (by simp[haf]) rfl
        have e75:A.tmps[75]?=some (.int .i32 (l:Nat)):=hFm.is 9 75 rfl g9;have h9:=HLB.out.1;have h8:=HLB.out.2;have HC:Hid _:=hC;clear hC;refine⟨?_⟩;go_simp;refine hK _ _ rfl ?_;obtain⟨c0,cB,c1,cS⟩:=HC.out;refine⟨fun h=>c0 (by simpa using h),(fun h1 h2=>by have h9:=cB (by simpa using h1) (by simpa using h2);simpa [updO,Go.Proofs.YtbmkkhpoaicclabGreat.upd] using h9),(fun h1 h2=>by have h9:=c1 (by simpa using h1) (by simpa using h2);simpa [updO,Go.Proofs.YtbmkkhpoaicclabGreat.upd] using h9),fun h=>?_⟩
        have h9:=cS (by simpa using h)
        exact⟨by simp[h9.1],h9.2⟩
       refine StepsE.run rfl ?_ ?_
       ·
        intro L U wr hC hP hlk hcl haf A K hFm hK;simp[Aft,Region.binds]at haf;have g10:U 76=(.pointer (some ⟨bW,l,none⟩)):=hP 10 76 (by simp[haf]) rfl
        have e76:A.tmps[76]?=some (.pointer (some ⟨bW,l,none⟩)):=hFm.is 10 76 rfl g10;have hM8:M5 wr:=by
         obtain⟨c0,cB,c1,cS⟩:=hC;have hs:L 21=false:=by cases h:L 21 with|false=>rfl|true=>exact absurd (cS h).1 (by simp[hlk])
         cases h14:L 19 with
         | false=>exact HM0.out wr (c0 h14)
         | true=>exact HM1.out wr (U 85) (c1 h14 hs).2.1
        rw[hM5]at hM8;obtain⟨m7,mw,mx,hlg,hlw,hlx⟩:=hM8;have HC:Hid _:=hC;clear hC;refine⟨?_⟩;go_simp;refine hK _ _ rfl ?_;obtain⟨c0,cB,c1,cS⟩:=HC.out;refine⟨fun h=>c0 (by simpa using h),(fun h1 h2=>by have h9:=cB (by simpa using h1) (by simpa using h2);simpa [updO,Go.Proofs.YtbmkkhpoaicclabGreat.upd] using h9),(fun h1 h2=>by have h9:=c1 (by simpa using h1) (by simpa using h2);simpa [updO,Go.Proofs.YtbmkkhpoaicclabGreat.upd] using h9),fun h=>?_⟩
        have h9:=cS (by simpa using h)
        exact⟨by simp[h9.1],h9.2⟩
       refine StepsE.run rfl ?_ ?_
       ·
        intro L U wr hC hP hlk hcl haf A K hFm hK;simp[Aft,Region.binds]at haf;have e1:A.tmps[1]?=some (.int .i64 (c:Nat)):=(hFm.old 1 (by decide)).trans (by kernel_rfl)
        have HC:Hid _:=hC;clear hC;refine⟨?_⟩;go_simp;refine hK _ _ rfl ?_;obtain⟨c0,cB,c1,cS⟩:=HC.out;refine⟨fun h=>c0 (by simpa using h),(fun h1 h2=>by have h9:=cB (by simpa using h1) (by simpa using h2);simpa [updO,Go.Proofs.YtbmkkhpoaicclabGreat.upd] using h9),(fun h1 h2=>by have h9:=c1 (by simpa using h1) (by simpa using h2);simpa [updO,Go.Proofs.YtbmkkhpoaicclabGreat.upd] using h9),fun h=>?_⟩
        have h9:=cS (by simpa using h)
        exact⟨by simp[h9.1],h9.2⟩
       refine StepsE.run rfl ?_ ?_
       ·
        intro L U wr hC hP hlk hcl haf A K hFm hK;simp[Aft,Region.binds]at haf;have g12:U 78=(.int .i64 (c:Nat)):=hP 12 78 (by simp[haf]) rfl
        have e78:A.tmps[78]?=some (.int .i64 (c:Nat)):=hFm.is 12 78 rfl g12;have h9:=HCW.out;have HC:Hid _:=hC;clear hC;refine⟨?_⟩;go_simp;refine hK _ _ rfl ?_;obtain⟨c0,cB,c1,cS⟩:=HC.out;refine⟨fun h=>c0 (by simpa using h),(fun h1 h2=>by have h9:=cB (by simpa using h1) (by simpa using h2);simpa [updO,Go.Proofs.YtbmkkhpoaicclabGreat.upd] using h9),(fun h1 h2=>by have h9:=c1 (by simpa using h1) (by simpa using h2);simpa [updO,Go.Proofs.YtbmkkhpoaicclabGreat.upd] using h9),fun h=>?_⟩
        have h9:=cS (by simpa using h)
        exact⟨by simp[h9.1],h9.2⟩
       refine StepsE.run rfl ?_ ?_
       ·
        intro L U wr hC hP hlk hcl haf A K hFm hK;simp[Aft,Region.binds]at haf;have e7:A.tmps[7]?=some (.slice (some ⟨bL,0,none⟩) nl cL):=(hFm.old 7 (by decide)).trans (by kernel_rfl)
        have HC:Hid _:=hC;clear hC;refine⟨?_⟩;go_simp;refine hK _ _ rfl ?_;obtain⟨c0,cB,c1,cS⟩:=HC.out;refine⟨fun h=>c0 (by simpa using h),(fun h1 h2=>by have h9:=cB (by simpa using h1) (by simpa using h2);simpa [updO,Go.Proofs.YtbmkkhpoaicclabGreat.upd] using h9),(fun h1 h2=>by have h9:=c1 (by simpa using h1) (by simpa using h2);simpa [updO,Go.Proofs.YtbmkkhpoaicclabGreat.upd] using h9),fun h=>?_⟩
        have h9:=cS (by simpa using h)
        exact⟨by simp[h9.1],h9.2⟩
       refine StepsE.run rfl ?_ ?_
       ·
        intro L U wr hC hP hlk hcl haf A K hFm hK;simp[Aft,Region.binds]at haf;have g14:U 80=(.slice (some ⟨bL,0,none⟩) nl cL):=hP 14 80 (by simp[haf]) rfl
        have e80:A.tmps[80]?=some (.slice (some ⟨bL,0,none⟩) nl cL):=hFm.is 14 80 rfl g14;have h9:=HNL.out.1;have h8:=HNL.out.2;have HC:Hid _:=hC;clear hC;refine⟨?_⟩;go_simp;refine hK _ _ rfl ?_;obtain⟨c0,cB,c1,cS⟩:=HC.out;refine⟨fun h=>c0 (by simpa using h),(fun h1 h2=>by have h9:=cB (by simpa using h1) (by simpa using h2);simpa [updO,Go.Proofs.YtbmkkhpoaicclabGreat.upd] using h9),(fun h1 h2=>by have h9:=c1 (by simpa using h1) (by simpa using h2);simpa [updO,Go.Proofs.YtbmkkhpoaicclabGreat.upd] using h9),fun h=>?_⟩
        have h9:=cS (by simpa using h)
        exact⟨by simp[h9.1],h9.2⟩
       refine StepsE.run rfl ?_ ?_
       ·
        intro L U wr hC hP hlk hcl haf A K hFm hK;simp[Aft,Region.binds]at haf;have g15:U 81=(.pointer (some ⟨bL,0,none⟩)):=hP 15 81 (by simp[haf]) rfl
        have e81:A.tmps[81]?=some (.pointer (some ⟨bL,0,none⟩)):=hFm.is 15 81 rfl g15;have hM8:M5 wr:=by
         obtain⟨c0,cB,c1,cS⟩:=hC;have hs:L 21=false:=by cases h:L 21 with|false=>rfl|true=>exact absurd (cS h).1 (by simp[hlk])
         cases h14:L 19 with
         | false=>exact HM0.out wr (c0 h14)
         | true=>exact HM1.out wr (U 85) (c1 h14 hs).2.1
        rw[hM5]at hM8;obtain⟨m7,mw,mx,hlg,hlw,hlx⟩:=hM8;have HC:Hid _:=hC;clear hC;refine⟨?_⟩;go_simp;refine hK _ _ rfl ?_;obtain⟨c0,cB,c1,cS⟩:=HC.out;refine⟨fun h=>c0 (by simpa using h),(fun h1 h2=>by have h9:=cB (by simpa using h1) (by simpa using h2);simpa [updO,Go.Proofs.YtbmkkhpoaicclabGreat.upd] using h9),(fun h1 h2=>by have h9:=c1 (by simpa using h1) (by simpa using h2);simpa [updO,Go.Proofs.YtbmkkhpoaicclabGreat.upd] using h9),fun h=>?_⟩
        have h9:=cS (by simpa using h)
        exact⟨by simp[h9.1],h9.2⟩
       refine StepsE.run rfl ?_ ?_
       ·
        intro L U wr hC hP hlk hcl haf A K hFm hK;simp[Aft,Region.binds]at haf;have g13:U 79=(.int .i32 (c:Nat)):=hP 13 79 (by simp[haf]) rfl
        have e79:A.tmps[79]?=some (.int .i32 (c:Nat)):=hFm.is 13 79 rfl g13;have g16:U 82=(.int .i32 (x:Nat)):=hP 16 82 (by simp[haf]) rfl
        have e82:A.tmps[82]?=some (.int .i32 (x:Nat)):=hFm.is 16 82 rfl g16;have HC:Hid _:=hC;clear hC;refine⟨?_⟩;go_simp;refine hK _ _ rfl ?_;obtain⟨c0,cB,c1,cS⟩:=HC.out;refine⟨fun h=>c0 (by simpa using h),(fun h1 h2=>by have h9:=cB (by simpa using h1) (by simpa using h2);simpa [updO,Go.Proofs.YtbmkkhpoaicclabGreat.upd] using h9),(fun h1 h2=>by have h9:=c1 (by simpa using h1) (by simpa using h2);simpa [updO,Go.Proofs.YtbmkkhpoaicclabGreat.upd] using h9),fun h=>?_⟩
        have h9:=cS (by simpa using h)
        exact⟨by simp[h9.1],h9.2⟩
       refine StepsE.run rfl ?_ ?_
       ·
        intro L U wr hC hP hlk hcl haf A K hFm hK;simp[Aft,Region.binds]at haf;have g17:U 83=(.agg #[.int .i32 (c:Nat),.int .i32 (x:Nat)]):=hP 17 83 (by simp[haf]) rfl
        have e83:A.tmps[83]?=some (.agg #[.int .i32 (c:Nat),.int .i32 (x:Nat)]):=hFm.is 17 83 rfl g17;have hA9:L 19=false:=by cases h:L 19 with|false=>rfl|true=>have h9:=hcl 19 _ rfl h;simp[Aft,Region.binds,hlk]at h9
        refine⟨?_⟩;go_simp;refine hK _ _ trivial ⟨fun h=>?_,fun _ _=>?_,fun h1 h2=>?_,fun h=>?_⟩
        · exact ((hC.1 hA9).alloc (hC.1 hA9).size _)
        · exact⟨wr.heap.size,rfl,heap_alloc_new wr _⟩
        · simp[hA9]at h1
        ·
         have h9:=(hC.2.2.2 (by simpa using h)).1
         simp[hlk]at h9
       refine StepsE.run rfl ?_ ?_
       ·
        intro L U wr hC hP hlk hcl haf A K hFm hK;simp[Aft,Region.binds]at haf;have g11:U 77=(vW):=hP 11 77 (by simp[haf]) rfl
        have e77:A.tmps[77]?=some (vW):=hFm.is 11 77 rfl g11;have e84:A.tmps[84]?=some (U 84):=hFm.got 18 84 rfl;have l18:L 18=true:=by simp[haf]
        refine⟨?_⟩;refine wp_push1 (.tmp 77) (.tmp 84) 131 rfl 2 133 _ 8 uWl iWl (by decide) rfl (by decide) (vW) (LW.length) (prC LW) (by simp[Act.eval,e77]) (HOWN.out wr (hC.1 hlk)) (fun _ _=>rfl) [.int .i32 (c:Nat),.int .i32 (x:Nat)] 133 (U 84) (hC.2.1 l18 hlk) (by simp[Act.eval,e84]) rfl (by intro u hu;simp at hu;rcases hu with rfl|rfl<;>rfl) HNB.out (prC (LW++[(c,x)])) (fun q hq=>by simp[prC,List.getElem?_append_left hq]) (by simp[prC]) ?_
        intro v9 w9 hol9 hap9 hne9;refine hK _ _ trivial ⟨fun h=>?_,fun _ h=>?_,fun _ _=>?_,fun h=>?_⟩
        · simp at h
        · simp at h
        · simp only[updO,Go.Proofs.YtbmkkhpoaicclabGreat.upd,beq_self_eq_true,cond_true];exact⟨hol9,hap9.ofBelow (hC.1 hlk),hne9⟩
        ·
         have h9:=(hC.2.2.2 (by simpa using h)).1
         simp[hlk]at h9
       refine StepsE.run rfl ?_ ?_
       ·
        intro L U wr hC hP hlk hcl haf A K hFm hK;simp[Aft,Region.binds]at haf;have g3:U 69=(.slice (some ⟨bW,0,none⟩) (2*(d.nv+1)) cW):=hP 3 69 (by simp[haf]) rfl
        have e69:A.tmps[69]?=some (.slice (some ⟨bW,0,none⟩) (2*(d.nv+1)) cW):=hFm.is 3 69 rfl g3;have g4:U 70=(.int .i32 (l:Nat)):=hP 4 70 (by simp[haf]) rfl
        have e70:A.tmps[70]?=some (.int .i32 (l:Nat)):=hFm.is 4 70 rfl g4;have h9:=HLB.out.1;have h8:=HLB.out.2;have HC:Hid _:=hC;clear hC;refine⟨?_⟩;go_simp;refine hK _ _ rfl ?_;obtain⟨c0,cB,c1,cS⟩:=HC.out;refine⟨fun h=>c0 (by simpa using h),(fun h1 h2=>by have h9:=cB (by simpa using h1) (by simpa using h2);simpa [updO,Go.Proofs.YtbmkkhpoaicclabGreat.upd] using h9),(fun h1 h2=>by have h9:=c1 (by simpa using h1) (by simpa using h2);simpa [updO,Go.Proofs.YtbmkkhpoaicclabGreat.upd] using h9),fun h=>?_⟩
        have h9:=cS (by simpa using h)
        exact⟨by simp[h9.1],h9.2⟩
       refine StepsE.run rfl ?_ StepsE.nil
       ·
        intro L U wr hC hP hlk hcl haf A K hFm hK;simp[Aft,Region.binds]at haf;have g20:U 86=(.pointer (some ⟨bW,l,none⟩)):=hP 20 86 (by simp[haf]) rfl
        have e86:A.tmps[86]?=some (.pointer (some ⟨bW,l,none⟩)):=hFm.is 20 86 rfl g20;have e85:A.tmps[85]?=some (U 85):=hFm.got 19 85 rfl;have l20:L 20=true:=by simp[haf]
        have l19:L 19=true:=by simp[haf]
        have a20:=hcl 20 _ rfl l20;simp[Aft,Region.binds]at a20;have l3:L 3=true:=by simp[a20]
        have l4:L 4=true:=by simp[a20]
        have a19:=hcl 19 _ rfl l19;simp[Aft,Region.binds]at a19;have l11:L 11=true:=by simp[a19]
        have l18:L 18=true:=by simp[a19]
        have a3:=hcl 3 _ rfl l3;simp[Aft,Region.binds]at a3;have l2:L 2=true:=by simp[a3]
        have a11:=hcl 11 _ rfl l11;simp[Aft,Region.binds]at a11;have l10:L 10=true:=by simp[a11]
        have a18:=hcl 18 _ rfl l18;simp[Aft,Region.binds]at a18;have l17:L 17=true:=by simp[a18]
        have a2:=hcl 2 _ rfl l2;simp[Aft,Region.binds]at a2;have l1:L 1=true:=by simp[a2]
        have a10:=hcl 10 _ rfl l10;simp[Aft,Region.binds]at a10;have l8:L 8=true:=by simp[a10]
        have l9:L 9=true:=by simp[a10]
        have a17:=hcl 17 _ rfl l17;simp[Aft,Region.binds]at a17;have l13:L 13=true:=by simp[a17]
        have l16:L 16=true:=by simp[a17]
        have a1:=hcl 1 _ rfl l1;simp[Aft,Region.binds]at a1;have l0:L 0=true:=by simp[a1]
        have a8:=hcl 8 _ rfl l8;simp[Aft,Region.binds]at a8;have l7:L 7=true:=by simp[a8]
        have a13:=hcl 13 _ rfl l13;simp[Aft,Region.binds]at a13;have l12:L 12=true:=by simp[a13]
        have a16:=hcl 16 _ rfl l16;simp[Aft,Region.binds]at a16;have l15:L 15=true:=by simp[a16]
        have a7:=hcl 7 _ rfl l7;simp[Aft,Region.binds]at a7;have l6:L 6=true:=by simp[a7]
        have a15:=hcl 15 _ rfl l15;simp[Aft,Region.binds]at a15;have l14:L 14=true:=by simp[a15]
        have a6:=hcl 6 _ rfl l6;simp[Aft,Region.binds]at a6;have l5:L 5=true:=by simp[a6]
        refine⟨?_⟩;obtain⟨hol9,hap9,hne9⟩:=hC.2.2.1 l19 hlk;have HKK:Hid _:=HSET.out wr (U 85) hol9 hap9 hne9;obtain⟨k4,k5⟩:=HFZ.out wr (U 85) hap9;obtain⟨ao9,cc9,hv9,-,-,-,-⟩:=hol9.shape;obtain⟨nl,hnl⟩:∃nl,nl=LW.length+1:=⟨_,rfl⟩;rw[← hnl]at hv9;clear hnl;have e85:A.tmps[85]?=some (.slice ao9 nl cc9):=hFm.is 19 85 rfl hv9;rw[hv9]at HKK;clear hol9 hap9 hne9 hC;go_simp;refine hK (.tuple #[]) _ trivial ⟨fun h=>?_,fun h1 h2=>?_,fun h1 h2=>?_,fun _=>⟨?_,HKK.out⟩⟩
        · simp[l19]at h
        · simp[l19]at h2
        · simp at h2
        · simp[l0,l1,l2,l3,l4,l5,l6,l7,l8,l9,l10,l11,l12,l13,l14,l15,l16,l17,l18,l19,l20]
      intro L U5 V5 hall hC hP;have hE:=(hC.2.2.2 (hall 21 (by decide))).2
      rw[hE5]at hE;obtain⟨v9,s9,m9⟩:=hE;have HE:Hid (∃a',SW V5 g ((d.lits c (x::l::r.set j gone)).wl l (LW++[(c,x)])) a'∧Mo g d a w ((d.lits c (x::l::r.set j gone)).wl l (LW++[(c,x)])) a' V5∧∀k,k≠kWl l→a' k=a k):=⟨_,s9,m9,fun k hk=>updK_other _ _ hk⟩
      simp only[setM_some,setM_none,setM_nil];clear hC hP hall s9 m9 HSET HFZ HOWN HM0 HM1 hE5 hM5 HNB HLB HCW HNL;go_wp2;go_ret
      refine Or.inr ⟨rfl,HX1.out,j,hj,?_⟩;rw[HLE.out,HXX.out.2];exact⟨HNV.out,HE.out⟩
    ·
     have hltI:¬ ((i:Int)<(nl:Int)):=by omega
     obtain rfl:i=nl:=by omega
     have HE:Hid (∀m∈r,d.V m=-1):=by
      intro m hm;obtain⟨j,hj,e⟩:=List.mem_iff_getElem.1 hm;rw[← e];exact HI.out j hj (by have:=HV.out.2;omega)
     go_wp2;go_ret
     exact Or.inl ⟨rfl,Or.inr HE.out,HD.out.1,HD.out.2.1⟩
end Sat
namespace Sat
open Euf (OL App ONE5 wp_push1)
def wtD (d:Dt) (c p q:Nat):Nat→Dt
  | 0=>d
  | 1=>d.wl p (d.W p++[(c,q)])
  | _=>(d.wl p (d.W p++[(c,q)])).wl q (d.W q++[(c,p)])
theorem wtD_nv (d:Dt) (c p q n:Nat):(wtD d c p q n).nv=d.nv∧(wtD d c p q n).C=d.C∧(wtD d c p q n).nc=d.nc:=by
 match n with
 | 0=>exact⟨rfl,rfl,rfl⟩
 | 1=>exact⟨rfl,rfl,rfl⟩
 | _+2=>exact⟨rfl,rfl,rfl⟩
set_option maxRecDepth 20000 in
set_option maxHeartbeats 16000000 in
theorem watch_any (g:Nat) (d0:Dt) (a0:Key→Value) (c p0 p1:Nat) (r:List Nat) (w:World) (h:SW w g d0 a0) (hc:c<d0.nc) (hcn:d0.nc≤100000000) (hL:(d0.C c).lits=p0::p1::r) (hne:p0≠p1) (hxg:p0<2*(d0.nv+1)∧p1<2*(d0.nv+1)) (hn:d0.nv≤5000) (hrl:r.length≤10000) (hWl:∀l,l<2*(d0.nv+1)→(d0.W l).length≤100000000) :
  Calls Tryz.prog 63 #[.pointer (some ⟨g,0,none⟩),.int .i64 (c:Nat)] w fun e w'=>e=.returned (.tuple #[])∧∃a',SW w' g (wtD d0 c p0 p1 2) a'∧Mo g d0 a0 w (wtD d0 c p0 p1 2) a' w':=by
 obtain⟨bC,cC,hC,lC,qC,-⟩:=h.clzR (by omega)
 have c2:w.cell? ⟨g,2,none⟩=some (.slice (some ⟨bC,0,none⟩) d0.nc cC):=(h.cell 2).trans (congrArg some hC);obtain⟨bL,cL,hv,lL,kL1,kL2,qL,zL⟩:=h.litR hc (by rw[hL];simp)
 have qc:w.cell? ⟨bC,c*4,none⟩=some (a0 (kLit c)):=(qC c hc).1;rw[hv]at qc;obtain⟨nl,hnl⟩:∃nl,(d0.C c).lits.length=nl:=⟨_,rfl⟩;have hnl2:nl=r.length+2:=by rw[← hnl,hL];simp
 rw[hnl]at qc;have hcI:(c:Int)<(d0.nc:Int):=by omega
 have hlg:=h.lt;have hn1:1<nl:=by omega
 have hn1I:(1:Int)<(nl:Int):=by omega
 have hnl4:nl≤10002:=by omega
 have hc8:c<100000000:=by omega
 have HV:Hid (a0 (kLit c)=.slice (some ⟨bL,0,none⟩) nl cL∧(d0.C c).lits=p0::p1::r):=⟨by rw[hv,hnl],hL⟩
 have HX:=hide (And.intro hxg (And.intro hne hWl));have H0:=hide h;clear h hC qC hv qL zL hnl hL hnl2 hxg hne hWl;go_enter Tryz.func63,Tryz.ntmps63;go_wp2;clear c2 qc;go_loopw [14] (fun v14 wr=>∃(i:Nat) (a:Key→Value),v14=.int .i64 (i:Nat)∧i≤2∧Hid (SW wr g (wtD d0 c p0 p1 i) a∧Mo g d0 a0 w (wtD d0 c p0 p1 i) a wr)) (fun v _=>2 - (intOf v).toNat)
 case atStart=>exact⟨0,a0,rfl,by omega,H0.out,Mo.refl _ _ _ _⟩
 case round =>
  rename World=>wl
  clear H0 hlg;obtain⟨i,a,rfl,hi,H⟩:=hrel;by_cases hlt:i<2
  ·
   have hltI:(i:Int)<2:=by omega
   obtain⟨p,q,k,hpq⟩:∃p q k:Nat,(i=0∧p=p0∧q=p1∧k=1)∨(i=1∧p=p1∧q=p0∧k=0):=by
    rcases (show i=0∨i=1 by omega) with e|e
    · exact⟨p0,p1,1,Or.inl ⟨e,rfl,rfl,rfl⟩⟩
    · exact⟨p1,p0,0,Or.inr ⟨e,rfl,rfl,rfl⟩⟩
   have HPQ:=hide hpq;have hik:i+k=1:=by omega
   obtain⟨d,hd⟩:∃d,wtD d0 c p0 p1 i=d:=⟨_,rfl⟩;have hnv:=wtD_nv d0 c p0 p1 i;rw[hd]at H hnv;have HDE:=hide hd;have hml:p<2*(d.nv+1):=by rw[hnv.1];exact hpq.elim (fun h9=>h9.2.1 ▸ HX.out.1.1) (fun h9=>h9.2.1 ▸ HX.out.1.2)
   have hlI:(p:Int)<2*((d.nv:Int)+1):=by omega
   have hcd:c<d.nc:=by rw[hnv.2.2];exact hc
   have hlitC:(d.C c).lits=p0::p1::r:=by rw[hnv.2.1];exact HV.out.2
   have HAD:Hid (a (kLit c)=.slice (some ⟨bL,0,none⟩) nl cL):=(H.out.2.ad (kLit c) hc).trans HV.out.1;obtain⟨bW,cW,hW,lW,qW,zW⟩:=H.out.1.watR;have dL:dom d (kWl p):=hml;have dW:dom d kWat:=⟨by decide,rfl⟩
   have dC:dom d (kLit c):=hcd;have n1:kWat≠kWl p:=by intro e;injection e with e _;exact absurd e (by decide)
   have n2:kLit c≠kWl p:=by intro e;injection e with e _;exact absurd e (by decide)
   obtain⟨vW,hvW⟩:∃vW,a (kWl p)=vW:=⟨_,rfl⟩;obtain⟨LW,hLW⟩:∃LW,d.W p=LW:=⟨_,rfl⟩;have hLW0:LW=d0.W p:=by
    rw[← hLW,← hd];rcases hpq with h9|h9
    · rw[h9.1];rfl
    · rw[h9.1];show upd d0.W p0 _ p=_;rw[upd_other _ _ (by rw[h9.2.1];exact Ne.symm HX.out.2.1)]
   have ho:OL 2 133 wl (a (kWl p)) (d.W p).length (prC (d.W p)):=H.out.1.ol dL;have hLn:LW.length≤100000000:=by rw[hLW0];exact HX.out.2.2 p (by rw[← hnv.1];exact hml)
   rw[hvW,hLW]at ho;have ngW:vW.ownBlock≠some g:=by rw[← hvW];exact H.out.1.ne dL
   have nbW:vW.ownBlock≠some bW:=by rw[← hvW];exact H.out.1.apart dW dL n1 (by rw[hW];rfl)
   have nbL:vW.ownBlock≠some bL:=by rw[← hvW];exact H.out.1.apart dC dL n2 (by rw[HAD.out];rfl)
   have m0:wl.cell? ⟨g,7,none⟩=some (.slice (some ⟨bW,0,none⟩) (2*(d.nv+1)) cW):=(H.out.1.cell 7).trans (congrArg some hW);have m1:wl.cell? ⟨bW,p,none⟩=some vW:=by rw[← hvW];exact qW p hml
   obtain⟨m2,m3⟩:wl.cell? ⟨bL,i,none⟩=some (.int .i32 (p:Nat))∧wl.cell? ⟨bL,k,none⟩=some (.int .i32 (q:Nat)):=by
    obtain⟨b9,c9,h9,-,-,-,q9,-⟩:=H.out.1.litR (c:=c) hcd (by rw[hlitC];simp)
    have e9:=HAD.out.symm.trans h9;simp only[Value.slice.injEq,Option.some.injEq,Addr.mk.injEq]at e9;rw[e9.1.1];have k0:=q9 0 (by rw[hlitC];simp)
    have k1:=q9 1 (by rw[hlitC];simp)
    simp only[hlitC,List.getElem_cons_zero,List.getElem_cons_succ]at k0 k1;rcases hpq with h8|h8
    · rw[h8.1,h8.2.1,h8.2.2.1,h8.2.2.2];exact⟨k0,k1⟩
    · rw[h8.1,h8.2.1,h8.2.2.1,h8.2.2.2];exact⟨k1,k0⟩
   have hbL5:bL<wl.heap.size:=H.out.1.foLt (Or.inr ⟨kLit c,dC,by rw[HAD.out];rfl⟩)
   have hg5:=H.out.1.lt;obtain⟨E5,hE5⟩:∃E5:World→Prop,E5=fun wr=>∃v9,SW wr g (d.wl p (LW++[(c,q)])) (updK a (kWl p) v9)∧Mo g d0 a0 w (d.wl p (LW++[(c,q)])) (updK a (kWl p) v9) wr:=⟨_,rfl⟩
   obtain⟨M5,hM5⟩:∃M5:World→Prop,M5=fun wr=>wr.cell? ⟨g,7,none⟩=some (.slice (some ⟨bW,0,none⟩) (2*(d.nv+1)) cW)∧wr.cell? ⟨bW,p,none⟩=some vW∧wr.cell? ⟨bL,i,none⟩=some (.int .i32 (p:Nat))∧wr.cell? ⟨bL,k,none⟩=some (.int .i32 (q:Nat))∧g<wr.heap.size∧bW<wr.heap.size∧bL<wr.heap.size:=⟨_,rfl⟩
   have hMb:∀wr,wr.heap[g]?=wl.heap[g]?→wr.heap[bW]?=wl.heap[bW]?→wr.heap[bL]?=wl.heap[bL]?→wl.heap.size≤wr.heap.size→M5 wr:=by
    intro wr e1 e2 e3 e4;rw[hM5];exact⟨(World.cell?_of_block (a:=⟨g,7,none⟩) e1).trans m0,(World.cell?_of_block (a:=⟨bW,p,none⟩) e2).trans m1,(World.cell?_of_block (a:=⟨bL,i,none⟩) e3).trans m2,(World.cell?_of_block (a:=⟨bL,k,none⟩) e3).trans m3,by omega,by omega,by omega⟩
   have HM0:Hid (∀wr,Below wl.heap.size wl wr→M5 wr):=fun wr hb=>hMb wr (hb.block g hg5) (hb.block bW lW) (hb.block bL hbL5) hb.size
   have HM1:Hid (∀wr v,App vW v wl wr→M5 wr):=fun wr v hap=>hMb wr (hap.other g hg5 ngW) (hap.other bW lW nbW) (hap.other bL hbL5 nbL) hap.size
   have HOWN:Hid (∀wr,Below wl.heap.size wl wr→OL 2 133 wr vW LW.length (prC LW)):=fun wr hb=>ho.stay fun b e=>hb.block b (ho.lt e)
   have HFZ:Hid (∀wr v,App vW v wl wr→wr.cell? ⟨bW,p,none⟩=some vW∧wr.frozen? ⟨bW,p,none⟩=false):=fun wr v hap=>⟨(World.cell?_of_block (a:=⟨bW,p,none⟩) (hap.other bW lW nbW)).trans m1,(World.frozen?_of_block (a:=⟨bW,p,none⟩) (hap.other bW lW nbW)).trans (zW p)⟩
   have HNB:Hid (LW.length+1≤1000000000):=by show _≤_;omega
   have HLB:Hid ((p:Int)<2*((d.nv:Int)+1)∧p<2*(d.nv+1)):=⟨hlI,hml⟩;have HCW:Hid (IntKind.i32.wrap (c:Int)=(c:Int)):=wrap32 c (by omega)
   have HIB:Hid (i<nl∧(i:Int)<(nl:Int)):=⟨by omega,by omega⟩
   have HKB:Hid (k<nl∧(k:Int)<(nl:Int)):=⟨by omega,by omega⟩
   have HSUB:Hid (IntKind.i64.wrap (1 - (i:Int))=(k:Int)):=by show _=_;rw[IntWalk.i64_left,IntWalk.wrap64_in _ (by omega)];omega
   have HSET:Hid (∀wr v,OL 2 133 wr v (LW.length+1) (prC (LW++[(c,q)]))→App vW v wl wr→v≠.slice none 0 0→E5 (wr.setCell ⟨bW,p,none⟩ v)):=by
    intro wr v hol hap _;rw[hE5];have k1:=H.out.1.putW (l:=p) (v':=v) (L:=LW++[(c,q)]) hml hW (by rw[hvW];exact (Mv.refl _ wl).app hap (fun b hb=>Or.inl hb)) (fun b hb=>by
     rw[hvW];rcases hap.at_ with e|⟨b',e3,e4⟩
     · exact Or.inl (e ▸ hb)
     · rw[e3]at hb;injection hb with hb;exact Or.inr (by omega)) (by rw[List.length_append];exact hol)
    exact⟨v,k1.1,H.out.2.trans k1.2⟩
   have HNX:Hid (d.wl p (LW++[(c,q)])=wtD d0 c p0 p1 (i+1)):=by
    show _=_
    rw[hLW0,← hd];rcases hpq with h8|h8
    · rw[h8.1,h8.2.1,h8.2.2.1];rfl
    · rw[h8.1,h8.2.1,h8.2.2.1];rfl
   clear hMb ngW nbW nbL m0 m1 m2 m3 ho hW qW zW hvW hLW hLW0 hbL5 hg5 dL dW dC n1 n2 lW hpq hd hnv hlitC HDE;go_wp2;refine wp_region_E (by kernel_rfl) [some 17,some 18,some 19,some 20,some 21,some 22,some 23,some 24,some 25,some 26,some 27,some 28,some 29,some 30,some 31,some 32,some 33,some 34,some 35,some 36,some 37,some 38,some 39,some 40,some 41,some 42,some 43,some 44,some 45,none] [none,none,none,none,none,none,none,none,none,none,none,none,none,none,none,none,none,some 17,some 18,some 19,some 20,some 21,some 22,some 23,some 24,some 25,some 26,some 27,some 28,some 29,some 30,some 31,some 32,some 33,some 34,some 35,some 36,some 37,some 38,some 39,some 40,some 41,some 42,some 43,some 44,some 45] (fun U=>by kernel_rfl) [fun u=>u=(.pointer (some ⟨g,0,none⟩)),fun u=>u=(.pointer (some ⟨g,0,none⟩)),fun u=>u=(.pointer (some ⟨g,7,none⟩)),fun u=>u=(.slice (some ⟨bW,0,none⟩) (2*(d.nv+1)) cW),fun u=>u=(.slice (some ⟨bL,0,none⟩) nl cL),fun u=>u=(.int .i64 (i:Nat)),fun u=>u=(.pointer (some ⟨bL,i,none⟩)),fun u=>u=(.int .i32 (p:Nat)),fun u=>u=(.pointer (some ⟨g,0,none⟩)),fun u=>u=(.pointer (some ⟨g,0,none⟩)),fun u=>u=(.pointer (some ⟨g,7,none⟩)),fun u=>u=(.slice (some ⟨bW,0,none⟩) (2*(d.nv+1)) cW),fun u=>u=(.slice (some ⟨bL,0,none⟩) nl cL),fun u=>u=(.int .i64 (i:Nat)),fun u=>u=(.pointer (some ⟨bL,i,none⟩)),fun u=>u=(.int .i32 (p:Nat)),fun u=>u=(.pointer (some ⟨bW,p,none⟩)),fun u=>u=(vW),fun u=>u=(.int .i64 (c:Nat)),fun u=>u=(.int .i32 (c:Nat)),fun u=>u=(.slice (some ⟨bL,0,none⟩) nl cL),fun u=>u=(.int .i64 (i:Nat)),fun u=>u=(.int .i64 (k:Nat)),fun u=>u=(.pointer (some ⟨bL,k,none⟩)),fun u=>u=(.int .i32 (q:Nat)),fun u=>u=(.agg #[.int .i32 (c:Nat),.int .i32 (q:Nat)]),fun _=>True,fun _=>True,fun u=>u=(.pointer (some ⟨bW,p,none⟩)),fun _=>True] (fun L U wr=>(L 27=false→Below wl.heap.size wl wr)∧(L 26=true→L 27=false→ONE5 133 [.int .i32 (c:Nat),.int .i32 (q:Nat)] (U 43) wr)∧(L 27=true→L 29=false→OL 2 133 wr (U 44) (LW.length+1) (prC (LW++[(c,q)]))∧App (vW) (U 44) wl wr∧U 44≠.slice none 0 0)∧(L 29=true→(L 0=true∧L 1=true∧L 2=true∧L 3=true∧L 4=true∧L 5=true∧L 6=true∧L 7=true∧L 8=true∧L 9=true∧L 10=true∧L 11=true∧L 12=true∧L 13=true∧L 14=true∧L 15=true∧L 16=true∧L 17=true∧L 18=true∧L 19=true∧L 20=true∧L 21=true∧L 22=true∧L 23=true∧L 24=true∧L 25=true∧L 26=true∧L 27=true∧L 28=true)∧E5 wr)) (by kernel_rfl) (by decide) (by kernel_rfl) (by kernel_rfl) ?_ ?_ ?_
   · exact fun U=>⟨fun _=>(Below.refl _ _).drew,(fun h=>by cases h),(fun h=>by cases h),(fun h=>by cases h)⟩
   ·
    refine StepsE.run rfl ?_ ?_
    ·
     intro L U wr hC hP hlk hcl haf A K hFm hK;simp[Aft,Region.binds]at haf;have e0:A.tmps[0]?=some (.pointer (some ⟨g,0,none⟩)):=(hFm.old 0 (by decide)).trans (by kernel_rfl)
     have HC:Hid _:=hC;clear hC;refine⟨?_⟩;go_simp;refine hK _ _ rfl ?_;obtain⟨c0,cB,c1,cS⟩:=HC.out;refine⟨fun h=>c0 (by simpa using h),(fun h1 h2=>by have h9:=cB (by simpa using h1) (by simpa using h2);simpa [updO,Go.Proofs.YtbmkkhpoaicclabGreat.upd] using h9),(fun h1 h2=>by have h9:=c1 (by simpa using h1) (by simpa using h2);simpa [updO,Go.Proofs.YtbmkkhpoaicclabGreat.upd] using h9),fun h=>?_⟩
     have h9:=cS (by simpa using h)
     exact⟨by simp[h9.1],h9.2⟩
    refine StepsE.run rfl ?_ ?_
    ·
     intro L U wr hC hP hlk hcl haf A K hFm hK;simp[Aft,Region.binds]at haf;have g0:U 17=(.pointer (some ⟨g,0,none⟩)):=hP 0 17 (by simp[haf]) rfl
     have e17:A.tmps[17]?=some (.pointer (some ⟨g,0,none⟩)):=hFm.is 0 17 rfl g0;have hM8:M5 wr:=by
      obtain⟨c0,cB,c1,cS⟩:=hC;have hs:L 29=false:=by cases h:L 29 with|false=>rfl|true=>exact absurd (cS h).1 (by simp[hlk])
      cases h14:L 27 with
      | false=>exact HM0.out wr (c0 h14)
      | true=>exact HM1.out wr (U 44) (c1 h14 hs).2.1
     rw[hM5]at hM8;obtain⟨m7,mw,mx,my,hlg,hlw,hlx⟩:=hM8;have HC:Hid _:=hC;clear hC;refine⟨?_⟩;go_simp;refine hK _ _ rfl ?_;obtain⟨c0,cB,c1,cS⟩:=HC.out;refine⟨fun h=>c0 (by simpa using h),(fun h1 h2=>by have h9:=cB (by simpa using h1) (by simpa using h2);simpa [updO,Go.Proofs.YtbmkkhpoaicclabGreat.upd] using h9),(fun h1 h2=>by have h9:=c1 (by simpa using h1) (by simpa using h2);simpa [updO,Go.Proofs.YtbmkkhpoaicclabGreat.upd] using h9),fun h=>?_⟩
     have h9:=cS (by simpa using h)
     exact⟨by simp[h9.1],h9.2⟩
    refine StepsE.run rfl ?_ ?_
    ·
     intro L U wr hC hP hlk hcl haf A K hFm hK;simp[Aft,Region.binds]at haf;have g1:U 18=(.pointer (some ⟨g,0,none⟩)):=hP 1 18 (by simp[haf]) rfl
     have e18:A.tmps[18]?=some (.pointer (some ⟨g,0,none⟩)):=hFm.is 1 18 rfl g1;have hM8:M5 wr:=by
      obtain⟨c0,cB,c1,cS⟩:=hC;have hs:L 29=false:=by cases h:L 29 with|false=>rfl|true=>exact absurd (cS h).1 (by simp[hlk])
      cases h14:L 27 with
      | false=>exact HM0.out wr (c0 h14)
      | true=>exact HM1.out wr (U 44) (c1 h14 hs).2.1
     rw[hM5]at hM8;obtain⟨m7,mw,mx,my,hlg,hlw,hlx⟩:=hM8;have HC:Hid _:=hC;clear hC;refine⟨?_⟩;go_simp;refine hK _ _ rfl ?_;obtain⟨c0,cB,c1,cS⟩:=HC.out;refine⟨fun h=>c0 (by simpa using h),(fun h1 h2=>by have h9:=cB (by simpa using h1) (by simpa using h2);simpa [updO,Go.Proofs.YtbmkkhpoaicclabGreat.upd] using h9),(fun h1 h2=>by have h9:=c1 (by simpa using h1) (by simpa using h2);simpa [updO,Go.Proofs.YtbmkkhpoaicclabGreat.upd] using h9),fun h=>?_⟩
     have h9:=cS (by simpa using h)
     exact⟨by simp[h9.1],h9.2⟩
    refine StepsE.run rfl ?_ ?_
    ·
     intro L U wr hC hP hlk hcl haf A K hFm hK;simp[Aft,Region.binds]at haf;have g2:U 19=(.pointer (some ⟨g,7,none⟩)):=hP 2 19 (by simp[haf]) rfl
     have e19:A.tmps[19]?=some (.pointer (some ⟨g,7,none⟩)):=hFm.is 2 19 rfl g2;have hM8:M5 wr:=by
      obtain⟨c0,cB,c1,cS⟩:=hC;have hs:L 29=false:=by cases h:L 29 with|false=>rfl|true=>exact absurd (cS h).1 (by simp[hlk])
      cases h14:L 27 with
      | false=>exact HM0.out wr (c0 h14)
      | true=>exact HM1.out wr (U 44) (c1 h14 hs).2.1
     rw[hM5]at hM8;obtain⟨m7,mw,mx,my,hlg,hlw,hlx⟩:=hM8;have HC:Hid _:=hC;clear hC;refine⟨?_⟩;go_simp;refine hK _ _ rfl ?_;obtain⟨c0,cB,c1,cS⟩:=HC.out;refine⟨fun h=>c0 (by simpa using h),(fun h1 h2=>by have h9:=cB (by simpa using h1) (by simpa using h2);simpa [updO,Go.Proofs.YtbmkkhpoaicclabGreat.upd] using h9),(fun h1 h2=>by have h9:=c1 (by simpa using h1) (by simpa using h2);simpa [updO,Go.Proofs.YtbmkkhpoaicclabGreat.upd] using h9),fun h=>?_⟩
     have h9:=cS (by simpa using h)
     exact⟨by simp[h9.1],h9.2⟩
    refine StepsE.run rfl ?_ ?_
    ·
     intro L U wr hC hP hlk hcl haf A K hFm hK;simp[Aft,Region.binds]at haf;have e4:A.tmps[4]?=some (.slice (some ⟨bL,0,none⟩) nl cL):=(hFm.old 4 (by decide)).trans (by kernel_rfl)
     have HC:Hid _:=hC;clear hC;refine⟨?_⟩;go_simp;refine hK _ _ rfl ?_;obtain⟨c0,cB,c1,cS⟩:=HC.out;refine⟨fun h=>c0 (by simpa using h),(fun h1 h2=>by have h9:=cB (by simpa using h1) (by simpa using h2);simpa [updO,Go.Proofs.YtbmkkhpoaicclabGreat.upd] using h9),(fun h1 h2=>by have h9:=c1 (by simpa using h1) (by simpa using h2);simpa [updO,Go.Proofs.YtbmkkhpoaicclabGreat.upd] using h9),fun h=>?_⟩
     have h9:=cS (by simpa using h)
     exact⟨by simp[h9.1],h9.2⟩
    refine StepsE.run rfl ?_ ?_
    ·
     intro L U wr hC hP hlk hcl haf A K hFm hK;simp[Aft,Region.binds]at haf;have e5:A.tmps[5]?=some (.int .i64 (i:Nat)):=(hFm.old 5 (by decide)).trans (by kernel_rfl)
     have HC:Hid _:=hC;clear hC;refine⟨?_⟩;go_simp;refine hK _ _ rfl ?_;obtain⟨c0,cB,c1,cS⟩:=HC.out;refine⟨fun h=>c0 (by simpa using h),(fun h1 h2=>by have h9:=cB (by simpa using h1) (by simpa using h2);simpa [updO,Go.Proofs.YtbmkkhpoaicclabGreat.upd] using h9),(fun h1 h2=>by have h9:=c1 (by simpa using h1) (by simpa using h2);simpa [updO,Go.Proofs.YtbmkkhpoaicclabGreat.upd] using h9),fun h=>?_⟩
     have h9:=cS (by simpa using h)
     exact⟨by simp[h9.1],h9.2⟩
    refine StepsE.run rfl ?_ ?_
    ·
     intro L U wr hC hP hlk hcl haf A K hFm hK;simp[Aft,Region.binds]at haf;have g4:U 21=(.slice (some ⟨bL,0,none⟩) nl cL):=hP 4 21 (by simp[haf]) rfl
     have e21:A.tmps[21]?=some (.slice (some ⟨bL,0,none⟩) nl cL):=hFm.is 4 21 rfl g4;have g5:U 22=(.int .i64 (i:Nat)):=hP 5 22 (by simp[haf]) rfl
     have e22:A.tmps[22]?=some (.int .i64 (i:Nat)):=hFm.is 5 22 rfl g5;have h9:=HIB.out.1;have h8:=HIB.out.2;have HC:Hid _:=hC;clear hC;refine⟨?_⟩;go_simp;refine hK _ _ rfl ?_;obtain⟨c0,cB,c1,cS⟩:=HC.out;refine⟨fun h=>c0 (by simpa using h),(fun h1 h2=>by have h9:=cB (by simpa using h1) (by simpa using h2);simpa [updO,Go.Proofs.YtbmkkhpoaicclabGreat.upd] using h9),(fun h1 h2=>by have h9:=c1 (by simpa using h1) (by simpa using h2);simpa [updO,Go.Proofs.YtbmkkhpoaicclabGreat.upd] using h9),fun h=>?_⟩
     have h9:=cS (by simpa using h)
     exact⟨by simp[h9.1],h9.2⟩
    refine StepsE.run rfl ?_ ?_
    ·
     intro L U wr hC hP hlk hcl haf A K hFm hK;simp[Aft,Region.binds]at haf;have g6:U 23=(.pointer (some ⟨bL,i,none⟩)):=hP 6 23 (by simp[haf]) rfl
     have e23:A.tmps[23]?=some (.pointer (some ⟨bL,i,none⟩)):=hFm.is 6 23 rfl g6;have hM8:M5 wr:=by
      obtain⟨c0,cB,c1,cS⟩:=hC;have hs:L 29=false:=by cases h:L 29 with|false=>rfl|true=>exact absurd (cS h).1 (by simp[hlk])
      cases h14:L 27 with
      | false=>exact HM0.out wr (c0 h14)
      | true=>exact HM1.out wr (U 44) (c1 h14 hs).2.1
     rw[hM5]at hM8;obtain⟨m7,mw,mx,my,hlg,hlw,hlx⟩:=hM8;have HC:Hid _:=hC;clear hC;refine⟨?_⟩;go_simp;refine hK _ _ rfl ?_;obtain⟨c0,cB,c1,cS⟩:=HC.out;refine⟨fun h=>c0 (by simpa using h),(fun h1 h2=>by have h9:=cB (by simpa using h1) (by simpa using h2);simpa [updO,Go.Proofs.YtbmkkhpoaicclabGreat.upd] using h9),(fun h1 h2=>by have h9:=c1 (by simpa using h1) (by simpa using h2);simpa [updO,Go.Proofs.YtbmkkhpoaicclabGreat.upd] using h9),fun h=>?_⟩
     have h9:=cS (by simpa using h)
     exact⟨by simp[h9.1],h9.2⟩
    refine StepsE.run rfl ?_ ?_
    ·
     intro L U wr hC hP hlk hcl haf A K hFm hK;simp[Aft,Region.binds]at haf;have e0:A.tmps[0]?=some (.pointer (some ⟨g,0,none⟩)):=(hFm.old 0 (by decide)).trans (by kernel_rfl)
     have HC:Hid _:=hC;clear hC;refine⟨?_⟩;go_simp;refine hK _ _ rfl ?_;obtain⟨c0,cB,c1,cS⟩:=HC.out;refine⟨fun h=>c0 (by simpa using h),(fun h1 h2=>by have h9:=cB (by simpa using h1) (by simpa using h2);simpa [updO,Go.Proofs.YtbmkkhpoaicclabGreat.upd] using h9),(fun h1 h2=>by have h9:=c1 (by simpa using h1) (by simpa using h2);simpa [updO,Go.Proofs.YtbmkkhpoaicclabGreat.upd] using h9),fun h=>?_⟩
     have h9:=cS (by simpa using h)
     exact⟨by simp[h9.1],h9.2⟩
    refine StepsE.run rfl ?_ ?_
    ·
     intro L U wr hC hP hlk hcl haf A K hFm hK;simp[Aft,Region.binds]at haf;have g8:U 25=(.pointer (some ⟨g,0,none⟩)):=hP 8 25 (by simp[haf]) rfl
     have e25:A.tmps[25]?=some (.pointer (some ⟨g,0,none⟩)):=hFm.is 8 25 rfl g8;have hM8:M5 wr:=by
      obtain⟨c0,cB,c1,cS⟩:=hC;have hs:L 29=false:=by cases h:L 29 with|false=>rfl|true=>exact absurd (cS h).1 (by simp[hlk])
      cases h14:L 27 with
      | false=>exact HM0.out wr (c0 h14)
      | true=>exact HM1.out wr (U 44) (c1 h14 hs).2.1
     rw[hM5]at hM8;obtain⟨m7,mw,mx,my,hlg,hlw,hlx⟩:=hM8;have HC:Hid _:=hC;clear hC;refine⟨?_⟩;go_simp;refine hK _ _ rfl ?_;obtain⟨c0,cB,c1,cS⟩:=HC.out;refine⟨fun h=>c0 (by simpa using h),(fun h1 h2=>by have h9:=cB (by simpa using h1) (by simpa using h2);simpa [updO,Go.Proofs.YtbmkkhpoaicclabGreat.upd] using h9),(fun h1 h2=>by have h9:=c1 (by simpa using h1) (by simpa using h2);simpa [updO,Go.Proofs.YtbmkkhpoaicclabGreat.upd] using h9),fun h=>?_⟩
     have h9:=cS (by simpa using h)
     exact⟨by simp[h9.1],h9.2⟩
    refine StepsE.run rfl ?_ ?_
    ·
     intro L U wr hC hP hlk hcl haf A K hFm hK;simp[Aft,Region.binds]at haf;have g9:U 26=(.pointer (some ⟨g,0,none⟩)):=hP 9 26 (by simp[haf]) rfl
     have e26:A.tmps[26]?=some (.pointer (some ⟨g,0,none⟩)):=hFm.is 9 26 rfl g9;have hM8:M5 wr:=by
      obtain⟨c0,cB,c1,cS⟩:=hC;have hs:L 29=false:=by cases h:L 29 with|false=>rfl|true=>exact absurd (cS h).1 (by simp[hlk])
      cases h14:L 27 with
      | false=>exact HM0.out wr (c0 h14)
      | true=>exact HM1.out wr (U 44) (c1 h14 hs).2.1
     rw[hM5]at hM8;obtain⟨m7,mw,mx,my,hlg,hlw,hlx⟩:=hM8;have HC:Hid _:=hC;clear hC;refine⟨?_⟩;go_simp;refine hK _ _ rfl ?_;obtain⟨c0,cB,c1,cS⟩:=HC.out;refine⟨fun h=>c0 (by simpa using h),(fun h1 h2=>by have h9:=cB (by simpa using h1) (by simpa using h2);simpa [updO,Go.Proofs.YtbmkkhpoaicclabGreat.upd] using h9),(fun h1 h2=>by have h9:=c1 (by simpa using h1) (by simpa using h2);simpa [updO,Go.Proofs.YtbmkkhpoaicclabGreat.upd] using h9),fun h=>?_⟩
     have h9:=cS (by simpa using h)
     exact⟨by simp[h9.1],h9.2⟩
    refine StepsE.run rfl ?_ ?_
    ·
     intro L U wr hC hP hlk hcl haf A K hFm hK;simp[Aft,Region.binds]at haf;have g10:U 27=(.pointer (some ⟨g,7,none⟩)):=hP 10 27 (by simp[haf]) rfl
     have e27:A.tmps[27]?=some (.pointer (some ⟨g,7,none⟩)):=hFm.is 10 27 rfl g10;have hM8:M5 wr:=by
      obtain⟨c0,cB,c1,cS⟩:=hC;have hs:L 29=false:=by cases h:L 29 with|false=>rfl|true=>exact absurd (cS h).1 (by simp[hlk])
      cases h14:L 27 with
      | false=>exact HM0.out wr (c0 h14)
      | true=>exact HM1.out wr (U 44) (c1 h14 hs).2.1
     rw[hM5]at hM8;obtain⟨m7,mw,mx,my,hlg,hlw,hlx⟩:=hM8;have HC:Hid _:=hC;clear hC;refine⟨?_⟩;go_simp;refine hK _ _ rfl ?_;obtain⟨c0,cB,c1,cS⟩:=HC.out;refine⟨fun h=>c0 (by simpa using h),(fun h1 h2=>by have h9:=cB (by simpa using h1) (by simpa using h2);simpa [updO,Go.Proofs.YtbmkkhpoaicclabGreat.upd] using h9),(fun h1 h2=>by have h9:=c1 (by simpa using h1) (by simpa using h2);simpa [updO,Go.Proofs.YtbmkkhpoaicclabGreat.upd] using h9),fun h=>?_⟩
     have h9:=cS (by simpa using h)
     exact⟨by simp[h9.1],h9.2⟩
    refine StepsE.run rfl ?_ ?_
    ·
     intro L U wr hC hP hlk hcl haf A K hFm hK;simp[Aft,Region.binds]at haf;have e4:A.tmps[4]?=some (.slice (some ⟨bL,0,none⟩) nl cL):=(hFm.old 4 (by decide)).trans (by kernel_rfl)
     have HC:Hid _:=hC;clear hC;refine⟨?_⟩;go_simp;refine hK _ _ rfl ?_;obtain⟨c0,cB,c1,cS⟩:=HC.out;refine⟨fun h=>c0 (by simpa using h),(fun h1 h2=>by have h9:=cB (by simpa using h1) (by simpa using h2);simpa [updO,Go.Proofs.YtbmkkhpoaicclabGreat.upd] using h9),(fun h1 h2=>by have h9:=c1 (by simpa using h1) (by simpa using h2);simpa [updO,Go.Proofs.YtbmkkhpoaicclabGreat.upd] using h9),fun h=>?_⟩
     have h9:=cS (by simpa using h)
     exact⟨by simp[h9.1],h9.2⟩
    refine StepsE.run rfl ?_ ?_
    ·
     intro L U wr hC hP hlk hcl haf A K hFm hK;simp[Aft,Region.binds]at haf;have e5:A.tmps[5]?=some (.int .i64 (i:Nat)):=(hFm.old 5 (by decide)).trans (by kernel_rfl)
     have HC:Hid _:=hC;clear hC;refine⟨?_⟩;go_simp;refine hK _ _ rfl ?_;obtain⟨c0,cB,c1,cS⟩:=HC.out;refine⟨fun h=>c0 (by simpa using h),(fun h1 h2=>by have h9:=cB (by simpa using h1) (by simpa using h2);simpa [updO,Go.Proofs.YtbmkkhpoaicclabGreat.upd] using h9),(fun h1 h2=>by have h9:=c1 (by simpa using h1) (by simpa using h2);simpa [updO,Go.Proofs.YtbmkkhpoaicclabGreat.upd] using h9),fun h=>?_⟩
     have h9:=cS (by simpa using h)
     exact⟨by simp[h9.1],h9.2⟩
    refine StepsE.run rfl ?_ ?_
    ·
     intro L U wr hC hP hlk hcl haf A K hFm hK;simp[Aft,Region.binds]at haf;have g12:U 29=(.slice (some ⟨bL,0,none⟩) nl cL):=hP 12 29 (by simp[haf]) rfl
     have e29:A.tmps[29]?=some (.slice (some ⟨bL,0,none⟩) nl cL):=hFm.is 12 29 rfl g12;have g13:U 30=(.int .i64 (i:Nat)):=hP 13 30 (by simp[haf]) rfl
     have e30:A.tmps[30]?=some (.int .i64 (i:Nat)):=hFm.is 13 30 rfl g13;have h9:=HIB.out.1;have h8:=HIB.out.2;have HC:Hid _:=hC;clear hC;refine⟨?_⟩;go_simp;refine hK _ _ rfl ?_;obtain⟨c0,cB,c1,cS⟩:=HC.out;refine⟨fun h=>c0 (by simpa using h),(fun h1 h2=>by have h9:=cB (by simpa using h1) (by simpa using h2);simpa [updO,Go.Proofs.YtbmkkhpoaicclabGreat.upd] using h9),(fun h1 h2=>by have h9:=c1 (by simpa using h1) (by simpa using h2);simpa [updO,Go.Proofs.YtbmkkhpoaicclabGreat.upd] using h9),fun h=>?_⟩
     have h9:=cS (by simpa using h)
     exact⟨by simp[h9.1],h9.2⟩
    refine StepsE.run rfl ?_ ?_
    ·
     intro L U wr hC hP hlk hcl haf A K hFm hK;simp[Aft,Region.binds]at haf;have g14:U 31=(.pointer (some ⟨bL,i,none⟩)):=hP 14 31 (by simp[haf]) rfl
     have e31:A.tmps[31]?=some (.pointer (some ⟨bL,i,none⟩)):=hFm.is 14 31 rfl g14;have hM8:M5 wr:=by
      obtain⟨c0,cB,c1,cS⟩:=hC;have hs:L 29=false:=by cases h:L 29 with|false=>rfl|true=>exact absurd (cS h).1 (by simp[hlk])
      cases h14:L 27 with
      | false=>exact HM0.out wr (c0 h14)
      | true=>exact HM1.out wr (U 44) (c1 h14 hs).2.1
     rw[hM5]at hM8;obtain⟨m7,mw,mx,my,hlg,hlw,hlx⟩:=hM8;have HC:Hid _:=hC;clear hC;refine⟨?_⟩;go_simp;refine hK _ _ rfl ?_;obtain⟨c0,cB,c1,cS⟩:=HC.out;refine⟨fun h=>c0 (by simpa using h),(fun h1 h2=>by have h9:=cB (by simpa using h1) (by simpa using h2);simpa [updO,Go.Proofs.YtbmkkhpoaicclabGreat.upd] using h9),(fun h1 h2=>by have h9:=c1 (by simpa using h1) (by simpa using h2);simpa [updO,Go.Proofs.YtbmkkhpoaicclabGreat.upd] using h9),fun h=>?_⟩
     have h9:=cS (by simpa using h)
     exact⟨by simp[h9.1],h9.2⟩
    refine StepsE.run rfl ?_ ?_
    ·
     intro L U wr hC hP hlk hcl haf A K hFm hK;simp[Aft,Region.binds]at haf;have g11:U 28=(.slice (some ⟨bW,0,none⟩) (2*(d.nv+1)) cW):=hP 11 28 (by simp[haf]) rfl
     have e28:A.tmps[28]?=some (.slice (some ⟨bW,0,none⟩) (2*(d.nv+1)) cW):=hFm.is 11 28 rfl g11;have g15:U 32=(.int .i32 (p:Nat)):=hP 15 32 (by simp[haf]) rfl
     have e32:A.tmps[32]?=some (.int .i32 (p:Nat)):=hFm.is 15 32 rfl g15;have h9:=HLB.out.1;have h8:=HLB.out.2;have HC:Hid _:=hC;clear hC;refine⟨?_⟩;go_simp;refine hK _ _ rfl ?_;obtain⟨c0,cB,c1,cS⟩:=HC.out;refine⟨fun h=>c0 (by simpa using h),(fun h1 h2=>by have h9:=cB (by simpa using h1) (by simpa using h2);simpa [updO,Go.Proofs.YtbmkkhpoaicclabGreat.upd] using h9),(fun h1 h2=>by have h9:=c1 (by simpa using h1) (by simpa using h2);simpa [updO,Go.Proofs.YtbmkkhpoaicclabGreat.upd] using h9),fun h=>?_⟩
     have h9:=cS (by simpa using h)
     exact⟨by simp[h9.1],h9.2⟩
    refine StepsE.run rfl ?_ ?_
    ·
     intro L U wr hC hP hlk hcl haf A K hFm hK;simp[Aft,Region.binds]at haf;have g16:U 33=(.pointer (some ⟨bW,p,none⟩)):=hP 16 33 (by simp[haf]) rfl
     have e33:A.tmps[33]?=some (.pointer (some ⟨bW,p,none⟩)):=hFm.is 16 33 rfl g16;have hM8:M5 wr:=by
      obtain⟨c0,cB,c1,cS⟩:=hC;have hs:L 29=false:=by cases h:L 29 with|false=>rfl|true=>exact absurd (cS h).1 (by simp[hlk])
      cases h14:L 27 with
      | false=>exact HM0.out wr (c0 h14)
      | true=>exact HM1.out wr (U 44) (c1 h14 hs).2.1
     rw[hM5]at hM8;obtain⟨m7,mw,mx,my,hlg,hlw,hlx⟩:=hM8;have HC:Hid _:=hC;clear hC;refine⟨?_⟩;go_simp;refine hK _ _ rfl ?_;obtain⟨c0,cB,c1,cS⟩:=HC.out;refine⟨fun h=>c0 (by simpa using h),(fun h1 h2=>by have h9:=cB (by simpa using h1) (by simpa using h2);simpa [updO,Go.Proofs.YtbmkkhpoaicclabGreat.upd] using h9),(fun h1 h2=>by have h9:=c1 (by simpa using h1) (by simpa using h2);simpa [updO,Go.Proofs.YtbmkkhpoaicclabGreat.upd] using h9),fun h=>?_⟩
     have h9:=cS (by simpa using h)
     exact⟨by simp[h9.1],h9.2⟩
    refine StepsE.run rfl ?_ ?_
    ·
     intro L U wr hC hP hlk hcl haf A K hFm hK;simp[Aft,Region.binds]at haf;have e1:A.tmps[1]?=some (.int .i64 (c:Nat)):=(hFm.old 1 (by decide)).trans (by kernel_rfl)
     have HC:Hid _:=hC;clear hC;refine⟨?_⟩;go_simp;refine hK _ _ rfl ?_;obtain⟨c0,cB,c1,cS⟩:=HC.out;refine⟨fun h=>c0 (by simpa using h),(fun h1 h2=>by have h9:=cB (by simpa using h1) (by simpa using h2);simpa [updO,Go.Proofs.YtbmkkhpoaicclabGreat.upd] using h9),(fun h1 h2=>by have h9:=c1 (by simpa using h1) (by simpa using h2);simpa [updO,Go.Proofs.YtbmkkhpoaicclabGreat.upd] using h9),fun h=>?_⟩
     have h9:=cS (by simpa using h)
     exact⟨by simp[h9.1],h9.2⟩
    refine StepsE.run rfl ?_ ?_
    ·
     intro L U wr hC hP hlk hcl haf A K hFm hK;simp[Aft,Region.binds]at haf;have g18:U 35=(.int .i64 (c:Nat)):=hP 18 35 (by simp[haf]) rfl
     have e35:A.tmps[35]?=some (.int .i64 (c:Nat)):=hFm.is 18 35 rfl g18;have h9:=HCW.out;have HC:Hid _:=hC;clear hC;refine⟨?_⟩;go_simp;refine hK _ _ rfl ?_;obtain⟨c0,cB,c1,cS⟩:=HC.out;refine⟨fun h=>c0 (by simpa using h),(fun h1 h2=>by have h9:=cB (by simpa using h1) (by simpa using h2);simpa [updO,Go.Proofs.YtbmkkhpoaicclabGreat.upd] using h9),(fun h1 h2=>by have h9:=c1 (by simpa using h1) (by simpa using h2);simpa [updO,Go.Proofs.YtbmkkhpoaicclabGreat.upd] using h9),fun h=>?_⟩
     have h9:=cS (by simpa using h)
     exact⟨by simp[h9.1],h9.2⟩
    refine StepsE.run rfl ?_ ?_
    ·
     intro L U wr hC hP hlk hcl haf A K hFm hK;simp[Aft,Region.binds]at haf;have e4:A.tmps[4]?=some (.slice (some ⟨bL,0,none⟩) nl cL):=(hFm.old 4 (by decide)).trans (by kernel_rfl)
     have HC:Hid _:=hC;clear hC;refine⟨?_⟩;go_simp;refine hK _ _ rfl ?_;obtain⟨c0,cB,c1,cS⟩:=HC.out;refine⟨fun h=>c0 (by simpa using h),(fun h1 h2=>by have h9:=cB (by simpa using h1) (by simpa using h2);simpa [updO,Go.Proofs.YtbmkkhpoaicclabGreat.upd] using h9),(fun h1 h2=>by have h9:=c1 (by simpa using h1) (by simpa using h2);simpa [updO,Go.Proofs.YtbmkkhpoaicclabGreat.upd] using h9),fun h=>?_⟩
     have h9:=cS (by simpa using h)
     exact⟨by simp[h9.1],h9.2⟩
    refine StepsE.run rfl ?_ ?_
    ·
     intro L U wr hC hP hlk hcl haf A K hFm hK;simp[Aft,Region.binds]at haf;have e5:A.tmps[5]?=some (.int .i64 (i:Nat)):=(hFm.old 5 (by decide)).trans (by kernel_rfl)
     have HC:Hid _:=hC;clear hC;refine⟨?_⟩;go_simp;refine hK _ _ rfl ?_;obtain⟨c0,cB,c1,cS⟩:=HC.out;refine⟨fun h=>c0 (by simpa using h),(fun h1 h2=>by have h9:=cB (by simpa using h1) (by simpa using h2);simpa [updO,Go.Proofs.YtbmkkhpoaicclabGreat.upd] using h9),(fun h1 h2=>by have h9:=c1 (by simpa using h1) (by simpa using h2);simpa [updO,Go.Proofs.YtbmkkhpoaicclabGreat.upd] using h9),fun h=>?_⟩
     have h9:=cS (by simpa using h)
     exact⟨by simp[h9.1],h9.2⟩
    refine StepsE.run rfl ?_ ?_
    ·
     intro L U wr hC hP hlk hcl haf A K hFm hK;simp[Aft,Region.binds]at haf;have g21:U 38=(.int .i64 (i:Nat)):=hP 21 38 (by simp[haf]) rfl
     have e38:A.tmps[38]?=some (.int .i64 (i:Nat)):=hFm.is 21 38 rfl g21;have h9:=HSUB.out;have HC:Hid _:=hC;clear hC;refine⟨?_⟩;go_simp;refine hK _ _ rfl ?_;obtain⟨c0,cB,c1,cS⟩:=HC.out;refine⟨fun h=>c0 (by simpa using h),(fun h1 h2=>by have h9:=cB (by simpa using h1) (by simpa using h2);simpa [updO,Go.Proofs.YtbmkkhpoaicclabGreat.upd] using h9),(fun h1 h2=>by have h9:=c1 (by simpa using h1) (by simpa using h2);simpa [updO,Go.Proofs.YtbmkkhpoaicclabGreat.upd] using h9),fun h=>?_⟩
     have h9:=cS (by simpa using h)
     exact⟨by simp[h9.1],h9.2⟩
    refine StepsE.run rfl ?_ ?_
    ·
     intro L U wr hC hP hlk hcl haf A K hFm hK;simp[Aft,Region.binds]at haf;have g20:U 37=(.slice (some ⟨bL,0,none⟩) nl cL):=hP 20 37 (by simp[haf]) rfl
     have e37:A.tmps[37]?=some (.slice (some ⟨bL,0,none⟩) nl cL):=hFm.is 20 37 rfl g20;have g22:U 39=(.int .i64 (k:Nat)):=hP 22 39 (by simp[haf]) rfl
     have e39:A.tmps[39]?=some (.int .i64 (k:Nat)):=hFm.is 22 39 rfl g22;have h9:=HKB.out.1;have h8:=HKB.out.2;have HC:Hid _:=hC;clear hC;refine⟨?_⟩;go_simp;refine hK _ _ rfl ?_;obtain⟨c0,cB,c1,cS⟩:=HC.out;refine⟨fun h=>c0 (by simpa using h),(fun h1 h2=>by have h9:=cB (by simpa using h1) (by simpa using h2);simpa [updO,Go.Proofs.YtbmkkhpoaicclabGreat.upd] using h9),(fun h1 h2=>by have h9:=c1 (by simpa using h1) (by simpa using h2);simpa [updO,Go.Proofs.YtbmkkhpoaicclabGreat.upd] using h9),fun h=>?_⟩
     have h9:=cS (by simpa using h)
     exact⟨by simp[h9.1],h9.2⟩
    refine StepsE.run rfl ?_ ?_
    ·
     intro L U wr hC hP hlk hcl haf A K hFm hK;simp[Aft,Region.binds]at haf;have g23:U 40=(.pointer (some ⟨bL,k,none⟩)):=hP 23 40 (by simp[haf]) rfl
     have e40:A.tmps[40]?=some (.pointer (some ⟨bL,k,none⟩)):=hFm.is 23 40 rfl g23;have hM8:M5 wr:=by
      obtain⟨c0,cB,c1,cS⟩:=hC;have hs:L 29=false:=by cases h:L 29 with|false=>rfl|true=>exact absurd (cS h).1 (by simp[hlk])
      cases h14:L 27 with
      | false=>exact HM0.out wr (c0 h14)
      | true=>exact HM1.out wr (U 44) (c1 h14 hs).2.1
     rw[hM5]at hM8;obtain⟨m7,mw,mx,my,hlg,hlw,hlx⟩:=hM8;have HC:Hid _:=hC;clear hC;refine⟨?_⟩;go_simp;refine hK _ _ rfl ?_;obtain⟨c0,cB,c1,cS⟩:=HC.out;refine⟨fun h=>c0 (by simpa using h),(fun h1 h2=>by have h9:=cB (by simpa using h1) (by simpa using h2);simpa [updO,Go.Proofs.YtbmkkhpoaicclabGreat.upd] using h9),(fun h1 h2=>by have h9:=c1 (by simpa using h1) (by simpa using h2);simpa [updO,Go.Proofs.YtbmkkhpoaicclabGreat.upd] using h9),fun h=>?_⟩
     have h9:=cS (by simpa using h)
     exact⟨by simp[h9.1],h9.2⟩
    refine StepsE.run rfl ?_ ?_
    ·
     intro L U wr hC hP hlk hcl haf A K hFm hK;simp[Aft,Region.binds]at haf;have g19:U 36=(.int .i32 (c:Nat)):=hP 19 36 (by simp[haf]) rfl
     have e36:A.tmps[36]?=some (.int .i32 (c:Nat)):=hFm.is 19 36 rfl g19;have g24:U 41=(.int .i32 (q:Nat)):=hP 24 41 (by simp[haf]) rfl
     have e41:A.tmps[41]?=some (.int .i32 (q:Nat)):=hFm.is 24 41 rfl g24;have HC:Hid _:=hC;clear hC;refine⟨?_⟩;go_simp;refine hK _ _ rfl ?_;obtain⟨c0,cB,c1,cS⟩:=HC.out;refine⟨fun h=>c0 (by simpa using h),(fun h1 h2=>by have h9:=cB (by simpa using h1) (by simpa using h2);simpa [updO,Go.Proofs.YtbmkkhpoaicclabGreat.upd] using h9),(fun h1 h2=>by have h9:=c1 (by simpa using h1) (by simpa using h2);simpa [updO,Go.Proofs.YtbmkkhpoaicclabGreat.upd] using h9),fun h=>?_⟩
     have h9:=cS (by simpa using h)
     exact⟨by simp[h9.1],h9.2⟩
    refine StepsE.run rfl ?_ ?_
    ·
     intro L U wr hC hP hlk hcl haf A K hFm hK;simp[Aft,Region.binds]at haf;have g25:U 42=(.agg #[.int .i32 (c:Nat),.int .i32 (q:Nat)]):=hP 25 42 (by simp[haf]) rfl
     have e42:A.tmps[42]?=some (.agg #[.int .i32 (c:Nat),.int .i32 (q:Nat)]):=hFm.is 25 42 rfl g25;have hA9:L 27=false:=by cases h:L 27 with|false=>rfl|true=>have h9:=hcl 27 _ rfl h;simp[Aft,Region.binds,hlk]at h9
     refine⟨?_⟩;go_simp;refine hK _ _ trivial ⟨fun h=>?_,fun _ _=>?_,fun h1 h2=>?_,fun h=>?_⟩
     · exact ((hC.1 hA9).alloc (hC.1 hA9).size _)
     · exact⟨wr.heap.size,rfl,heap_alloc_new wr _⟩
     · simp[hA9]at h1
     ·
      have h9:=(hC.2.2.2 (by simpa using h)).1
      simp[hlk]at h9
    refine StepsE.run rfl ?_ ?_
    ·
     intro L U wr hC hP hlk hcl haf A K hFm hK;simp[Aft,Region.binds]at haf;have g17:U 34=(vW):=hP 17 34 (by simp[haf]) rfl
     have e34:A.tmps[34]?=some (vW):=hFm.is 17 34 rfl g17;have e43:A.tmps[43]?=some (U 43):=hFm.got 26 43 rfl;have l26:L 26=true:=by simp[haf]
     refine⟨?_⟩;refine wp_push1 (.tmp 34) (.tmp 43) 131 rfl 2 133 _ 8 uWl iWl (by decide) rfl (by decide) (vW) (LW.length) (prC LW) (by simp[Act.eval,e34]) (HOWN.out wr (hC.1 hlk)) (fun _ _=>rfl) [.int .i32 (c:Nat),.int .i32 (q:Nat)] 133 (U 43) (hC.2.1 l26 hlk) (by simp[Act.eval,e43]) rfl (by intro u hu;simp at hu;rcases hu with rfl|rfl<;>rfl) HNB.out (prC (LW++[(c,q)])) (fun q hq=>by simp[prC,List.getElem?_append_left hq]) (by simp[prC]) ?_
     intro v9 w9 hol9 hap9 hne9;refine hK _ _ trivial ⟨fun h=>?_,fun _ h=>?_,fun _ _=>?_,fun h=>?_⟩
     · simp at h
     · simp at h
     · simp only[updO,Go.Proofs.YtbmkkhpoaicclabGreat.upd,beq_self_eq_true,cond_true];exact⟨hol9,hap9.ofBelow (hC.1 hlk),hne9⟩
     ·
      have h9:=(hC.2.2.2 (by simpa using h)).1
      simp[hlk]at h9
    refine StepsE.run rfl ?_ ?_
    ·
     intro L U wr hC hP hlk hcl haf A K hFm hK;simp[Aft,Region.binds]at haf;have g3:U 20=(.slice (some ⟨bW,0,none⟩) (2*(d.nv+1)) cW):=hP 3 20 (by simp[haf]) rfl
     have e20:A.tmps[20]?=some (.slice (some ⟨bW,0,none⟩) (2*(d.nv+1)) cW):=hFm.is 3 20 rfl g3;have g7:U 24=(.int .i32 (p:Nat)):=hP 7 24 (by simp[haf]) rfl
     have e24:A.tmps[24]?=some (.int .i32 (p:Nat)):=hFm.is 7 24 rfl g7;have h9:=HLB.out.1;have h8:=HLB.out.2;have HC:Hid _:=hC;clear hC;refine⟨?_⟩;go_simp;refine hK _ _ rfl ?_;obtain⟨c0,cB,c1,cS⟩:=HC.out;refine⟨fun h=>c0 (by simpa using h),(fun h1 h2=>by have h9:=cB (by simpa using h1) (by simpa using h2);simpa [updO,Go.Proofs.YtbmkkhpoaicclabGreat.upd] using h9),(fun h1 h2=>by have h9:=c1 (by simpa using h1) (by simpa using h2);simpa [updO,Go.Proofs.YtbmkkhpoaicclabGreat.upd] using h9),fun h=>?_⟩
     have h9:=cS (by simpa using h)
     exact⟨by simp[h9.1],h9.2⟩
    refine StepsE.run rfl ?_ StepsE.nil
    ·
     intro L U wr hC hP hlk hcl haf A K hFm hK;simp[Aft,Region.binds]at haf;have g28:U 45=(.pointer (some ⟨bW,p,none⟩)):=hP 28 45 (by simp[haf]) rfl
     have e45:A.tmps[45]?=some (.pointer (some ⟨bW,p,none⟩)):=hFm.is 28 45 rfl g28;have e44:A.tmps[44]?=some (U 44):=hFm.got 27 44 rfl;have l28:L 28=true:=by simp[haf]
     have l27:L 27=true:=by simp[haf]
     have a28:=hcl 28 _ rfl l28;simp[Aft,Region.binds]at a28;have l3:L 3=true:=by simp[a28]
     have l7:L 7=true:=by simp[a28]
     have a27:=hcl 27 _ rfl l27;simp[Aft,Region.binds]at a27;have l17:L 17=true:=by simp[a27]
     have l26:L 26=true:=by simp[a27]
     have a3:=hcl 3 _ rfl l3;simp[Aft,Region.binds]at a3;have l2:L 2=true:=by simp[a3]
     have a7:=hcl 7 _ rfl l7;simp[Aft,Region.binds]at a7;have l6:L 6=true:=by simp[a7]
     have a17:=hcl 17 _ rfl l17;simp[Aft,Region.binds]at a17;have l16:L 16=true:=by simp[a17]
     have a26:=hcl 26 _ rfl l26;simp[Aft,Region.binds]at a26;have l25:L 25=true:=by simp[a26]
     have a2:=hcl 2 _ rfl l2;simp[Aft,Region.binds]at a2;have l1:L 1=true:=by simp[a2]
     have a6:=hcl 6 _ rfl l6;simp[Aft,Region.binds]at a6;have l4:L 4=true:=by simp[a6]
     have l5:L 5=true:=by simp[a6]
     have a16:=hcl 16 _ rfl l16;simp[Aft,Region.binds]at a16;have l11:L 11=true:=by simp[a16]
     have l15:L 15=true:=by simp[a16]
     have a25:=hcl 25 _ rfl l25;simp[Aft,Region.binds]at a25;have l19:L 19=true:=by simp[a25]
     have l24:L 24=true:=by simp[a25]
     have a1:=hcl 1 _ rfl l1;simp[Aft,Region.binds]at a1;have l0:L 0=true:=by simp[a1]
     have a11:=hcl 11 _ rfl l11;simp[Aft,Region.binds]at a11;have l10:L 10=true:=by simp[a11]
     have a15:=hcl 15 _ rfl l15;simp[Aft,Region.binds]at a15;have l14:L 14=true:=by simp[a15]
     have a19:=hcl 19 _ rfl l19;simp[Aft,Region.binds]at a19;have l18:L 18=true:=by simp[a19]
     have a24:=hcl 24 _ rfl l24;simp[Aft,Region.binds]at a24;have l23:L 23=true:=by simp[a24]
     have a10:=hcl 10 _ rfl l10;simp[Aft,Region.binds]at a10;have l9:L 9=true:=by simp[a10]
     have a14:=hcl 14 _ rfl l14;simp[Aft,Region.binds]at a14;have l12:L 12=true:=by simp[a14]
     have l13:L 13=true:=by simp[a14]
     have a23:=hcl 23 _ rfl l23;simp[Aft,Region.binds]at a23;have l20:L 20=true:=by simp[a23]
     have l22:L 22=true:=by simp[a23]
     have a9:=hcl 9 _ rfl l9;simp[Aft,Region.binds]at a9;have l8:L 8=true:=by simp[a9]
     have a22:=hcl 22 _ rfl l22;simp[Aft,Region.binds]at a22;have l21:L 21=true:=by simp[a22]
     refine⟨?_⟩;obtain⟨hol9,hap9,hne9⟩:=hC.2.2.1 l27 hlk;have HKK:Hid _:=HSET.out wr (U 44) hol9 hap9 hne9;obtain⟨k4,k5⟩:=HFZ.out wr (U 44) hap9;obtain⟨ao9,cc9,hv9,-,-,-,-⟩:=hol9.shape;obtain⟨nl,hnl⟩:∃nl,nl=LW.length+1:=⟨_,rfl⟩;rw[← hnl]at hv9;clear hnl;have e44:A.tmps[44]?=some (.slice ao9 nl cc9):=hFm.is 27 44 rfl hv9;rw[hv9]at HKK;clear hol9 hap9 hne9 hC;go_simp;refine hK (.tuple #[]) _ trivial ⟨fun h=>?_,fun h1 h2=>?_,fun h1 h2=>?_,fun _=>⟨?_,HKK.out⟩⟩
     · simp[l27]at h
     · simp[l27]at h2
     · simp at h2
     · simp[l0,l1,l2,l3,l4,l5,l6,l7,l8,l9,l10,l11,l12,l13,l14,l15,l16,l17,l18,l19,l20,l21,l22,l23,l24,l25,l26,l27,l28]
   intro L U5 V5 hall hC hP;have hE:=(hC.2.2.2 (hall 29 (by decide))).2
   rw[hE5]at hE;obtain⟨v9,s9,m9⟩:=hE;rw[HNX.out]at s9 m9;have HE:Hid (SW V5 g (wtD d0 c p0 p1 (i+1)) (updK a (kWl p) v9)∧Mo g d0 a0 w (wtD d0 c p0 p1 (i+1)) (updK a (kWl p) v9) V5):=⟨s9,m9⟩;simp only[setM_some,setM_none,setM_nil];clear hC hP hall s9 m9 HSET HFZ HOWN HM0 HM1 hE5 hM5 HNB HLB HCW HIB HKB HSUB H HAD HNX;go_wp2;go_roundw
   case rel=>exact⟨i+1,_,by go_num,by omega,HE.out⟩
   case measure=>simp[intOf]<;>omega
  ·
   have hltI:¬ ((i:Int)<2):=by omega
   obtain rfl:i=2:=by omega
   go_wp2;go_end0
   exact⟨rfl,a,H.out⟩
end Sat
namespace Sat
def Two (lits:List Nat) (a b:Nat):Prop:=∃r,lits=a::b::r
structure CI (nv nc:Nat) (C:Nat→Cl):Prop where
  ok:∀c,c<nc→∀m∈(C c).lits,2≤m∧m<2*(nv+1)
  nd:∀c,c<nc→((C c).lits.map (· / 2)).Nodup
structure WI (nv nc:Nat) (C:Nat→Cl) (W:Nat→List (Nat × Nat)):Prop where
  w1:∀l,l<2*(nv+1)→∀p∈W l,p.1<nc∧(∃a b,Two (C p.1).lits a b∧(l=a∨l=b))∧p.2∈(C p.1).lits
  w2:∀l,l<2*(nv+1)→((W l).map Prod.fst).Nodup
def Done (T S:List Nat) (C:Nat→Cl) (h l:Nat) (p:Nat × Nat):Prop :=
  ∀i,i<h→T[i]?=some (ng l)→∃j o,o∈(C p.1).lits∧T[j]?=some o∧lvl S j≤lvl S i
def W4 (nv:Nat) (T S:List Nat) (C:Nat→Cl) (W:Nat→List (Nat × Nat)) (h:Nat):Prop:=∀l,l<2*(nv+1)→∀p∈W l,Done T S C h l p
def low (T S:List Nat) (m:Nat):Prop:=∃i,T[i]?=some m∧lvl S i=0
def Held (T S:List Nat) (C:Nat→Cl) (W:Nat→List (Nat × Nat)) (c:Nat):Prop :=
  (∃a b,Two (C c).lits a b∧c∈(W a).map Prod.fst∧c∈(W b).map Prod.fst)∨∃m∈(C c).lits,low T S m
def Free (T:List Nat) (s:Nat) (lits:List Nat):Prop:=(∃m∈lits,m∈T.take s)∨∃m∈lits,∃m'∈lits,m≠m'∧ng m ∉ T.take s∧ng m' ∉ T.take s
section
variable {nv nc:Nat} {T S:List Nat} {C C':Nat→Cl} {W W':Nat→List (Nat × Nat)} {h:Nat}
theorem low.push {m x:Nat} (hl:low T S m):low (T++[x]) S m:=by
 obtain⟨i,h1,h2⟩:=hl;exact⟨i,by rw[List.getElem?_append_left (List.getElem?_eq_some_iff.1 h1).1];exact h1,h2⟩
theorem Done.push {l x:Nat} {p:Nat × Nat} (hd:Done T S C h l p) (hh:h≤T.length):Done (T++[x]) S C h l p:=by
 intro i hi he;rw[List.getElem?_append_left (by omega)]at he
 obtain⟨j,o,h1,h2,h3⟩:=hd i hi he;exact⟨j,o,h1,by rw[List.getElem?_append_left (List.getElem?_eq_some_iff.1 h2).1];exact h2,h3⟩
theorem W4.push {x:Nat} (hw:W4 nv T S C W h) (hh:h≤T.length):W4 nv (T++[x]) S C W h:=fun l hl p hp=>(hw l hl p hp).push hh
theorem Done.turn {l:Nat} {p p':Nat × Nat} (hd:Done T S C h l p) (he:∀o,o∈(C p.1).lits→o∈(C' p'.1).lits):Done T S C' h l p':=by
 intro i hi ht;obtain⟨j,o,h1,h2,h3⟩:=hd i hi ht;exact⟨j,o,he o h1,h2,h3⟩
theorem Done.less {l h':Nat} {p:Nat × Nat} (hd:Done T S C h l p) (hh:h'≤h):Done T S C h' l p:=fun i hi ht=>hd i (by omega) ht
theorem Done.cut (up:S.Pairwise (·<·)) {k:Nat} (hk:k<S.length) {l:Nat} {p:Nat × Nat} (hd:Done T S C S[k] l p):Done (T.take S[k]) (S.take k) C S[k] l p:=by
 intro i hi ht;rw[List.getElem?_take,if_pos hi]at ht;obtain⟨j,o,h1,h2,h3⟩:=hd i hi ht;have l1:lvl S i≤k:=(lvl_take up hk).2 hi;have l2:lvl S j≤k:=by omega
 have hj:j<S[k]:=(lvl_take up hk).1 l2;refine⟨j,o,h1,by rw[List.getElem?_take,if_pos hj];exact h2,?_⟩
 rw[lvl_pre up l1,lvl_pre up l2];exact h3
theorem low.cut (up:S.Pairwise (·<·)) {k:Nat} (hk:k<S.length) {m:Nat} (hl:low T S m):low (T.take S[k]) (S.take k) m:=by
 obtain⟨i,h1,h2⟩:=hl;have hi:i<S[k]:=(lvl_take up hk).1 (by omega)
 exact⟨i,by rw[List.getElem?_take,if_pos hi];exact h1,by rw[lvl_pre up (by omega)];exact h2⟩
theorem Held.cut (up:S.Pairwise (·<·)) {k:Nat} (hk:k<S.length) {c:Nat} (hh:Held T S C W c):Held (T.take S[k]) (S.take k) C W c:=by
 rcases hh with hh|⟨m,h1,h2⟩
 · exact Or.inl hh
 · exact Or.inr ⟨m,h1,h2.cut up hk⟩
theorem Free.turn {s:Nat} {l l':List Nat} (hf:Free T s l) (hp:∀m,m∈l↔m∈l'):Free T s l':=by
 rcases hf with⟨m,h1,h2⟩|⟨m,h1,m',h2,h3⟩
 · exact Or.inl ⟨m,(hp m).1 h1,h2⟩
 · exact Or.inr ⟨m,(hp m).1 h1,m',(hp m').1 h2,h3⟩
theorem held_free (nd:(T.map (· / 2)).Nodup) (ci:CI nv nc C) (hw:W4 nv T S C W T.length) {c:Nat} (hc:c<nc) (hh:Held T S C W c):Free T T.length (C c).lits:=by
 unfold Free;rw[List.take_length];rcases hh with⟨a,b,⟨r,e⟩,ha,hb⟩|⟨m,hm,i,h1,_⟩
 ·
  have oa:=ci.ok c hc a (by rw[e];simp)
  have ob:=ci.ok c hc b (by rw[e];simp)
  have key:∀l,l<2*(nv+1)→c∈(W l).map Prod.fst→ng l∈T→∃m∈(C c).lits,m∈T:=by
   intro l hl hcl hng;obtain⟨p,hp,rfl⟩:=List.mem_map.1 hcl;obtain⟨i,hi,he⟩:=List.mem_iff_getElem.1 hng;obtain⟨j,o,h1,h2,_⟩:=hw l hl p hp i hi (by rw[List.getElem?_eq_getElem hi,he])
   exact⟨o,h1,List.mem_of_getElem? h2⟩
  by_cases fa:ng a∈T
  · exact Or.inl (key a oa.2 ha fa)
  ·
   by_cases fb:ng b∈T
   · exact Or.inl (key b ob.2 hb fb)
   ·
    refine Or.inr ⟨a,by rw[e];simp,b,by rw[e];simp,?_,fa,fb⟩
    intro e2;have:=ci.nd c hc;rw[e,e2]at this;simp at this
 · exact Or.inl ⟨m,hm,List.mem_of_getElem? h1⟩
end
end Sat
namespace Sat
def RS (P Q:Nat→Prop) (x:Nat) (m:Nat):Prop:=(P m∧m≠x)∨(Q m∧m≠ng x)
inductive Rsl (C:Nat→Cl):(Nat→Prop)→List (Nat × Nat)→(Nat→Prop)→Prop where
  | nil {P Q:Nat→Prop} (h:∀m,P m↔Q m):Rsl C P [] Q
  | cons {P Q:Nat→Prop} {k v:Nat} {ls:List (Nat × Nat)} (x:Nat) (hx:x / 2=v) (h0:¬ P (ng x)) (h1:P x) (h2:ng x∈(C k).lits) (h3:Rsl C (RS P (·∈(C k).lits) x) ls Q):Rsl C P ((k,v)::ls) Q
section
variable {C C':Nat→Cl} {P P' Q Q':Nat→Prop} {ls ls':List (Nat × Nat)}
theorem Rsl.congr (h:Rsl C P ls Q):∀{P' Q':Nat→Prop},(∀m,P m↔P' m)→(∀m,Q m↔Q' m)→(∀p∈ls,∀m,m∈(C p.1).lits↔m∈(C' p.1).lits)→Rsl C' P' ls Q':=by
 induction h with
 | nil h=>intro P' Q' hP hQ _;exact .nil (fun m=>(hP m).symm.trans ((h m).trans (hQ m)))
 | @cons P Q k v ls x hx h0 h1 h2 h3 ih =>
  intro P' Q' hP hQ hC;refine .cons x hx (fun h=>h0 ((hP _).2 h)) ((hP _).1 h1) ((hC (k,v) (by simp) _).1 h2) ?_
  refine ih ?_ hQ (fun p hp=>hC p (by simp[hp]))
  intro m;have h9:m∈(C k).lits↔m∈(C' k).lits:=hC (k,v) (by simp) m
  simp only[RS,hP m,h9]
theorem Rsl.append (h:Rsl C P ls Q) (h':Rsl C Q ls' Q'):Rsl C P (ls++ls') Q':=by
 induction h with
 | nil h=>exact h'.congr (fun m=>(h m).symm) (fun _=>Iff.rfl) (fun _ _ _=>Iff.rfl)
 | cons x hx h0 h1 h2 h3 ih=>exact .cons x hx h0 h1 h2 (ih h')
theorem Rsl.sound (h:Rsl C P ls Q) (B:Nat→Prop) (hB:∀l,B (ng l)↔¬ B l):(∃m,P m∧B m)→(∀p∈ls,∃m∈(C p.1).lits,B m)→∃m,Q m∧B m:=by
 induction h with
 | nil h=>rintro⟨m,h1,h2⟩ _;exact⟨m,(h m).1 h1,h2⟩
 | @cons P Q k v ls x hx h0 h1 h2 h3 ih =>
  rintro⟨m,m1,m2⟩ hC;refine ih ?_ (fun p hp=>hC p (by simp[hp]))
  obtain⟨m',n1,n2⟩:=hC (k,v) (by simp)
  by_cases e:m=x
  ·
   subst e;refine⟨m',Or.inr ⟨n1,fun e2=>?_⟩,n2⟩
   subst e2;exact (hB m).1 n2 m2
  · exact⟨m,Or.inl ⟨m1,e⟩,m2⟩
theorem rsl_units (T:List Nat) (nd:(T.map (· / 2)).Nodup) (U:Nat→Nat):∀(X:List Nat) (P:Nat→Prop),X.Nodup→(∀v∈X,∃t∈T,t / 2=v∧(C (U v)).lits=[t]∧P (ng t))→(∀m,P m→m / 2∈X→ng m∈T) →
    Rsl C P (X.map (fun v=>(U v,v))) (fun m=>P m∧m / 2 ∉ X)
  | [],P,_,_,_=>.nil (fun m=>by simp)
  | v::X,P,hn,hU,hP=>by
    obtain⟨n1,n2⟩:=List.nodup_cons.1 hn
    obtain⟨t,ht,htv,hl,hp⟩:=hU v (by simp)
    have hnt:¬ P t:=fun h=>by
      have:=hP t h (by simp[htv])
      exact nd_ng nd ht this
    rw[List.map_cons]
    refine .cons (ng t) (by rw[ng_var];exact htv) (by rw[ng_ng];exact hnt) hp (by rw[ng_ng,hl];simp) ?_
    refine (rsl_units T nd U X (fun m=>P m∧m / 2≠v) n2 ?_ ?_).congr ?_ ?_ (fun _ _ _=>Iff.rfl)
    · intro u hu
      obtain⟨t',k1,k2,k3,k4⟩:=hU u (by simp[hu])
      exact⟨t',k1,k2,k3,k4,by rw[ng_var,k2];rintro rfl;exact n1 hu⟩
    · intro m hm hX
      exact hP m hm.1 (by simp[hX])
    · intro m
      unfold RS
      rw[hl]
      constructor
      · rintro⟨h1,h2⟩
        refine Or.inl ⟨h1,fun e=>h2 ?_⟩
        rw[e,ng_var];exact htv
      · rintro (⟨h1,h2⟩|⟨h1,h2⟩)
        · refine⟨h1,fun e=>h2 ?_⟩
          have h3:=hP m h1 (by simp[e])
          have:=nd_one nd h3 ht (by rw[ng_var,htv,e])
          rw[← this,ng_ng]
        · rw[ng_ng]at h2
          simp at h1;exact absurd h1 h2
    · intro m
      simp only[List.mem_cons,not_or]
      constructor
      · rintro⟨⟨h1,h2⟩,h3⟩;exact⟨h1,h2,h3⟩
      · rintro⟨h1,h2,h3⟩;exact⟨⟨h1,h2⟩,h3⟩
end
inductive Rc (F:Nat→Fc) (C:Nat→Cl) (clash:Nat) (keep:List Nat):Nat→Prop where
  | base {m:Nat} (h:m∈(C clash).lits):Rc F C clash keep (m / 2)
  | step {u r m:Nat} (hu:Rc F C clash keep u) (hk:u ∉ keep) (hl:0<(F u).level) (hr:(F u).reason=(r:Int)) (hm:m∈(C r).lits):Rc F C clash keep (m / 2)
section
variable {nv:Nat} {V:Nat→Int} {T S:List Nat} {F:Nat→Fc} {nc:Nat} {C:Nat→Cl} {clash:Nat} {keep:List Nat}
theorem Rc.from_ (h:TI nv V T S F nc C) {v:Nat} (hr:Rc F C clash keep v):(∃m∈(C clash).lits,m / 2=v)∨∃u r m:Nat,Rc F C clash keep u∧u ∉ keep∧0<(F u).level∧(F u).reason=(r:Int)∧m∈(C r).lits∧m / 2=v∧u≠v:=by
 induction hr with
 | @base m hm=>exact Or.inl ⟨m,hm,rfl⟩
 | @step u r m hu hk hl hr hm ih =>
  by_cases e:u=m / 2
  · rw[← e];exact ih
  · exact Or.inr ⟨u,r,m,hu,hk,hl,hr,hm,rfl,e⟩
theorem TI.reason (h:TI nv V T S F nc C) {i:Nat} (hi:i<T.length) {r:Nat} (hr:(F (T[i] / 2)).reason=(r:Int)):r<nc∧T[i]∈(C r).lits∧∀m∈(C r).lits,m≠T[i]→ng m∈T.take i:=by
 by_cases hs:i∈S
 · have:=h.ch i hi hs;rw[hr]at this;omega
 ·
  obtain⟨r',h1,h2,h3,h4⟩:=h.re i hi hs;have:r=r':=by rw[hr]at h2;omega
  subst this;exact⟨h1,h3,h4⟩
theorem Rc.on (h:TI nv V T S F nc C) (hc:∀m∈(C clash).lits,ng m∈T) {v:Nat} (hr:Rc F C clash keep v):∃i,∃hi:i<T.length,T[i] / 2=v:=by
 induction hr with
 | @base m hm =>
  obtain⟨i,hi,e⟩:=List.mem_iff_getElem.1 (hc m hm);exact⟨i,hi,by rw[e,ng_var]⟩
 | @step u r m hu hk hl hr hm ih =>
  obtain⟨i,hi,e⟩:=ih;obtain⟨-,-,h3⟩:=h.reason hi (by rw[e];exact hr)
  by_cases em:m=T[i]
  · exact⟨i,hi,by rw[em]⟩
  · obtain⟨j,hj,e2⟩:=List.mem_iff_getElem.1 (List.mem_of_mem_take (h3 m hm em));exact⟨j,hj,by rw[e2,ng_var]⟩
structure Cut (T S:List Nat) (F:Nat→Fc) (C:Nat→Cl) (clash:Nat) (lits:List Nat) (Z:Nat→Prop):Prop where
  cl:∀m∈(C clash).lits,ng m∈T∧((F (m / 2)).level=0∨Z (m / 2))
  go:∀v,Z v→0<(F v).level∧(v∈lits.map (· / 2)∨∃r:Nat,(F v).reason=(r:Int)∧∀m∈(C r).lits,m / 2≠v→(F (m / 2)).level=0∨Z (m / 2))
  li:∀m∈lits,ng m∈T∧Z (m / 2)∧Rc F C clash (lits.map (· / 2)) (m / 2)
  nd:(lits.map (· / 2)).Nodup
theorem Cut.reach {Z:Nat→Prop} {lits:List Nat} (k:Cut T S F C clash lits Z) {v:Nat} (hr:Rc F C clash (lits.map (· / 2)) v):(F v).level=0∨Z v:=by
 induction hr with
 | @base m hm=>exact (k.cl m hm).2
 | @step u r m hu hk hl hr hm ih =>
  rcases ih with ih|ih
  · omega
  ·
   rcases (k.go u ih).2 with h1|⟨r',h1,h2⟩
   · exact absurd h1 hk
   ·
    have:r=r':=by rw[hr]at h1;omega
    subst this;by_cases e:m / 2=u
    · rw[e];exact Or.inr ih
    · exact h2 m hm e
theorem lt_of_take {i j:Nat} {x:Nat} (nd:(T.map (· / 2)).Nodup) (hj:j<T.length) (e:T[j]=x) (h:x∈T.take i):j<i:=by
 obtain⟨k,hk,e2⟩:=List.mem_iff_getElem.1 h;rw[List.length_take]at hk;rw[List.getElem_take]at e2;have:=nd_inj nd hj (show k<T.length by omega) (by rw[e,e2])
 omega
theorem cut_chain (h:TI nv V T S F nc C) {Z:Nat→Prop} {lits:List Nat} (k:Cut T S F C clash lits Z) {G X:List Nat} (gs:G.Pairwise (fun a b=>(F b).place<(F a).place)) (xn:X.Nodup)
  (hG:∀v,v∈G↔Rc F C clash (lits.map (· / 2)) v∧v ∉ lits.map (· / 2)∧0<(F v).level) (hX:∀v,v∈X↔Rc F C clash (lits.map (· / 2)) v∧(F v).level=0)
  {rs us:Nat→Nat} (hrs:∀v∈G,(F v).reason=(rs v:Int)) (hus:∀v∈X,(F v).unit=(us v:Int)) :
  Rsl C (·∈(C clash).lits) (G.map (fun v=>(rs v,v))++X.map (fun v=>(us v,v))) (·∈lits):=by
 have hc:∀m∈(C clash).lits,ng m∈T:=fun m hm=>(k.cl m hm).1
 -- the false literal of a place
 have fal:∀{i:Nat} (hi:i<T.length) {m:Nat},ng m∈T→m / 2=T[i] / 2→m=ng T[i]:=fun {i} hi {m} h1 h2=>by
  have:=nd_one h.nd h1 (List.getElem_mem hi) (by rw[ng_var,h2])
  rw[← this,ng_ng]
 have main:∀(G2 G1:List Nat),G=G1++G2→Rsl C (fun m=>ng m∈T∧m / 2 ∉ G1∧(m∈(C clash).lits∨∃u∈G1,m∈(C (rs u)).lits)) (G2.map (fun v=>(rs v,v))) (fun m=>ng m∈T∧m / 2 ∉ G∧(m∈(C clash).lits∨∃u∈G,m∈(C (rs u)).lits)):=by
  intro G2;induction G2 with
  | nil=>intro G1 e;simp at e;subst e;exact .nil (fun _=>Iff.rfl)
  | cons v G2 ih =>
   intro G1 e;have hv:v∈G:=by rw[e];simp
   obtain⟨v1,v2,v3⟩:=(hG v).1 hv;obtain⟨i,hi,ei⟩:=v1.on h hc;have hre:=h.reason hi (by rw[ei];exact hrs v hv)
   have pv:=(h.pl i hi).1;rw[ei]at pv;rw[e]at gs;obtain⟨g1,g2,g3⟩:=List.pairwise_append.1 gs;have gone:∀u∈G1,(F v).place<(F u).place:=fun u hu=>g3 u hu v (by simp)
   have vG1:v ∉ G1:=fun hh=>by have:=gone v hh;omega
   have later:∀u∈G2,(F u).place<(F v).place:=fun u hu=>(List.pairwise_cons.1 g2).1 u hu
   rw[List.map_cons];refine .cons (ng T[i]) (by rw[ng_var];exact ei) ?_ ?_ (by rw[ng_ng];exact hre.2.1) ?_
   · rintro⟨h1,-⟩;rw[ng_ng]at h1;exact nd_ng h.nd (List.getElem_mem hi) h1
   ·
    refine⟨by rw[ng_ng];exact List.getElem_mem hi,by rw[ng_var,ei];exact vG1,?_⟩
    rcases v1.from_ h with⟨m,hm,em⟩|⟨u,r,m,hu,hk,hl,hr,hm,em,hne⟩
    · rw[← fal hi (hc m hm) (by rw[em,ei])];exact Or.inl hm
    ·
     have huG:u∈G:=(hG u).2 ⟨hu,hk,hl⟩;have er:rs u=r:=by have:=hrs u huG;rw[hr]at this;omega
     obtain⟨j,hj,ej⟩:=hu.on h hc;have hju:=h.reason hj (by rw[ej];exact hr)
     have mne:m≠T[j]:=fun e9=>hne (by rw[← ej,← e9,em])
     have hmt:=hju.2.2 m hm mne;have mf:=fal hi (List.mem_of_mem_take hmt) (by rw[em,ei])
     have hij:i<j:=lt_of_take h.nd hi (by rw[mf,ng_ng]) hmt
     have pu:=(h.pl j hj).1;rw[ej]at pu;refine Or.inr ⟨u,?_,by rw[er,← mf];exact hm⟩
     rw[e]at huG;rcases List.mem_append.1 huG with h9|h9
     · exact h9
     ·
      rcases List.mem_cons.1 h9 with h8|h8
      · exact absurd h8 hne
      · have:=later u h8;omega
   ·
    refine (ih (G1++[v]) (by rw[e];simp)).congr ?_ (fun _=>Iff.rfl) (fun _ _ _=>Iff.rfl)
    intro m;unfold RS;constructor
    ·
     rintro⟨h1,h2,h3⟩;simp only[List.mem_append,List.mem_singleton,not_or]at h2;rcases h3 with h3|⟨u,hu,h3⟩
     · exact Or.inl ⟨⟨h1,h2.1,Or.inl h3⟩,fun e9=>h2.2 (by rw[e9,ng_var];exact ei)⟩
     ·
      rcases List.mem_append.1 hu with hu|hu
      · exact Or.inl ⟨⟨h1,h2.1,Or.inr ⟨u,hu,h3⟩⟩,fun e9=>h2.2 (by rw[e9,ng_var];exact ei)⟩
      · simp at hu;subst hu;refine Or.inr ⟨h3,fun e9=>h2.2 (by rw[e9,ng_var,ng_var];exact ei)⟩
    ·
     rintro (⟨⟨h1,h2,h3⟩,h4⟩|⟨h1,h2⟩)
     ·
      refine⟨h1,?_,?_⟩
      · simp only[List.mem_append,List.mem_singleton,not_or];exact⟨h2,fun e9=>h4 (fal hi h1 (by rw[e9,ei]))⟩
      ·
       rcases h3 with h3|⟨u,hu,h3⟩
       · exact Or.inl h3
       · exact Or.inr ⟨u,by simp[hu],h3⟩
     ·
      rw[ng_ng]at h2;have hmt:=hre.2.2 m h1 h2;have hmT:=List.mem_of_mem_take hmt;refine⟨hmT,?_,Or.inr ⟨v,by simp,h1⟩⟩
      simp only[List.mem_append,List.mem_singleton,not_or];obtain⟨j,hj,ej⟩:=List.mem_iff_getElem.1 hmT;have hji:j<i:=lt_of_take h.nd hj ej hmt;have pj:=(h.pl j hj).1;have ejm:T[j] / 2=m / 2:=by rw[ej,ng_var]
      rw[ejm]at pj;refine⟨fun h9=>?_,fun h9=>?_⟩
      · have:=gone _ h9;omega
      · rw[h9]at pj;omega
 have m0:=main G [] rfl;-- what is left when all reasons are used up: kept,or fixed
 have mid:∀m,(ng m∈T∧m / 2 ∉ G∧(m∈(C clash).lits∨∃u∈G,m∈(C (rs u)).lits))↔(m∈lits∨(ng m∈T∧m / 2∈X)):=by
  intro m;constructor
  ·
   rintro⟨h1,h2,h3⟩;have hr:Rc F C clash (lits.map (· / 2)) (m / 2):=by
    rcases h3 with h3|⟨u,hu,h3⟩
    · exact .base h3
    · obtain⟨u1,u2,u3⟩:=(hG u).1 hu;exact .step u1 u2 u3 (hrs u hu) h3
   rcases k.reach hr with h4|h4
   · exact Or.inr ⟨h1,(hX _).2 ⟨hr,h4⟩⟩
   ·
    by_cases h5:m / 2∈lits.map (· / 2)
    ·
     obtain⟨m',hm',e'⟩:=List.mem_map.1 h5;have:=nd_one h.nd (k.li m' hm').1 h1 (by rw[ng_var,ng_var];exact e')
     rw[← ng_inj this];exact Or.inl hm'
    · exact absurd ((hG _).2 ⟨hr,h5,(k.go _ h4).1⟩) h2
  ·
   have src:∀{m:Nat},ng m∈T→Rc F C clash (lits.map (· / 2)) (m / 2)→m∈(C clash).lits∨∃u∈G,m∈(C (rs u)).lits:=by
    intro m h1 hr;obtain⟨i,hi,ei⟩:=List.mem_iff_getElem.1 h1;have eim:T[i] / 2=m / 2:=by rw[ei,ng_var]
    rcases hr.from_ h with⟨m',hm',em⟩|⟨u,r,m',hu,hk,hl,hr',hm',em,hne⟩
    ·
     have:=nd_one h.nd (hc m' hm') h1 (by rw[ng_var,ng_var];exact em)
     rw[← ng_inj this];exact Or.inl hm'
    ·
     have huG:u∈G:=(hG u).2 ⟨hu,hk,hl⟩;have er:rs u=r:=by have:=hrs u huG;rw[hr']at this;omega
     obtain⟨j,hj,ej⟩:=hu.on h hc;have hju:=h.reason hj (by rw[ej];exact hr')
     have mne:m'≠T[j]:=fun e9=>hne (by rw[← ej,← e9,em])
     have:=nd_one h.nd (List.mem_of_mem_take (hju.2.2 m' hm' mne)) h1 (by rw[ng_var,ng_var];exact em)
     exact Or.inr ⟨u,huG,by rw[er,← ng_inj this];exact hm'⟩
   rintro (h1|⟨h1,h2⟩)
   · obtain⟨l1,l2,l3⟩:=k.li m h1;exact⟨l1,fun h9=>((hG _).1 h9).2.1 (List.mem_map_of_mem h1),src l1 l3⟩
   · obtain⟨x1,x2⟩:=(hX _).1 h2;exact⟨h1,fun h9=>by have:=((hG _).1 h9).2.2;omega,src h1 x1⟩
 refine (m0.congr ?_ mid (fun _ _ _=>Iff.rfl)).append ?_
 ·
  intro m;constructor
  ·
   rintro⟨-,-,h1|⟨u,hu,-⟩⟩
   · exact h1
   · cases hu
  · intro h1;exact⟨hc m h1,by simp,Or.inl h1⟩
 ·
  have h2:=rsl_units (C:=C) T h.nd us X (fun m=>m∈lits∨(ng m∈T∧m / 2∈X)) xn ?_ ?_
  ·
   refine h2.congr (fun _=>Iff.rfl) ?_ (fun _ _ _=>Iff.rfl)
   intro m;constructor
   ·
    rintro⟨h1|h1,h3⟩
    · exact h1
    · exact absurd h1.2 h3
   ·
    intro h1;refine⟨Or.inl h1,fun h9=>?_⟩
    have:=(k.go _ (k.li m h1).2.1).1;have:=((hX _).1 h9).2;omega
  ·
   intro v hv;obtain⟨x1,x2⟩:=(hX v).1 hv;obtain⟨i,hi,ei⟩:=x1.on h hc;have hl:=(h.pl i hi).2;rw[ei,x2]at hl;obtain⟨u,hu,e1,e2⟩:=h.un i hi (by omega)
   rw[ei]at e1;have:us v=u:=by have:=hus v hv;rw[e1]at this;omega
   exact⟨T[i],List.getElem_mem hi,ei,by rw[this];exact e2,Or.inr ⟨by rw[ng_ng];exact List.getElem_mem hi,by rw[ng_var,ei];exact hv⟩⟩
  ·
   rintro m (h1|h1) _
   · exact (k.li m h1).1
   · exact h1.1
end
end Sat
end Go.Proofs.YtbmkkhpoaicclabGreat
