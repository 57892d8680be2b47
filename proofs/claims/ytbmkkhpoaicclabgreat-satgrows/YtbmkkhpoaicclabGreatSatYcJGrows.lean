/- The document's Check. It proves no statement of the seat. -/
import Derived.Test.YtbmkkhpoaicclabGreatSatYrJGrows
import Derived.Test.YtbmkkhpoaicclabGreatSatCkJGrows
namespace Go.Proofs.YtbmkkhpoaicclabGreat
open Go Go.RowKit
set_option linter.unusedVariables false
set_option linter.unusedSimpArgs false
namespace Sat
open Euf (OL App)
set_option maxRecDepth 200000 in
set_option maxHeartbeats 16000000 in
theorem rcheck_any (N:Nat) (qL:Option Addr) (nL cL:Nat) (ls:List (List Int)) (qP:Option Addr) (nP cP:Nat) (pf:List Chn) (w:World) (hl:LL w N qL nL cL ls) (hN:N≤w.heap.size) (hnL:nL≤100000) (hlc:∀c∈ls,c.length≤1000000) (hpf:RC w qP nP pf) :
  Calls Tryz.prog 28 #[.slice qL nL cL,.slice qP nP cP] w fun e w'=>CkEnd ls pf e∧Below w.heap.size w w':=by
 have hnI:(nL:Int)≤100000:=by omega
 have hnP:(nP:Int)≤900000:=by have:=hpf.bd;omega
 have H:=hide (And.intro hl (And.intro hN (And.intro hlc hpf)));clear hl hN hlc hpf;have H0:Hid (PlM w.heap.size [] (.slice none 0 0) (fun _=>.slice none 0 0) w w∧Sets (ls.take 0) []∧([]:List (List Int)).length=0∧∀c∈ls.take 0,∀z∈c,Okl 4096 z) :=
  ⟨⟨Below.refl _ _,⟨OL.nil _ _ _ _,fun j p hp=>(by simp at hp),fun p hp=>(by cases hp)⟩,fun c hc=>(by cases hc)⟩,⟨by simp,fun j z p hz=>(by simp at hz)⟩,rfl,fun c hc=>(by simp at hc)⟩
 go_enter Tryz.func28,Tryz.ntmps28;go_wp2;go_loopw [5,6] (fun v5 v6 wr=>∃(k:Nat) (ps:List (List Int)) (qp:Option Addr) (cp:Nat) (vl:Nat→Value),v5=.slice qp k cp∧v6=.int .i64 (k:Nat)∧k≤nL∧Hid (PlM w.heap.size ps (.slice qp k cp) vl w wr∧Sets (ls.take k) ps∧ps.length=k∧∀c∈ls.take k,∀z∈c,Okl 4096 z)) (fun _ v _=>nL - (intOf v).toNat)
 case atStart=>exact⟨0,[],none,0,_,rfl,rfl,Nat.zero_le _,H0⟩
 case round =>
  rename World=>wl
  clear H0;obtain⟨k,ps,qp,cp,vl,rfl,rfl,hk,HJ⟩:=hrel;have bw9:=HJ.out.1.bl;by_cases hlt:k<nL
  ·
   have hltI:(k:Int)<(nL:Int):=by omega
   obtain⟨b,off,qi,ci,zi,rfl,lb,hmem,hget,hcell,il,lo⟩:=(H.out.1.below (bw9.mono H.out.2.1)).get hlt;obtain⟨ni,hni⟩:∃ni,zi.length=ni:=⟨_,rfl⟩;have hnb:ni≤1000000:=by rw[← hni];exact H.out.2.2.1 zi hmem
   rw[hni]at hcell il;have HIL:=hide il;have HI:=hide (And.intro hmem (And.intro hget hni));clear hmem hget hni il lo bw9;go_wp2;go_loop [7] (fun v7=>∃j:Nat,v7=.int .i64 (j:Nat)∧j≤ni∧Hid (∀q z,q<j→zi[q]?=some z→Okl 4096 z)) (fun v=>ni - (intOf v).toNat)
   case atStart=>exact⟨0,rfl,Nat.zero_le _,fun q z hq=>absurd hq (Nat.not_lt_zero _)⟩
   case round =>
    obtain⟨j,rfl,hj,HO⟩:=hrel;by_cases hlj:j<ni
    ·
     have hljI:(j:Int)<(ni:Int):=by omega
     obtain⟨z,hz⟩:∃z,zi[j]?=some z:=⟨zi[j]'(by rw[HI.out.2.2];exact hlj),List.getElem?_eq_getElem _⟩
     obtain⟨bz,oz,hqz,lbz,cz⟩:∃bz oz,qi=some ⟨bz,oz,none⟩∧bz<wl.heap.size∧wl.cell? ⟨bz,oz+j,none⟩=some (.int .i64 z):=by
      rcases HIL.out.at_ with h0|⟨bz,oz,h1,h2,h3⟩
      · rw[h0]at hz;simp at hz
      · refine⟨bz,oz,h1,h2,?_⟩;have:=h3 j hlj;rwa [List.getD_eq_getElem?_getD,hz]at this
     subst hqz;have hzI:=HIL.out.ok z (List.mem_of_getElem? hz);obtain⟨hz1,hz2⟩:=hzI;by_cases hok:Okl 4096 z
     ·
      have HO2:Hid (∀q y,q<j+1→zi[q]?=some y→Okl 4096 y):=fun q y hq hy=>by
       by_cases e:q=j
       · subst e;rw[hz]at hy;cases hy;exact hok
       · exact HO.out q y (by omega) hy
      obtain⟨o1,o2,o3⟩:=hok;have oB:(z == 0)=false:=by simpa using o1
      have o4:¬ ((4096:Int)<z):=by omega
      have o5:¬ (z<(-4096:Int)):=by omega
      clear hz o1;go_wp2;go_round
      case rel=>exact⟨j+1,by go_num,by omega,HO2⟩
      case measure=>simp[intOf]<;>omega
     ·
      have HE:Hid (CkEnd ls pf (.returned (.int .i64 40))∧Below w.heap.size w wl):=⟨Or.inl ⟨fun h9=>hok (h9 zi HI.out.1 z (List.mem_of_getElem? hz)),rfl⟩,HJ.out.1.bl⟩
      have hcs:(z == 0)=true∨((z == 0)=false∧(4096:Int)<z)∨((z == 0)=false∧¬ ((4096:Int)<z)∧z<(-4096:Int)):=by
       by_cases e0:z=0
       · exact Or.inl (by simpa using e0)
       ·
        by_cases e1:(4096:Int)<z
        · exact Or.inr (Or.inl ⟨by simpa using e0,e1⟩)
        ·
         refine Or.inr (Or.inr ⟨by simpa using e0,e1,?_⟩)
         rcases Int.lt_or_le z (-4096) with e2|e2
         · exact e2
         · exact absurd ⟨e0,by omega,by omega⟩ hok
      clear hz hok;rcases hcs with g0|⟨g0,g1⟩|⟨g0,g1,g2⟩
      all_goals
       go_wp2;go_ret
       exact HE.out
    ·
     have hljI:¬ (j:Int)<(ni:Int):=by omega
     have HZ:Hid (∀z∈zi,Okl 4096 z):=fun z hz=>by
      obtain⟨q,hq⟩:=List.mem_iff_getElem?.1 hz;exact HO.out q z (by have:=(List.getElem?_eq_some_iff.1 hq).1;rw[HI.out.2.2]at this;omega) hq
     clear HO;have HW:=hide (rset_any qi ni ci zi wl HIL.out hnb);go_wp2_with fail
     refine HW.out.mono ?_;rintro e w3 ⟨v3,s,rfl,hsetB,ho3,hf3,hb3⟩;have hset:SetOf zi s:=hsetB.setOf (fun h9=>by have:=HZ.out _ h9;unfold Okl at this;omega)
     obtain⟨q3,c3,ev3,-⟩:=ho3.shape;obtain⟨n3,hn3⟩:∃n3,s.length=n3:=⟨_,rfl⟩;rw[hn3]at ev3;subst ev3;obtain⟨w6,hw6⟩:∃w6,w3.alloc (.cells [.slice q3 n3 c3].toArray 35 (0,0))=w6:=⟨_,rfl⟩;have bl6:Below w3.heap.size w3 w6:=by rw[← hw6];exact (Below.refl _ _).alloc (Nat.le_refl _) _
     have blw:Below wl.heap.size wl w6:=hb3.trans (bl6.mono hb3.size);have hBw:w.heap.size≤wl.heap.size:=HJ.out.1.bl.size;have P6:=HJ.out.1.below hBw blw;have op6:=P6.pl.op;rw[HJ.out.2.2.1]at op6;have HOL:Hid (OL 1 35 (w3.alloc (.cells [.slice q3 n3 c3].toArray 35 (0,0))) (.slice qp k cp) k (fun j=>[vl j])):=by rw[hw6];exact op6
     have HF1:Hid (∀t,t<k→(fun j=>[upd vl k (.slice q3 n3 c3) j]) t=(fun j=>[vl j]) t):=fun t ht=>by simp[upd_other _ _ (show t≠k by omega)]
     have HF2:Hid ((fun j=>[upd vl k (.slice q3 n3 c3) j]) k=[.slice q3 n3 c3]):=by show _=_;simp[upd_same]
     have HLEN:Hid (k+1≤1000000000):=by show _≤_;omega
     have HDN:Hid (∀(wa:World) (v:Value),OL 1 35 wa v (k+1) (fun j=>[upd vl k (.slice q3 n3 c3) j])→App (.slice qp k cp) v w6 wa→PlM w.heap.size (ps++[s]) v (upd vl k (.slice q3 n3 c3)) w wa∧Sets (ls.take (k+1)) (ps++[s])∧(ps++[s]).length=k+1∧∀c∈ls.take (k+1),∀z∈c,Okl 4096 z):=by
      intro wa v ho hap;have e9:=HJ.out.2.2.1;refine⟨?_,HJ.out.2.1.snoc HI.out.2.1 hset,by simp[e9],fun c hc=>?_⟩
      ·
       have h9:=P6.push (p:=s) (u:=.slice q3 n3 c3) (Nat.le_trans hBw blw.size) (ho3.stay (fun c hc=>bl6.block c (ho3.lt hc))) ⟨hset.1,fun z hz=>by
        have h8:=HZ.out z ((hset.2 z).1 hz);unfold Okl at h8;unfold Lim;omega⟩ hap (by rw[e9];exact ho)
       rw[e9]at h9;exact h9
      ·
       rw[List.take_add_one,HI.out.2.1]at hc;rcases List.mem_append.1 hc with h9|h9
       · exact HJ.out.2.2.2 c h9
       · simp at h9;subst h9;exact HZ.out
     have HW6:=hide hw6;clear hset hsetB ho3 hf3 hb3 hn3 hw6 bl6 blw P6 op6 HW HJ;go_wp2_with (at_builtin;go_loud (refine Euf.wpList_push rfl (.tmp 47) (.tmp 53) 22 rfl 1 35 _ 24 uIts iIts (by decide) rfl (by decide) (.slice qp k cp) k (fun j=>[vl j]) rfl [.slice q3 n3 c3] 35 HOL.out (fun _ _=>rfl) 1 rfl rfl (by intro u hu;simp at hu;subst hu;rfl) HLEN.out (fun j=>[upd vl k (.slice q3 n3 c3) j]) HF1.out HF2.out ?_;intro v9 w9 hol9 hap9 hne9;rw[HW6.out]at hap9;obtain⟨q8,c8,hv8,-⟩:=hol9.shape;have d4:=HDN.out w9 v9 hol9 hap9;subst hv8;have HE:=hide d4;clear d4 hol9 hap9 hne9))
     go_roundw
     case rel=>exact⟨k+1,ps++[s],q8,c8,upd vl k (.slice q3 n3 c3),rfl,by go_num,by omega,HE.out⟩
     case measure=>simp[intOf]<;>omega
  ·
   have hltI:¬ ((k:Int)<(nL:Int)):=by omega
   obtain rfl:k=nL:=by omega
   have HP0:Hid (PlM w.heap.size ps (.slice qp k cp) vl w wl∧ps.length=k):=⟨HJ.out.1,HJ.out.2.2.1⟩;have HSE:Hid (Sets ls ps):=by
    have h9:=HJ.out.2.1;rw[← H.out.1.len,List.take_length]at h9;exact h9
   have HOK:Hid (∀c∈ls,∀z∈c,Okl 4096 z):=by
    have h9:=HJ.out.2.2.2;rw[← H.out.1.len,List.take_length]at h9;exact h9
   clear HJ bw9;go_wp2_with fail
   go_loopw [5,9] (fun v7 v44 wr=>∃(t np:Nat) (rs:List (List Int)) (qp:Option Addr) (cp:Nat) (vl:Nat→Value),v7=.slice qp np cp∧v44=.int .i64 (t:Nat)∧t≤nP∧Hid (np=k+t)∧Hid (PlM w.heap.size rs (.slice qp np cp) vl w wr∧rs.length=np∧∀Q,Acc ps pf Q↔Acc rs (pf.drop t) Q)) (fun _ v _=>nP - (intOf v).toNat)
   case atStart=>exact⟨0,k,ps,qp,cp,vl,rfl,rfl,Nat.zero_le _,(show _=_ by omega),HP0.out.1,HP0.out.2,fun Q=>Iff.rfl⟩
   case round =>
    rename World=>wm
    clear HP0;obtain⟨t,np,rs,qp,cp,vl,rfl,rfl,ht,hnp,HK⟩:=hrel;have hnpI:(np:Int)≤1000000:=by have:=hnp.out;omega
    have bw:=HK.out.1.bl;by_cases hlt3:t<nP
    ·
     have hltI3:(t:Int)<(nP:Int):=by omega
     have hpf:=H.out.2.2.2.below bw;have htl:t<pf.length:=by rw[hpf.len];exact hlt3
     obtain⟨x,hx⟩:∃x,pf[t]?=some x:=⟨_,List.getElem?_eq_getElem htl⟩;have hdrop:pf.drop t=x::pf.drop (t+1):=by
      rw[List.drop_eq_getElem_cons htl];rw[List.getElem?_eq_getElem htl]at hx;injection hx with hx;rw[hx]
     have hx':=hx;rcases H.out.2.2.2.at_ with e0|⟨bx,ox,rfl,lbx,hcx⟩
     · rw[e0]at htl;simp at htl
     obtain⟨qc,cc,qs,cs,x0,x1,x2,ilc,rks⟩:=hcx t x hx;obtain⟨okf,oks,lks,lkc⟩:=hpf.ok x (List.mem_of_getElem? hx);obtain⟨lc,hlc⟩:∃lc,x.clause.length=lc:=⟨_,rfl⟩;obtain⟨ns,hns⟩:∃ns,x.steps.length=ns:=⟨_,rfl⟩;obtain⟨fs,hfs⟩:∃fs,x.first=fs:=⟨_,rfl⟩
     rw[hlc]at x0 ilc;rw[hns]at x2 rks lks;rw[hfs]at x1 okf;have NoE:(¬ ∃b r,0≤fs∧rs[fs.toNat]?=some b∧Out rs b x.steps r∧SetOf x.clause r)→CkEnd ls pf (.returned (.int .i64 41)):=by
      intro hno;refine Or.inr ⟨HOK.out,ps,HSE.out,Or.inr ⟨?_,rfl⟩⟩;rintro⟨-,Q,hQ,-⟩;have h9:=(HK.out.2.2 Q).1 hQ;rw[hdrop]at h9;obtain⟨b,r,k1,k2,k3,k4,-⟩:=h9;rw[hfs]at k1 k2;exact hno ⟨b,r,k1,k2,k3,k4⟩
     have HNO:=hide NoE;have HX:=hide (And.intro hdrop (And.intro hlc (And.intro hfs (And.intro ilc lkc))));have HXC:Hid (∀wq,Below w.heap.size w wq→wq.cell? ⟨bx,ox+t*3,none⟩=some (.slice qc lc cc)∧wq.cell? ⟨bx,ox+t*3+1,none⟩=some (.int .i64 fs)∧wq.cell? ⟨bx,ox+t*3+2,none⟩=some (.slice qs ns cs)∧bx<wq.heap.size):=fun wq h9 =>
      ⟨(World.cell?_of_block (a:=⟨bx,ox+t*3,none⟩) (h9.block bx lbx)).trans x0,(World.cell?_of_block (a:=⟨bx,ox+t*3+1,none⟩) (h9.block bx lbx)).trans x1,(World.cell?_of_block (a:=⟨bx,ox+t*3+2,none⟩) (h9.block bx lbx)).trans x2,Nat.lt_of_lt_of_le lbx h9.size⟩
     have HRK:=hide (And.intro rks oks);have HST:=hide hns;obtain⟨y0,y1,y2,lb2⟩:=HXC.out wm bw;obtain⟨hf1,hf2⟩:=okf;clear hpf hx hx' hdrop hcx ilc rks oks lkc hlc hns hfs NoE bw x0 x1 x2 lbx htl;by_cases hbad:fs<0∨(np:Int)≤fs
     ·
      have HE:Hid (CkEnd ls pf (.returned (.int .i64 41))∧Below w.heap.size w wm):=by
       refine⟨HNO.out ?_,HK.out.1.bl⟩;rintro⟨b9,r9,h1,h2,-⟩;have:=(List.getElem?_eq_some_iff.1 h2).1;rw[HK.out.2.1]at this;omega
      rcases hbad with hb9|hb9
      ·
       go_wp2;go_ret
       exact HE.out
      ·
       have hb8:¬ fs<0:=by omega
       go_wp2;go_ret
       exact HE.out
     ·
      obtain⟨f,rfl⟩:∃f:Nat,fs=(f:Int):=⟨fs.toNat,by omega⟩
      have hfn:f<np:=by omega
      have hfnI:¬ ((np:Int)≤(f:Int)):=by omega
      clear hbad;obtain⟨p0,hp0⟩:∃p0,rs[f]?=some p0:=⟨rs[f]'(by rw[HK.out.2.1];exact hfn),List.getElem?_eq_getElem _⟩
      have HPC:Hid (∀(wq:World) (i9:Nat) (p9:List Int),PlM w.heap.size rs (.slice qp np cp) vl w wq→rs[i9]?=some p9→∃bp q9 c9,qp=some ⟨bp,0,none⟩∧vl i9=.slice q9 p9.length c9∧wq.cell? ⟨bp,i9,none⟩=some (.slice q9 p9.length c9)∧bp<wq.heap.size∧IL wq q9 p9.length c9 p9∧p9.length≤8193):=by
       intro wq i9 p9 h9 hi9;have hil:=(List.getElem?_eq_some_iff.1 hi9).1;have opn:=h9.pl.op;obtain⟨bp,cp',hbp,-⟩:=opn.open i9 hil;rw[HK.out.2.1]at hbp;cases hbp
       have lbp:bp<wq.heap.size:=opn.lt rfl;have so:=h9.pl.so p9 (List.mem_of_getElem? hi9);obtain⟨q9,c9,evl,il9⟩:=Sat.OL.il (h9.pl.ol i9 p9 hi9) (fun z hz=>by have h8:=so.2 z hz;unfold Lim at h8;exact⟨by omega,by omega⟩)
       refine⟨bp,q9,c9,rfl,evl,?_,lbp,il9,lim_len so.1 so.2⟩;rw[HK.out.2.1]at opn;have h7:=opn.cell (i:=i9) (by rw[HK.out.2.1]at hil;exact hil) (show 0<1 by decide)
       rw[Nat.mul_one,Nat.add_zero]at h7;rw[h7,← evl];rfl
      obtain⟨bp,q0,c0,rfl,ev0,cell0,lbp,-,hn0⟩:=HPC.out wm f p0 HK.out.1 hp0;obtain⟨n0,hn0e⟩:∃n0,p0.length=n0:=⟨_,rfl⟩;rw[hn0e]at ev0 cell0;have H1:Hid (PlM w.heap.size rs (.slice (some ⟨bp,0,none⟩) np cp) vl w wm∧OL 1 3 wm (.slice q0 n0 c0) p0.length (izC p0)∧Srt p0∧(∀z∈p0,Lim z)∧p0.length=n0∧∀r,Out rs p0 x.steps r↔Out rs p0 (x.steps.drop 0) r) :=
       ⟨HK.out.1,by rw[← ev0];exact HK.out.1.pl.ol f p0 hp0,(HK.out.1.pl.so p0 (List.mem_of_getElem? hp0)).1,(HK.out.1.pl.so p0 (List.mem_of_getElem? hp0)).2,hn0e,fun r=>Iff.rfl⟩
      have HKA:=hide HK.out.2;have HP00:=hide hp0;clear HK hp0 ev0 hn0e hf1 hf2 hn0;have hf0:¬ ((f:Int)<0):=by omega
      go_wp2_with fail
      go_loopw [10,11] (fun v10 v11 wr=>∃(j:Nat) (u:List Int) (qn:Option Addr) (nn cn:Nat),v10=.slice qn nn cn∧v11=.int .i64 (j:Nat)∧j≤ns∧Hid (PlM w.heap.size rs (.slice (some ⟨bp,0,none⟩) np cp) vl w wr∧OL 1 3 wr (.slice qn nn cn) u.length (izC u)∧Srt u∧(∀z∈u,Lim z)∧u.length=nn∧∀r,Out rs p0 x.steps r↔Out rs u (x.steps.drop j) r)) (fun _ v _=>ns - (intOf v).toNat)
      case atStart=>exact⟨0,p0,q0,n0,c0,rfl,rfl,Nat.zero_le _,H1⟩
      case round =>
       rename World=>wr
       clear H1 y0 y1 y2 lb2 cell0 lbp;obtain⟨j,u,qn,nn,cn,rfl,rfl,hj,HU⟩:=hrel;obtain⟨y0,y1,y2,lb2⟩:=HXC.out wr HU.out.1.bl;by_cases hlj:j<ns
       ·
        have hljI:(j:Int)<(ns:Int):=by omega
        have hjl:j<x.steps.length:=by rw[HST.out];exact hlj
        obtain⟨⟨kc,kv⟩,hp⟩:∃p,x.steps[j]?=some p:=⟨_,List.getElem?_eq_getElem hjl⟩;have HDS:Hid (x.steps.drop j=(kc,kv)::x.steps.drop (j+1)):=by
         show _=_
         rw[List.drop_eq_getElem_cons hjl];rw[List.getElem?_eq_getElem hjl]at hp;injection hp with hp;rw[hp]
        obtain⟨okc,okv⟩:=HRK.out.2 _ (List.mem_of_getElem? hp);obtain⟨bs,os,hqs,z0,z1,lbs⟩:∃bs os,qs=some ⟨bs,os,none⟩∧wr.cell? ⟨bs,os+j*2,none⟩=some (.int .i64 kc)∧wr.cell? ⟨bs,os+j*2+1,none⟩=some (.int .i64 kv)∧bs<wr.heap.size:=by
         rcases (HRK.out.1.below HU.out.1.bl).at_ with h0|⟨bs,os,h1,h2,h3⟩
         · rw[h0]at hp;simp at hp
         · exact⟨bs,os,h1,(h3 j _ hp).1,(h3 j _ hp).2,h2⟩
        subst hqs;obtain⟨W1,hW1⟩:∃W1,wr.alloc (.cells #[.int .i64 kc,.int .i64 kv] 100 (0,0))=W1:=⟨_,rfl⟩;have blw1:Below wr.heap.size wr W1:=by rw[← hW1];exact (Below.refl _ _).alloc (Nat.le_refl _) _
        have P1:=HU.out.1.below HU.out.1.bl.size blw1;have kb1:W1.heap[wr.heap.size]?=some (.cells #[.int .i64 kc,.int .i64 kv] 100 (0,0)):=by rw[← hW1];exact heap_alloc_new wr _
        have g0:W1.cell? ⟨wr.heap.size,0,none⟩=some (.int .i64 kc):=cell_of_row W1 wr.heap.size 0 _ 100 (0,0) kb1;have g1:W1.cell? ⟨wr.heap.size,1,none⟩=some (.int .i64 kv):=cell_of_row W1 wr.heap.size 1 _ 100 (0,0) kb1;have lw1:wr.heap.size<W1.heap.size:=(Array.getElem?_eq_some_iff.1 kb1).1;have ou1:=HU.out.2.1.stay (fun c hc=>blw1.block c (HU.out.2.1.lt hc))
        have H1:=hide (And.intro P1 ou1);obtain⟨kc1,kc2⟩:=okc;have NoS:(¬ ∃b l,0≤kc∧rs[kc.toNat]?=some b∧Rsv u b kv l)→CkEnd ls pf (.returned (.int .i64 41)):=by
         intro hno;refine HNO.out ?_;rintro⟨b',r',h1,h2,h3,-⟩;rw[Int.toNat_natCast,HP00.out]at h2;cases h2
         have h9:=(HU.out.2.2.2.2.2 r').1 h3;rw[HDS.out]at h9;exact Out.no hno r' h9
        have HNS:=hide NoS;clear hp hjl blw1 P1 kb1 ou1 NoS;by_cases hbad:kc<0∨(np:Int)≤kc
        ·
         have HE:Hid (CkEnd ls pf (.returned (.int .i64 41))∧Below w.heap.size w W1):=by
          refine⟨HNS.out ?_,H1.out.1.bl⟩;rintro⟨b9,l9,h1,h2,-⟩;have:=(List.getElem?_eq_some_iff.1 h2).1;rw[HKA.out.1]at this;omega
         rcases hbad with hb9|hb9
         ·
          go_wp2_with fail
          go_ret
          exact HE.out
         ·
          have hb8:¬ kc<0:=by omega
          go_wp2_with fail
          go_ret
          exact HE.out
        ·
         obtain⟨c1,rfl⟩:∃c1:Nat,kc=(c1:Int):=⟨kc.toNat,by omega⟩
         have hcn:c1<np:=by omega
         have hcnI:¬ ((np:Int)≤(c1:Int)):=by omega
         have hc0:¬ ((c1:Int)<0):=by omega
         obtain⟨p1,hp1⟩:∃p1,rs[c1]?=some p1:=⟨rs[c1]'(by rw[HKA.out.1];exact hcn),List.getElem?_eq_getElem _⟩
         obtain⟨bp',q1,cc1,hbp',ev1,cell1,lbp1,il1,hn1⟩:=HPC.out W1 c1 p1 H1.out.1 hp1;cases hbp'
         obtain⟨n1,hn1e⟩:∃n1,p1.length=n1:=⟨_,rfl⟩;rw[hn1e]at cell1 il1 hn1;obtain⟨qn',cn',evn,iln⟩:=Sat.OL.il H1.out.2 (fun z hz=>by have h9:=HU.out.2.2.2.1 z hz;unfold Lim at h9;exact⟨by omega,by omega⟩)
         rw[HU.out.2.2.2.2.1]at evn iln;simp only[Value.slice.injEq]at evn;obtain⟨rfl,-,rfl⟩:=evn;have hnu:nn≤8193:=by rw[← HU.out.2.2.2.2.1];exact lim_len HU.out.2.2.1 HU.out.2.2.2.1
         have HSO:=hide (H1.out.1.pl.so p1 (List.mem_of_getElem? hp1));have HP1:=hide hp1;have HRZ:=hide (fun (wq:World) (h9:Below W1.heap.size W1 wq)=>rresolve_any qn nn cn u q1 n1 cc1 p1 kv wq (iln.below h9) (il1.below h9) (by omega) (by omega) okv)
         clear hbad hp1 ev1 il1 iln hn1e hn1 hnu okv kc1 kc2;by_cases hR:∃l,Rsv u p1 kv l
         ·
          have HRS:Hid (∀wq,Below W1.heap.size W1 wq→Calls Tryz.prog 51 #[.slice qn nn cn,.slice q1 n1 cc1,.int .i64 kv] wq fun e w'=>∃q4 n4 c4,e=.returned (.tuple #[.slice q4 n4 c4,.int .i64 0])∧Hid (∃s,PlM w.heap.size rs (.slice (some ⟨bp,0,none⟩) np cp) vl w w'∧OL 1 3 w' (.slice q4 n4 c4) s.length (izC s)∧Srt s∧(∀z∈s,Lim z)∧s.length=n4∧∀r,Out rs p0 x.steps r↔Out rs s (x.steps.drop (j+1)) r)):=by
           intro wq h9;refine (HRZ.out wq h9).mono ?_;rintro e w4 ⟨hb4,hend⟩;rcases hend with⟨l,vr,s,k1,rfl,k3,k4,k5,k6⟩|⟨k1,-⟩
           ·
            obtain⟨q4,c4,ev4,-⟩:=k5.shape;subst ev4;have lim:∀z∈s,Lim z:=fun z hz=>by
             rcases (k4 z).1 hz with⟨h8,-⟩|⟨h8,-⟩
             · exact HU.out.2.2.2.1 z h8
             · exact HSO.out.2 z h8
            have srt:Srt s:=List.Pairwise.imp_of_mem (fun ha hb k=>(bw_bv (by have:=lim _ ha;unfold Lim at this;omega) (by have:=lim _ hb;unfold Lim at this;omega)).1 k) k3
            have h14:=h9.trans (hb4.mono h9.size);exact⟨q4,_,c4,rfl,s,H1.out.1.below H1.out.1.bl.size h14,k5,srt,lim,rfl,fun r=>by
             rw[HU.out.2.2.2.2.2 r,HDS.out];exact Out.cons_iff (by omega) (by rw[Int.toNat_natCast];exact HP1.out) k1 srt k4 r⟩
           · exact absurd hR k1
          clear hR HRZ;go_wp2_with fail
          go_cut [13,14] (fun v13 v14 wx=>∃q4 n4 c4,v13=.slice q4 n4 c4∧v14=.int .i64 0∧Hid (∃s,PlM w.heap.size rs (.slice (some ⟨bp,0,none⟩) np cp) vl w wx∧OL 1 3 wx (.slice q4 n4 c4) s.length (izC s)∧Srt s∧(∀z∈s,Lim z)∧s.length=n4∧∀r,Out rs p0 x.steps r↔Out rs s (x.steps.drop (j+1)) r))
          case first =>
           go_region_with (go_at_call 51;refine (HRS.out _ ?_).mono ?_;(first|exact (Below.refl _ _).drew|go_grown);rintro e w4 ⟨q4,n4,c4,rfl,H4⟩)
           all_goals (go_wp2_with fail;go_meet)
           all_goals exact⟨_,_,_,rfl,rfl,H4⟩
          case rest =>
           obtain⟨q4,n4,c4,rfl,rfl,H4⟩:=hcut;obtain⟨s4,h4⟩:=H4.out;have H5:=hide h4;clear h4 H4 HRS;go_wp2_with fail
           go_roundw
           case rel=>exact⟨j+1,s4,q4,n4,c4,rfl,by go_num,by omega,H5⟩
           case measure=>simp[intOf]<;>omega
         ·
          have HRS:Hid (∀wq,Below W1.heap.size W1 wq→Calls Tryz.prog 51 #[.slice qn nn cn,.slice q1 n1 cc1,.int .i64 kv] wq fun e w'=>e=.returned (.tuple #[.slice none 0 0,.int .i64 41])∧Hid (Below w.heap.size w w')):=by
           intro wq h9;refine (HRZ.out wq h9).mono ?_;rintro e w4 ⟨hb4,hend⟩;rcases hend with⟨l,vr,s,k1,-⟩|⟨-,rfl⟩
           · exact absurd ⟨l,k1⟩ hR
           · have h14:=h9.trans (hb4.mono h9.size);exact⟨rfl,(H1.out.1.below H1.out.1.bl.size h14).bl⟩
          have HE:Hid (CkEnd ls pf (.returned (.int .i64 41))):=HNS.out (by
           rintro⟨b9,l9,h1,h2,h3⟩;rw[Int.toNat_natCast,HP1.out]at h2;cases h2
           exact hR ⟨l9,h3⟩)
          clear hR HRZ;go_wp2_with fail
          go_cut [13,14] (fun v13 v14 wx=>v13=.slice none 0 0∧v14=.int .i64 41∧Hid (Below w.heap.size w wx))
          case first =>
           go_region_with (go_at_call 51;refine (HRS.out _ ?_).mono ?_;(first|exact (Below.refl _ _).drew|go_grown);rintro e w4 ⟨rfl,H4⟩)
           all_goals (go_wp2_with fail;go_meet)
           all_goals exact⟨rfl,rfl,H4⟩
          case rest =>
           obtain⟨rfl,rfl,H4⟩:=hcut;clear HRS;go_wp2_with fail
           go_ret
           exact⟨HE.out,H4.out⟩
       ·
        have hljI:¬ (j:Int)<(ns:Int):=by omega
        obtain rfl:j=ns:=by omega
        have HOU:Hid (∀r,Out rs p0 x.steps r↔r=u):=fun r=>by
         rw[HU.out.2.2.2.2.2 r,List.drop_eq_nil_of_le (by rw[HST.out];exact Nat.le_refl _)]
         constructor
         · intro h9;cases h9;rfl
         · rintro rfl;exact Out.nil _
        have HMU:Hid ((-9223372036854775808:Int) ∉ u):=fun h9=>by have h8:=HU.out.2.2.2.1 _ h9;unfold Lim at h8;omega
        have hBr:w.heap.size≤wr.heap.size:=HU.out.1.bl.size;have HW:=hide (rset_any qc lc cc x.clause wr (HX.out.2.2.2.1.below HU.out.1.bl) (by have h9:=HX.out.2.2.2.2;rw[HX.out.2.1]at h9;omega))
        go_wp2_with fail
        refine HW.out.mono ?_;rintro e w7 ⟨v7,s,rfl,hset,ho7,hf7,hb7⟩;have or7:=HU.out.2.1.stay (fun c hc=>hb7.block c (HU.out.2.1.lt hc))
        obtain⟨qa,ca,eva,ila⟩:=Sat.OL.il or7 (fun z hz=>by have h9:=HU.out.2.2.2.1 z hz;unfold Lim at h9;exact⟨by omega,by omega⟩)
        obtain⟨qb,cb,evb,ilb⟩:=Sat.OL.il ho7 (fun z hz=>HX.out.2.2.2.1.ok z ((hset.2 z).1 hz))
        have HEQ0:=rsame_any qa u.length ca u qb s.length cb s w7 ila ilb;rw[← eva]at HEQ0;obtain⟨nb,hnb⟩:∃nb,s.length=nb:=⟨_,rfl⟩;rw[hnb]at evb HEQ0;subst evb;have HEQ:=hide HEQ0;have P7:=HU.out.1.below hBr hb7;have H7:=hide (And.intro hset (And.intro or7 (And.intro P7 hb7)));clear hset ho7 hf7 hb7 or7 ila ilb eva HEQ0 hnb HW P7 y0 y1 y2 lb2;go_wp2_with fail
        refine HEQ.out.mono ?_;rintro e w8 ⟨⟨bv,rfl,hbv⟩,kq,hw8⟩;have bl78:Below w7.heap.size w7 w8:=by rw[hw8];exact⟨rfl,rfl,rfl,Nat.le_refl _,fun _ _=>rfl⟩
        have P8:=H7.out.2.2.1.below (H7.out.2.2.1.bl.size) bl78;cases bv with
        | false =>
         have HE:Hid (CkEnd ls pf (.returned (.int .i64 41))∧Below w.heap.size w w8):=by
          refine⟨HNO.out ?_,P8.bl⟩;rintro⟨b',r',h1,h2,h3,h4⟩;rw[Int.toNat_natCast,HP00.out]at h2;cases h2
          have e1:=(HOU.out r').1 h3;subst e1;have h5:=hbv.2 (h4.uniq (H7.out.1.setOf (fun h9=>HMU.out ((h4.2 _).2 h9))))
          cases h5
         clear hbv hw8 bl78 P8 HEQ;go_wp2;go_ret
         exact HE.out
        | true =>
         have er:u=s:=hbv.1 rfl;have hsr:SetOf x.clause u:=by
          have h9:=H7.out.1;rw[← er]at h9;exact h9.setOf (fun h8=>HMU.out ((h9.2 _).2 h8))
         obtain⟨w9,hw9⟩:∃w9,w8.alloc (.cells [.slice qn nn cn].toArray 35 (0,0))=w9:=⟨_,rfl⟩;have bl89:Below w8.heap.size w8 w9:=by rw[← hw9];exact (Below.refl _ _).alloc (Nat.le_refl _) _
         have P9:=P8.below P8.bl.size bl89;have bl79:Below w7.heap.size w7 w9:=bl78.trans (bl89.mono bl78.size);have or9:=H7.out.2.1.stay (fun c hc=>bl79.block c (H7.out.2.1.lt hc))
         have op9:=P9.pl.op;rw[HKA.out.1]at op9;have HOL:Hid (OL 1 35 (w8.alloc (.cells [.slice qn nn cn].toArray 35 (0,0))) (.slice (some ⟨bp,0,none⟩) np cp) np (fun j=>[vl j])):=by rw[hw9];exact op9
         have HF1:Hid (∀t,t<np→(fun j=>[upd vl np (.slice qn nn cn) j]) t=(fun j=>[vl j]) t):=fun t ht=>by simp[upd_other _ _ (show t≠np by omega)]
         have HF2:Hid ((fun j=>[upd vl np (.slice qn nn cn) j]) np=[.slice qn nn cn]):=by show _=_;simp[upd_same]
         have HLEN:Hid (np+1≤1000000000):=by show _≤_;omega
         have HDN:Hid (∀(wa:World) (v:Value),OL 1 35 wa v (np+1) (fun j=>[upd vl np (.slice qn nn cn) j])→App (.slice (some ⟨bp,0,none⟩) np cp) v w9 wa→PlM w.heap.size (rs++[u]) v (upd vl np (.slice qn nn cn)) w wa∧(rs++[u]).length=np+1∧∀Q,Acc ps pf Q↔Acc (rs++[u]) (pf.drop (t+1)) Q):=by
          intro wa v ho hap;have e9:=HKA.out.1;refine⟨?_,by simp[e9],fun Q=>?_⟩
          ·
           have h9:=P9.push (p:=u) (u:=.slice qn nn cn) (P9.bl.size) or9 ⟨HU.out.2.2.1,HU.out.2.2.2.1⟩ hap (by rw[e9];exact ho)
           rw[e9]at h9;exact h9
          · rw[HKA.out.2 Q,HX.out.1];exact Acc.cons_iff (by rw[HX.out.2.2.1];omega) (by rw[HX.out.2.2.1,Int.toNat_natCast];exact HP00.out) ((HOU.out u).2 rfl) hsr Q
         have HW9:=hide hw9;have HNP:Hid (np+1=k+(t+1)):=by have:=hnp.out;show _=_;omega
         clear hbv hw8 HEQ er hsr bl78 hw9 bl89 bl79 P9 P8 or9 op9;go_wp2_with (at_builtin;go_loud (refine Euf.wpList_push rfl (.tmp 138) (.tmp 140) 22 rfl 1 35 _ 24 uIts iIts (by decide) rfl (by decide) (.slice (some ⟨bp,0,none⟩) np cp) np (fun j=>[vl j]) rfl [.slice qn nn cn] 35 HOL.out (fun _ _=>rfl) 1 rfl rfl (by intro u hu;simp at hu;subst hu;rfl) HLEN.out (fun j=>[upd vl np (.slice qn nn cn) j]) HF1.out HF2.out ?_;intro v9 w9' hol9 hap9 hne9;rw[HW9.out]at hap9;obtain⟨q8,c8,hv8,-⟩:=hol9.shape;have d4:=HDN.out w9' v9 hol9 hap9;subst hv8;have HE:=hide d4;clear d4 hol9 hap9 hne9))
         go_roundw
         case rel=>exact⟨t+1,np+1,rs++[u],q8,c8,upd vl np (.slice qn nn cn),rfl,by go_num,by omega,HNP.out,HE.out⟩
         case measure=>simp[intOf]<;>omega
    ·
     have hltI3:¬ ((t:Int)<(nP:Int)):=by omega
     obtain rfl:t=nP:=by omega
     have hacc:∀Q,Acc ps pf Q↔Q=rs:=fun Q=>by
      rw[HK.out.2.2 Q,← H.out.2.2.2.len,List.drop_length];exact Iff.rfl
     have mk:(OkPf ps pf→CkEnd ls pf (.returned (.int .i64 0)))∧(¬ OkPf ps pf→CkEnd ls pf (.returned (.int .i64 41))):=⟨fun h9=>Or.inr ⟨HOK.out,ps,HSE.out,Or.inl ⟨h9,rfl⟩⟩,fun h9=>Or.inr ⟨HOK.out,ps,HSE.out,Or.inr ⟨h9,rfl⟩⟩⟩
     by_cases h0:t=0
     ·
      have h0I:(t:Int)=0:=by omega
      have HE:Hid (CkEnd ls pf (.returned (.int .i64 41))∧Below w.heap.size w wm):=⟨mk.2 (fun h9=>h9.1 (List.eq_nil_of_length_eq_zero (by rw[H.out.2.2.2.len];exact h0))),bw⟩
      clear hacc mk HK bw;go_wp2;go_ret
      exact HE.out
     ·
      have h0I:¬ ((t:Int)=0):=by omega
      obtain⟨m,hm⟩:∃m,np=m+1:=⟨np - 1,by have:=hnp.out;omega⟩
      have hml:m<rs.length:=by rw[HK.out.2.1];omega
      obtain⟨p,hp⟩:∃p,rs[m]?=some p:=⟨_,List.getElem?_eq_getElem hml⟩;have opn:=HK.out.1.pl.op;obtain⟨bp,cp',hbp,-⟩:=opn.open m hml;rw[HK.out.2.1]at hbp;cases hbp
      have lbp:bp<wm.heap.size:=opn.lt rfl;have olp:=HK.out.1.pl.ol m p hp;obtain⟨ql,cl,evl,-⟩:=olp.shape;obtain⟨ll,hll⟩:∃ll,p.length=ll:=⟨_,rfl⟩;rw[hll]at evl;have cm:wm.cell? ⟨bp,m,none⟩=some (.slice ql ll cl):=by
       rw[HK.out.2.1]at opn;have h9:=opn.cell (i:=m) (by omega) (show 0<1 by decide)
       rw[Nat.mul_one,Nat.add_zero]at h9;rw[h9,← evl];rfl
      have hlast:rs.getLast?=some p:=by
       rw[List.getLast?_eq_getElem?,HK.out.2.1,hm];exact hp
      have hpn:pf≠[]:=fun e9=>h0 (by rw[← H.out.2.2.2.len,e9];rfl)
      have hok:OkPf ps pf↔p=[]:=by
       constructor
       · rintro⟨-,Q,h1,h2⟩;rw[(hacc Q).1 h1,hlast]at h2;injection h2
       · intro e9;exact⟨hpn,rs,(hacc rs).2 rfl,by rw[hlast,e9]⟩
      have hidx:(np:Int) - 1=(m:Int):=by omega
      have hmI:(m:Int)<(np:Int):=by omega
      have hlI:(ll:Int)≤8193:=by have h9:=lim_len (HK.out.1.pl.so p (List.mem_of_getElem? hp)).1 (HK.out.1.pl.so p (List.mem_of_getElem? hp)).2;omega
      clear hm hml;by_cases hl0:ll=0
      ·
       have hl0I:¬ ((0:Int)<(ll:Int)):=by omega
       have HE:Hid (CkEnd ls pf (.returned (.int .i64 0))∧Below w.heap.size w wm):=⟨mk.1 (hok.2 (List.eq_nil_of_length_eq_zero (by omega))),bw⟩
       clear hacc mk HK bw hok hlast hpn opn olp evl hll hp hnp;go_wp2;go_ret
       exact HE.out
      ·
       have hl0I:(0:Int)<(ll:Int):=by omega
       have HE:Hid (CkEnd ls pf (.returned (.int .i64 41))∧Below w.heap.size w wm):=⟨mk.2 (fun h9=>hl0 (by rw[← hll,hok.1 h9];rfl)),bw⟩
       clear hacc mk HK bw hok hlast hpn opn olp evl hll hp hnp;go_wp2;go_ret
       exact HE.out
end Sat
end Go.Proofs.YtbmkkhpoaicclabGreat
