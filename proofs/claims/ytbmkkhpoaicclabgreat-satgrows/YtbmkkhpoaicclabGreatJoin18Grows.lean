/- Joined: SatTz, SatLs, SatUd, SatJu: words and contracts; no statement of the seat is proved here. -/
import Derived.Test.YtbmkkhpoaicclabGreatJoin17Grows
import Derived.Test.YtbmkkhpoaicclabGreatJoin6Grows
import Derived.Test.YtbmkkhpoaicclabGreatJoin12Grows
namespace Go.Proofs.YtbmkkhpoaicclabGreat
open Go.RowKit
set_option linter.unusedVariables false
namespace Sat
open Euf (OL App)
set_option maxRecDepth 20000 in
set_option maxHeartbeats 16000000 in
theorem trace_any (g:Nat) (dB:Dt) (aB:Key→Value) (w0:World) (d:Dt) (a:Key→Value) (clash b cap:Nat) (L:List Nat) (Y:Nat→Prop) (w:World) (hsl:SL g dB aB w0 d a (.slice (some ⟨b,0,none⟩) L.length cap) L w) (ti:TI d.nv d.V d.T d.S d.F d.nc d.C) (ci:CI d.nv d.nc d.C) (hM:∀v,(d.F v).mark=0) (hmk:d.mks=[]) (hcl:clash<d.nc) (cut:Cut d.T d.S d.F d.C clash L Y) (hn:d.nv≤5000) (hnc:d.nc≤99999999) :
  Calls Tryz.prog 98 #[.pointer (some ⟨g,0,none⟩),.int .i64 (clash:Nat),.slice (some ⟨b,0,none⟩) L.length cap] w fun e w'=>TaEnd g dB aB w0 d clash (.slice (some ⟨b,0,none⟩) L.length cap) L e w':=by
 have hLo:∀m∈L,m<2*(d.nv+1):=fun m hm=>by
  have h9:=ng_lt (ti.ok _ (cut.li m hm).1).2;rwa [ng_ng]at h9
 have hLl:L.length≤d.nv+1:=by
  have h9:=nodup_le (d.nv+1) (L.map (· / 2)) cut.nd (fun u hu=>by
   obtain⟨m,hm,rfl⟩:=List.mem_map.1 hu;have:=hLo m hm;omega)
  rwa [List.length_map]at h9
 have hbl:Below w.heap.size w (w.alloc (.cells #[.pointer (some ⟨g,0,none⟩)] 27 (0,0))):=⟨rfl,rfl,rfl,by simp,fun b9 hb9=>Below.heap_alloc w _ b9 hb9⟩
 have H0:Hid (TL g dB aB w0 d w.heap.size (.slice (some ⟨b,0,none⟩) L.length cap) L 0 d a (w.alloc (.cells #[.pointer (some ⟨g,0,none⟩)] 27 (0,0)))):=by
  refine⟨hsl.below hbl,heap_alloc_new w _,⟨fun hf=>by have:=hsl.sw.foLt hf;omega,hsl.mo.mv.size⟩,FM.refl _,⟨by rw[hmk];simp,fun v=>by rw[hmk,hM v];simp,fun v hv=>by rw[hmk]at hv;cases hv⟩,fun v=>?_⟩
  show (d.F v).mark≠0↔_
  rw[hM v];simp
 obtain⟨bs,hbs⟩:∃bs,w.heap.size=bs:=⟨_,rfl⟩;obtain⟨w1,hw1⟩:∃w1,w.alloc (.cells #[.pointer (some ⟨g,0,none⟩)] 27 (0,0))=w1:=⟨_,rfl⟩;rw[hbs,hw1]at H0;have HT:=hide (And.intro ti (And.intro ci (And.intro cut hLo)));obtain⟨nL,hnL⟩:∃nL,L.length=nL:=⟨_,rfl⟩;rw[hnL]at H0 hLl;rw[hnL];have HNL:=hide hnL;clear hsl ti ci hM hmk cut hbl hLo hnL;go_enter Tryz.func98,Tryz.ntmps98;go_wp2;go_loopw [18] (fun v18 wr=>∃(j:Nat) (d2:Dt) (a2:Key→Value),v18=.int .i64 (j:Nat)∧j≤nL∧Hid (TL g dB aB w0 d bs (.slice (some ⟨b,0,none⟩) nL cap) L j d2 a2 wr)) (fun v _=>nL - (intOf v).toNat)
 case atStart=>exact⟨0,d,a,rfl,Nat.zero_le _,H0.out⟩
 case round =>
  rename World=>wl
  clear H0 hw1;obtain⟨j,d2,a2,rfl,hj,H⟩:=hrel;by_cases hlt:j<nL
  ·
   have hltI:(j:Int)<(nL:Int):=by omega
   obtain⟨-,lb,-,-,qA,-⟩:=H.out.sl.get;have hjL:j<L.length:=by rw[HNL.out];exact hlt
   have qj:=qA j hjL;obtain⟨l,hl⟩:∃l,L[j]=l:=⟨_,rfl⟩;rw[hl]at qj;have hlo:=HT.out.2.2.2 l (by rw[← hl];exact List.getElem_mem hjL)
   have hl2:l<20000:=by omega
   have HVC:=hide (fun w9=>variable_any l w9 hl2)
   obtain⟨u,hu⟩:∃u,l / 2=u:=⟨_,rfl⟩;rw[hu]at HVC;have HJ:Hid (∃hjL:j<L.length,L[j] / 2=u):=⟨hjL,by rw[hl];exact hu⟩
   have hnv2:=H.out.fm.nv;have hl9:=H.out.mk_.len;have cs:wl.cell? ⟨bs,0,none⟩=some (.pointer (some ⟨g,0,none⟩)):=cell_of_row wl bs 0 _ _ (0,0) H.out.cs;have ls:=H.out.lt;have HSM:=hide (setMark_any g d2 a2 u 1 wl.drew H.out.sl.sw.drew (by omega) (by omega))
   have hun:u≤d.nv:=by omega
   clear qA hl hu hjL;go_wp2_with fail
   go_region_with (first|(go_at_call 62;refine (HVC.out _).mono ?_;rintro e w9 ⟨rfl,hw9⟩;obtain rfl:=hw9.symm)|(go_at_call 122;refine HSM.out.mono ?_;rintro e w9 ⟨rfl,a3,s3,m3⟩;have HE3:=hide ((H.out.drewN 1).mark HT.out.2.2.1.nd HJ.out.1 HJ.out.2 hun s3 m3);clear s3 m3))
   all_goals (go_wp2;go_roundw)
   all_goals first|exact⟨j+1,_,_,by go_num,by omega,HE3.out⟩|(simp[intOf]<;>omega)
  ·
   have hltI:¬ ((j:Int)<(nL:Int)):=by omega
   obtain rfl:j=nL:=by omega
   have htw:=H.out.tw;obtain⟨bg,hbg⟩:∃bg,wl.heap.size=bg:=⟨_,rfl⟩;obtain⟨w2,hw2⟩:∃w2,(wl.alloc (.cells #[.slice none 0 0] 35 (0,0))).alloc (.cells #[.slice none 0 0] 35 (0,0))=w2:=⟨_,rfl⟩;rw[hbg,hw2]at htw;have hTG:TG g dB aB w0 d clash (L.map (· / 2)) bs bg (bg+1) (.slice (some ⟨b,0,none⟩) j cap) L d2 a2 (.slice none 0 0) (.slice none 0 0) [] [] [] w2:=by
    refine⟨htw,H.out.fm,H.out.mk_,TR.start (fun v=>?_)⟩
    have h9:=H.out.ma v;rw[← HNL.out,List.take_length]at h9;exact h9
   have HRE:=hide (reach_any g dB aB w0 d clash (L.map (· / 2)) bs bg (bg+1) (.slice (some ⟨b,0,none⟩) j cap) L d2 a2 (.slice none 0 0) (.slice none 0 0) [] [] [] w2 clash hTG HT.out.2.1 hcl (fun m hm=>.base hm) (fun m hm=>by
    obtain⟨q,hq,eq⟩:=List.mem_iff_getElem.1 (HT.out.2.2.1.cl m hm).1;have h9:=(HT.out.1.pl q hq).2;rw[eq,ng_var]at h9;rw[h9];omega) hn (by omega))
   clear htw hTG H;go_wp2_with fail
   refine HRE.out.mono ?_;rintro e w3 ⟨rfl,d3,a3,vG,vX,G,X,hTG3,-⟩;have H3:=hide hTG3;clear hTG3 HRE hw2 hbg;go_wp2;go_loopw [12] (fun v12 wr=>∃(i:Nat) (d2:Dt) (a2:Key→Value) (vG vX:Value) (G X Z:List Nat),v12=.int .i64 (i:Nat)∧i≤G.length∧Hid (TG g dB aB w0 d clash (L.map (· / 2)) bs bg (bg+1) (.slice (some ⟨b,0,none⟩) j cap) L d2 a2 vG vX G X Z wr∧(∀m∈(d.C clash).lits,m∈Z)∧∀k (hk:k<G.length),k<i→∀r:Nat,(d.F G[k]).reason=(r:Int)→∀m∈(d.C r).lits,m∈Z)) (fun v _=>5002 - (intOf v).toNat)
   case atStart=>exact⟨0,d3,a3,vG,vX,G,X,_,rfl,Nat.zero_le _,H3.out,fun m hm=>List.mem_append_right _ hm,fun k hk h9=>absurd h9 (by omega)⟩
   case round =>
    rename World=>wl
    clear H3;obtain⟨i,d2,a2,vG,vX,G,X,Z,rfl,hi,H⟩:=hrel;obtain⟨qG,cG,hvG,-,-,-,-⟩:=H.out.1.tw.og.shape;have hc9:=H.out.1.tw.cellG.1;rw[hvG]at hc9;have lg:=H.out.1.tw.lt (b:=bg) (Or.inr (Or.inl rfl));have hGl:G.length≤5001:=by have:=H.out.1.lenG;have:=H.out.1.fm.nv;omega
    obtain⟨nG,hnG⟩:∃nG,G.length=nG:=⟨_,rfl⟩;rw[hnG]at hc9 hGl hi hvG;have HNG:=hide hnG;have HVG:=hide hvG;have cs:=H.out.1.tw.cellS;have ls:=H.out.1.tw.lt (b:=bs) (Or.inl rfl);have hlg:=H.out.1.tw.sw.lt;clear hnG hvG;by_cases hlt:i<nG
    ·
     have hltI:(i:Int)<(nG:Int):=by omega
     have hiG:i<G.length:=by rw[HNG.out];exact hlt
     obtain⟨r,hr,hrn,hvn,hrl⟩:=H.out.1.tr.why HT.out.1 HT.out.2.2.1 (List.getElem_mem hiG);obtain⟨u,hu⟩:∃u,G[i]=u:=⟨_,rfl⟩;rw[hu]at hr hvn;obtain⟨bG,cG',hG',k1,k2⟩:=(by have h9:=H.out.1.tw.og;exact h9.open i hiG)
     have e1:=HVG.out.symm.trans hG';simp only[Value.slice.injEq]at e1;obtain⟨rfl,-,rfl⟩:=e1;have qi:wl.cell? ⟨bG,i,none⟩=some (.int .i64 (u:Nat)):=by
      have h9:=H.out.1.tw.og;rw[hG']at h9;have h8:=h9.cell (i:=i) (j:=0) hiG (by decide)
      rw[Nat.mul_one,Nat.add_zero]at h8;rw[h8];simp[i64C,hiG,hu]
     have lG:bG<wl.heap.size:=H.out.1.tw.og.lt (by rw[hG'];rfl)
     have hnv2:=H.out.1.fm.nv;have hul:u<d2.nv+1:=by omega
     have huI:(u:Int)<(d2.nv:Int)+1:=by omega
     obtain⟨bF,cF,hF,lF,-,q2,-⟩:=H.out.1.tw.sw.wh hul;rw[H.out.1.fm.reason u,hr]at q2;have c8:wl.cell? ⟨g,8,none⟩=some (.slice (some ⟨bF,0,none⟩) (d2.nv+1) cF):=(H.out.1.tw.sw.cell 8).trans (congrArg some hF);have HRE:=hide (reach_any g dB aB w0 d clash (L.map (· / 2)) bs bg (bg+1) (.slice (some ⟨b,0,none⟩) j cap) L d2 a2 vG vX G X Z wl.drew r { H.out.1 with tw:=H.out.1.tw.drewN 1 } HT.out.2.1 hrn (fun m hm=>(hrl m hm).1) (fun m hm=>(hrl m hm).2) hn (by omega))
     have HU:Hid (∃hiG:i<G.length,G[i]=u∧(d.F u).reason=(r:Int)):=⟨hiG,hu,hr⟩;have HPST:Hid (∀w9,RcE g dB aB w0 d clash (L.map (· / 2)) bs bg (bg+1) (.slice (some ⟨b,0,none⟩) j cap) L G (Z++(d.C r).lits) w9→∃(d2:Dt) (a2:Key→Value) (vG vX:Value) (G X Z:List Nat),i+1≤G.length∧TG g dB aB w0 d clash (L.map (· / 2)) bs bg (bg+1) (.slice (some ⟨b,0,none⟩) j cap) L d2 a2 vG vX G X Z w9∧(∀m∈(d.C clash).lits,m∈Z)∧∀k (hk:k<G.length),k<i+1→∀r:Nat,(d.F G[k]).reason=(r:Int)→∀m∈(d.C r).lits,m∈Z):=by
      rintro w9 ⟨d4,a4,vG4,vX4,G4,X4,hT4,Y4,hY4⟩;obtain⟨h1,h2,h3⟩:=HU.out;refine⟨d4,a4,vG4,vX4,G4,X4,_,by rw[hY4,List.length_append];omega,hT4,fun m hm=>List.mem_append_left _ (H.out.2.1 m hm),fun k hk hki r' hr' m hm=>?_⟩
      have hkG:k<G.length:=by omega
      have ek:G4[k]=G[k]:=by simp[hY4,List.getElem_append_left hkG]
      rw[ek]at hr';by_cases e:k=i
      ·
       subst e;rw[h2,h3]at hr';obtain rfl:r=r':=by omega
       exact List.mem_append_right _ hm
      · exact List.mem_append_left _ (H.out.2.2 k hkG (by omega) r' hr' m hm)
     clear hr hrl hu hG' hF H hiG;go_wp2_with fail
     go_region_with (go_at_call 125;refine HRE.out.mono ?_;rintro e w9 ⟨rfl,hre⟩;have HE9:=hide (HPST.out w9 hre);clear hre)
     all_goals go_wp2
     all_goals go_roundw
     all_goals first|(obtain⟨d9,a9,vG9,vX9,G9,X9,Z9,h9a,h9b⟩:=HE9.out;exact⟨i+1,d9,a9,vG9,vX9,G9,X9,Z9,by go_num,h9a,h9b⟩)|(simp[intOf]<;>omega)
    ·
     have hltI:¬ ((i:Int)<(nG:Int)):=by omega
     obtain⟨hGi,hXi⟩:=H.out.1.tr.ends H.out.2.1 (fun v hv r hr m hm=>by
      obtain⟨k,hk,rfl⟩:=List.mem_iff_getElem.1 hv;exact H.out.2.2 k hk (by have:=HNG.out;omega) r hr m hm) (fun v hv=>by
      obtain⟨m,hm,rfl⟩:=List.mem_map.1 hv;exact (HT.out.2.2.1.go _ (HT.out.2.2.1.li m hm).2.1).1)
     have hc9a:∀m∈(d.C clash).lits,ng m∈d.T:=fun m hm=>(HT.out.2.2.1.cl m hm).1
     have honG:∀v∈G,∃q,∃hq:q<d.T.length,d.T[q] / 2=v:=fun v hv=>(H.out.1.tr.gk v hv).1.on HT.out.1 hc9a
     have hinj:∀u∈G,∀v∈G,(d2.F u).place=(d2.F v).place→u=v:=fun u hu v hv e=>by
      obtain⟨q,hq,eq⟩:=honG u hu;obtain⟨q',hq',eq'⟩:=honG v hv;have p1:=(HT.out.1.pl q hq).1;have p2:=(HT.out.1.pl q' hq').1;rw[eq]at p1;rw[eq']at p2;rw[H.out.1.fm.place u,H.out.1.fm.place v,p1,p2]at e;obtain rfl:q=q':=by omega
      rw[← eq,← eq']
     have hGn:∀v∈G,v≤d2.nv:=fun v hv=>by
      obtain⟨r,-,-,h9,-⟩:=H.out.1.tr.why HT.out.1 HT.out.2.2.1 hv;rw[H.out.1.fm.nv];exact h9
     have hGnd:G.Nodup:=H.out.1.tr.ng_;have HSO:=hide (sortG_any g dB aB w0 d2 a2 bs bg (bg+1) (.slice (some ⟨b,0,none⟩) j cap) vG vX L G X wl H.out.1.tw hGn hinj hGnd (by have:=HNG.out;omega))
     have HGX:=hide (And.intro hGi (And.intro hXi (And.intro H.out.1.tr.nx (fun v (hv:v∈G)=>H.out.1.tr.why HT.out.1 HT.out.2.2.1 hv))))
     have HFM:=hide (And.intro H.out.1.fm H.out.1.mk_);have hlX:X.length≤5001:=by have:=H.out.1.lenX;have:=H.out.1.fm.nv;omega
     rw[HVG.out]at HSO;clear hGi hXi hc9a honG hinj hGn hGnd H;go_wp2_with fail
     refine HSO.out.mono ?_;rintro e w4 ⟨rfl,G',hpm,hpw,htw4⟩;have hG'l:G'.length=nG:=hpm.length_eq.trans HNG.out;have H4:=hide htw4;have HPM:=hide (And.intro hpm hpw);have d9:=htw4.cellG.1;have lg4:=htw4.lt (b:=bg) (Or.inr (Or.inl rfl));have lx4:=htw4.lt (b:=bg+1) (Or.inr (Or.inr (Or.inl rfl)));obtain⟨qX,cX,hvX,-,-,-,-⟩:=htw4.ox.shape;have d10:=htw4.cellX.1;rw[hvX]at d10;obtain⟨nX,hnX⟩:∃nX,X.length=nX:=⟨_,rfl⟩;rw[hnX]at d10 hlX hvX;have HNX:=hide hnX;have HVX:=hide hvX;have hwS:IntKind.i64.wrap ((nG:Int)+(nX:Int))=((nG+nX:Nat):Int):=by rw[IntWalk.i64_left,IntWalk.wrap64_in _ (by omega)];omega
     have hmx:nG+nX≤maxLen:=Nat.le_trans (show nG+nX≤20000 by omega) (by decide)
     obtain⟨ii,hii,hz0,hz1,hz2⟩:=info_parts iLink;have HII:=hide (And.intro hii (And.intro hz0 (And.intro hz1 hz2)));clear hpm hpw htw4 HSO hnX hvX hc9 lg cs ls hlg hii hz0 hz1 hz2;go_wp2_with (at_make;refine Euf.Stop.of ?_)
     show wpList _ _ _ _ _ _
     refine wpList_make_own _ rfl _ _ 84 rfl 0 127 ii _ 2 uLinks HII.out.1 HII.out.2.1 HII.out.2.2.1 _ _ _ (nG+nX) rfl rfl (by first|rfl|omega) (by rw[HII.out.2.2.2];omega) hmx (Nat.zero_le _) ?_
     intro w5 hown5 hgr5;have hbl5:Below w4.heap.size w4 w5:=⟨hgr5.os,hgr5.tape,hgr5.output,hgr5.size,fun b9 hb9=>hgr5.block b9 hb9 (by simp)⟩
     have H5:Hid (TK g dB aB w0 d2 a2 bs bg (bg+1) (.slice (some ⟨b,0,none⟩) j cap) (.slice qG nG cG) vX L G' X (.slice (some ⟨w4.heap.size,0,none⟩) 0 (nG+nX)) [] w5):=by
      have h9:=H4.out;refine TK.start h9 hbl5 (Euf.OL.of_owns hown5 (fun i hi=>absurd hi (by omega))) (fun b9 hb9=>?_)
      have e9:w4.heap.size=b9:=by simpa [Value.ownBlock] using hb9
      omega
     have d95:=H5.out.tw.cellG.1;have lg5:=H5.out.tw.lt (b:=bg) (Or.inr (Or.inl rfl));obtain⟨ck,hck⟩:∃ck,nG+nX=ck:=⟨_,rfl⟩;obtain⟨bk,hbk⟩:∃bk,w4.heap.size=bk:=⟨_,rfl⟩;rw[hck,hbk]at H5;clear hown5 hgr5 hbl5 H4 d9 d10 lg4 lx4 hwS;go_wp2;go_loopw [13,61] (fun v13 v61 wr=>∃(i:Nat) (q:Option Addr) (k c:Nat),v61=.int .i64 (i:Nat)∧v13=.slice q k c∧i≤nG∧Hid (TK g dB aB w0 d2 a2 bs bg (bg+1) (.slice (some ⟨b,0,none⟩) j cap) (.slice qG nG cG) vX L G' X (.slice q k c) ((G'.take i).map (fun v=>((d.F v).reason.toNat,v))) wr)) (fun _ v _=>nG - (intOf v).toNat)
     case atStart=>exact⟨0,_,_,_,rfl,rfl,Nat.zero_le _,by first|exact H5.out|(rw[hck,hbk];exact H5.out)⟩
     case round =>
      rename World=>wk
      clear H5 d95 lg5;obtain⟨i,q,k,c,rfl,rfl,hi,H⟩:=hrel;have hfm:=HFM.out.1;have hnv2:=hfm.nv;have HG'L:=hide hG'l;obtain⟨K,hK⟩:∃K,(G'.take i).map (fun v=>((d.F v).reason.toNat,v))=K:=⟨_,rfl⟩
      rw[hK]at H;have hKl:K.length≤5001:=by rw[← hK,List.length_map,List.length_take];omega
      have hkk:k=K.length:=by
       obtain⟨q9,c9,e9,-⟩:=H.out.ok.shape;simp only[Value.slice.injEq]at e9;exact e9.2.1
      have HKK:=hide hkk;have HKE:=hide hK;clear hkk hK hfm;by_cases hlt:i<nG
      ·
       have hltI:(i:Int)<(nG:Int):=by omega
       have hiG:i<G'.length:=by rw[HG'L.out];exact hlt
       obtain⟨u,hu⟩:∃u,G'[i]=u:=⟨_,rfl⟩;have huG:u∈G:=HPM.out.1.mem_iff.1 (by rw[← hu];exact List.getElem_mem hiG)
       obtain⟨r,hr,hrn,hvn,-⟩:=HGX.out.2.2.2 u huG;have hog:=H.out.tw.og;obtain⟨bG,cG',hG',-,-⟩:=hog.open i hiG;simp only[Value.slice.injEq]at hG';obtain⟨rfl,-,rfl⟩:=hG';have qi:wk.cell? ⟨bG,i,none⟩=some (.int .i64 (u:Nat)):=by
        rw[HG'L.out]at hog;have h8:=hog.cell (i:=i) (j:=0) hlt (by decide)
        rw[Nat.mul_one,Nat.add_zero]at h8;rw[h8];simp[i64C,hiG,hu]
       have lG:bG<wk.heap.size:=hog.lt rfl;have hul:u<d2.nv+1:=by omega
       have huI:(u:Int)<(d2.nv:Int)+1:=by omega
       obtain⟨bF,cF,hF,lF,-,q2,-⟩:=H.out.tw.sw.wh hul;rw[HFM.out.1.reason u,hr]at q2;have c8:wk.cell? ⟨g,8,none⟩=some (.slice (some ⟨bF,0,none⟩) (d2.nv+1) cF):=(H.out.tw.sw.cell 8).trans (congrArg some hF);have hlg:=H.out.tw.sw.lt;have cs:=H.out.tw.cellS;have ls:=H.out.tw.lt (b:=bs) (Or.inl rfl);have hw32r:IntKind.i32.wrap (r:Int)=(r:Int):=wrap32 r (by omega)
       have hw32u:IntKind.i32.wrap (u:Int)=(u:Int):=wrap32 u (by omega)
       have HNX2:Hid ((G'.take (i+1)).map (fun v=>((d.F v).reason.toNat,v))=K++[(r,u)]):=by
        show _=_
        rw[List.take_succ_eq_append_getElem hiG,List.map_append,HKE.out,hu];simp[hr]
       have HO0:Hid (OL 2 127 wk (.slice q k c) K.length (prC K)):=H.out.ok;clear hu huG hr hog hF;go_wp2_with (at_builtin;refine Euf.Stop.of ?_)
       show wpList _ _ _ _ _ _
       have hol3:OL 2 127 (wk.alloc (.cells #[.int .i32 (r:Nat),.int .i32 (u:Nat)] 127 (0,0))) (.slice q k c) K.length (prC K):=HO0.out.stay fun b hb=>Below.heap_alloc wk _ b (HO0.out.lt hb)
       refine Euf.wpList_push rfl (.tmp 65) (.tmp 78) 84 rfl 2 127 _ 8 uLinks iLink (by decide) rfl (by decide) (.slice q k c) K.length (prC K) rfl [.int .i32 (r:Nat),.int .i32 (u:Nat)] 127 hol3 (fun _ _=>rfl) 1 rfl rfl (by intro u hu;simp at hu;rcases hu with rfl|rfl<;>rfl) (by omega) (prC (K++[(r,u)])) (fun q hq=>by simp[prC,List.getElem?_append_left hq]) (by simp[prC]) ?_
       intro v7 w7 hol7 hap7 hne7;replace hap7:=hap7.of_alloc (fun b hb=>HO0.out.lt hb)
       have hs7:=H.out.push (p:=(r,u)) hap7 hol7;obtain⟨q7,c7,hv7,-⟩:=hol7.shape;subst hv7;rw[← HNX2.out]at hs7;have HE:=hide hs7;clear hol3 hol7 hap7 hne7 hs7 H HO0 qi lG lF q2 c8 hlg cs ls;go_wp2;go_roundw
       case rel=>exact⟨i+1,_,_,_,by go_num,rfl,by omega,HE.out⟩
       case measure=>simp[intOf]<;>omega
      ·
       have hltI:¬ ((i:Int)<(nG:Int)):=by omega
       obtain rfl:i=nG:=by omega
       have hKG:G'.map (fun v=>((d.F v).reason.toNat,v))=K:=by
        rw[← HKE.out,← HG'L.out,List.take_length]
       have HKG:=hide hKG;have hXu:∀v∈X,v≤d2.nv∧(d2.F v).unit=(((d.F v).unit.toNat:Nat):Int)∧(d.F v).unit.toNat≤100000000∧(d.F v).unit.toNat<d.nc∧(d.F v).unit=(((d.F v).unit.toNat:Nat):Int):=fun v hv=>by
        obtain⟨h1,h2⟩:=(HGX.out.2.1 v).1 hv;obtain⟨q9,hq9,eq9⟩:=h1.on HT.out.1 (fun m hm=>(HT.out.2.2.1.cl m hm).1)
        have hok:=HT.out.1.ok _ (List.getElem_mem hq9);have hlv:=(HT.out.1.pl q9 hq9).2;rw[eq9,h2]at hlv;obtain⟨u9,hu9,eu9,-⟩:=HT.out.1.un q9 hq9 (by omega)
        rw[eq9]at eu9;rw[HFM.out.1.unit v,eu9];refine⟨by omega,by simp,by simp;omega,by simp;exact hu9,by simp⟩
       have HXU:=hide hXu;have hKI:(K.length:Int)≤5001:=by omega
       have HUF:=hide (unfixed_any g d2 a2 (.slice q k c) vX K X (fun v=>(d.F v).unit.toNat) wk H.out.tw.sw H.out.ok (fun b9 hb9=>(H.out.nk b9 hb9).1) H.out.tw.ox (fun v hv=>⟨(hXu v hv).1,(hXu v hv).2.1,(hXu v hv).2.2.1⟩) (by omega) (by omega) (by rw[HNX.out];omega))
       rw[HVX.out]at HUF;have cs:=H.out.tw.cellS;have ls:=H.out.tw.lt (b:=bs) (Or.inl rfl);have d10:=H.out.tw.cellX.1;rw[HVX.out]at d10;have lx:=H.out.tw.lt (b:=bg+1) (Or.inr (Or.inr (Or.inl rfl)));have HFIN:Hid (∀v' w9,OL 2 127 w9 v' (K++X.map (fun v=>((d.F v).unit.toNat,v))).length (prC (K++X.map (fun v=>((d.F v).unit.toNat,v))))→(∀b,v'.ownBlock=some b→(Value.slice q k c).ownBlock=some b∨wk.heap.size≤b)→Mv (fun b=>(Value.slice q k c).ownBlock=some b) wk w9→TaEnd g dB aB w0 d clash (.slice (some ⟨b,0,none⟩) j cap) L (.returned v') w9):=by
        intro v' w9 hol9 hown9 hmv9;have htw:=H.out.tw;have nk:=H.out.nk;have hsw:SW w9 g d2 a2:=htw.sw.keep (fun c9 hc9=>hmv9.other c9 (htw.sw.foLt hc9) (fun e9=>(nk c9 e9).1 hc9))
        refine⟨d2,a2,v',_,rfl,HFM.out.1,HFM.out.2,⟨hsw,⟨htw.mo.mv.trans hmv9 (fun b9 hb9=>Or.inr (nk b9 hb9).2),htw.mo.fo,htw.mo.ad,htw.mo.nn⟩,fun b9 hb9=>htw.nb b9 (Or.inr (Or.inr (Or.inr (Or.inl hb9)))),htw.ol.stay (fun b9 hb9=>hmv9.other b9 (htw.ol.lt hb9) (htw.notK H.out.ok (Or.inr (Or.inr (Or.inr (Or.inl hb9))))))⟩,hol9,fun b9 hb9=>?_,?_,?_,by rw[List.length_append,List.length_map,HNX.out];omega⟩
        ·
         rcases hown9 b9 hb9 with h9|h9
         · exact nk b9 h9
         · exact⟨fun hf=>by have:=htw.sw.foLt hf;omega,Nat.le_trans htw.mo.mv.size h9⟩
        ·
         rw[← HKG.out];refine cut_chain HT.out.1 HT.out.2.2.1 (G:=G') (X:=X) ?_ HGX.out.2.2.1 (fun v=>?_) HGX.out.2.1 (fun v hv=>?_) (fun v hv=>(HXU.out v hv).2.2.2.2)
         · exact HPM.out.2.imp (fun {x y} hxy=>by rw[HFM.out.1.place x,HFM.out.1.place y]at hxy;exact hxy)
         · rw[HPM.out.1.mem_iff];exact HGX.out.1 v
         · obtain⟨r,hr,-⟩:=HGX.out.2.2.2 v (HPM.out.1.mem_iff.1 hv);rw[hr];simp
        ·
         intro p9 hp9;rcases List.mem_append.1 hp9 with h9|h9
         ·
          rw[← HKG.out]at h9;obtain⟨v,hv,rfl⟩:=List.mem_map.1 h9;obtain⟨r,hr,hrn,-⟩:=HGX.out.2.2.2 v (HPM.out.1.mem_iff.1 hv);show (d.F v).reason.toNat<d.nc
          rw[hr];simpa using hrn
         · obtain⟨v,hv,rfl⟩:=List.mem_map.1 h9;exact (HXU.out v hv).2.2.2.1
       clear hXu hKG H;go_wp2_with fail
       refine HUF.out.mono ?_;rintro e w9 ⟨v',rfl,hol9,hown9,hmv9⟩;have HEN:=hide (HFIN.out v' w9 hol9 hown9 hmv9);clear hol9 hown9 hmv9 HUF HFIN;go_wp2;go_ret
       exact HEN.out
end Sat
namespace Sat
open Euf (OL App)
structure CL (g:Nat) (d:Dt) (a:Key→Value) (c b cap n:Nat) (w:World) (A:List Nat) (wr:World):Prop where
  sw:SW wr g (d.lits c A) a
  mo:Mo g d a w (d.lits c A) a wr
  len:A.length=n
  av:a (kLit c)=.slice (some ⟨b,0,none⟩) n cap
section
variable {g:Nat} {d:Dt} {a:Key→Value} {c b cap n:Nat} {w:World} {A:List Nat} {wr:World}
theorem CL.drewN (h:CL g d a c b cap n w A wr) (m:Nat):CL g d a c b cap n w A (wr.drewN m):={ h with sw:=h.sw.drewN m,mo:=h.mo.drewN m }
theorem CL.get (h:CL g d a c b cap n w A wr) (hc:c<d.nc) (hn:0<n):b<wr.heap.size∧(∀i (hi:i<A.length),wr.cell? ⟨b,i,none⟩=some (.int .i32 (A[i]:Nat)))∧∀o,wr.frozen? ⟨b,o,none⟩=false:=by
 have lx:((d.lits c A).C c).lits=A:=by show (upd d.C c _ c).lits=A;rw[upd_same]
 obtain⟨b',cap',hv,lb,-,-,q,z⟩:=h.sw.litR (c:=c) hc (by rw[lx,h.len];exact hn)
 have e:=h.av.symm.trans hv;simp only[Value.slice.injEq,Option.some.injEq,Addr.mk.injEq]at e;obtain⟨⟨rfl,-,-⟩,-,-⟩:=e;rw[lx]at q;exact⟨lb,q,z⟩
theorem CL.set (h:CL g d a c b cap n w A wr) (hc:c<d.nc) {i:Nat} (hi:i<A.length) (x:Nat):CL g d a c b cap n w (A.set i x) (wr.setCell ⟨b,i,none⟩ (.int .i32 (x:Nat))):=by
 have lx:((d.lits c A).C c).lits=A:=by show (upd d.C c _ c).lits=A;rw[upd_same]
 obtain⟨s1,m1⟩:=SW.setLit (d:=d.lits c A) h.sw (c:=c) (b:=b) (cap:=cap) (i:=i) hc (by rw[h.av];show _=Value.slice _ ((d.lits c A).C c).lits.length _;rw[lx,h.len]) (by rw[lx];exact hi) x
 rw[lx,lits_lits]at s1 m1;exact⟨s1,h.mo.trans m1,by rw[List.length_set];exact h.len,h.av⟩
end
def LsE (g:Nat) (d:Dt) (a:Key→Value) (c b cap:Nat) (w w':World):Prop :=
  ∃L',CL g d a c b cap (d.C c).lits.length w L' w'∧L'.Perm (d.C c).lits∧L'[0]?=(d.C c).lits[0]?∧∀j (hj:j<L'.length) (h1:1<L'.length),1≤j→(d.F (L'[j] / 2)).level≤(d.F (L'[1] / 2)).level
set_option maxRecDepth 20000 in
set_option maxHeartbeats 16000000 in
theorem latestSecond_any (g:Nat) (d:Dt) (a:Key→Value) (c b cap:Nat) (w:World) (h:SW w g d a) (hc:c<d.nc) (hv:a (kLit c)=.slice (some ⟨b,0,none⟩) (d.C c).lits.length cap) (hL:∀m∈(d.C c).lits,m<2*(d.nv+1)) (hn:d.nv≤5000) (hl:(d.C c).lits.length≤10000) (h2:2≤(d.C c).lits.length) :
  Calls Tryz.prog 100 #[.pointer (some ⟨g,0,none⟩),.slice (some ⟨b,0,none⟩) (d.C c).lits.length cap] w fun e w'=>e=.returned (.tuple #[])∧LsE g d a c b cap w w':=by
 obtain⟨L,hLe⟩:∃L,(d.C c).lits=L:=⟨_,rfl⟩;have HLE:=hide hLe;have hs0:SW w g (d.lits c L) a:=by rw[← hLe,lits_self];exact h
 have hm0:Mo g d a w (d.lits c L) a w:=by rw[← hLe,lits_self];exact Mo.refl _ _ _ _
 rw[hLe]at hv hL hl h2;rw[hLe];obtain⟨n,hnn⟩:∃n,L.length=n:=⟨_,rfl⟩;have HN:=hide hnn;have H0:Hid (CL g d a c b cap n w L w∧LS (fun m=>(d.F (m / 2)).level) L 2 L):=⟨⟨hs0,hm0,hnn,by rw[← hnn];exact hv⟩,LS.start _ _⟩
 have HL:=hide hL;rw[hnn]at hl h2;rw[hnn];clear h hs0 hm0 hv hL hnn hLe;go_enter Tryz.func100,Tryz.ntmps100;go_wp2;go_loopw [4] (fun v4 wr=>∃(i:Nat) (A:List Nat),v4=.int .i64 (i:Nat)∧2≤i∧i≤n∧Hid (CL g d a c b cap n w A wr∧LS (fun m=>(d.F (m / 2)).level) L i A)) (fun v _=>n - (intOf v).toNat)
 case atStart=>exact⟨2,L,rfl,Nat.le_refl _,h2,H0.out⟩
 case round =>
  rename World=>wl
  clear H0;obtain⟨i,A,rfl,hi2,hi,H⟩:=hrel;by_cases hlt:i<n
  ·
   have hltI:(i:Int)<(n:Int):=by omega
   have h1I:(1:Int)<(n:Int):=by omega
   have h1n:1<n:=by omega
   have hAl:=H.out.1.len;obtain⟨lb,qA,zA⟩:=H.out.1.get hc (by omega)
   have hiA:i<A.length:=by omega
   have h1A:1<A.length:=by omega
   have HAL:=hide hAl;have qi:=qA i hiA;have q1:=qA 1 h1A;obtain⟨x,hx⟩:∃x,A[i]=x:=⟨_,rfl⟩;obtain⟨y,hy⟩:∃y,A[1]=y:=⟨_,rfl⟩;rw[hx]at qi;rw[hy]at q1;have zi:=zA i;have z1:=zA 1;have hxo:=HL.out x (H.out.2.pe.mem_iff.1 (by rw[← hx];exact List.getElem_mem hiA))
   have hyo:=HL.out y (H.out.2.pe.mem_iff.1 (by rw[← hy];exact List.getElem_mem h1A))
   have hx2:x<20000:=by omega
   have hy2:y<20000:=by omega
   have HVX:=hide (fun w9=>variable_any x w9 hx2)
   have HVY:=hide (fun w9=>variable_any y w9 hy2)
   have HXY:Hid (∃(h1:i<A.length) (h2:1<A.length),A[i]=x∧A[1]=y):=⟨hiA,h1A,hx,hy⟩;obtain⟨u,hu⟩:∃u,x / 2=u:=⟨_,rfl⟩;obtain⟨v,hv⟩:∃v,y / 2=v:=⟨_,rfl⟩;rw[hu]at HVX;rw[hv]at HVY;have HUV:=hide (And.intro hu hv);have hul:u<d.nv+1:=by omega
   have hvl:v<d.nv+1:=by omega
   have huI:(u:Int)<(d.nv:Int)+1:=by omega
   have hvI:(v:Int)<(d.nv:Int)+1:=by omega
   obtain⟨bF,cF,hF,lF,qF,-⟩:=H.out.1.sw.facR;have c8:wl.cell? ⟨g,8,none⟩=some (.slice (some ⟨bF,0,none⟩) (d.nv+1) cF):=(H.out.1.sw.cell 8).trans (congrArg some hF);have qu:=(qF u hul).1;have qv:=(qF v hvl).1;have hlg:=H.out.1.sw.lt;clear qA zA hx hy hu hv hF qF hAl;by_cases hgt:(d.F v).level<(d.F u).level
   ·
    have hne:i≠1:=by omega
    have HE:Hid (∀nn,∃z,((wl.drewN nn).drew.setCell ⟨b,1,none⟩ (.int .i32 (x:Nat))).cell? ⟨b,i,none⟩=some z∧((wl.drewN nn).drew.setCell ⟨b,1,none⟩ (.int .i32 (x:Nat))).frozen? ⟨b,i,none⟩=false∧b<((wl.drewN nn).drew.setCell ⟨b,1,none⟩ (.int .i32 (x:Nat))).heap.size∧CL g d a c b cap n w ((A.set 1 x).set i y) (((wl.drewN nn).drew.setCell ⟨b,1,none⟩ (.int .i32 (x:Nat))).setCell ⟨b,i,none⟩ (.int .i32 (y:Nat)))∧LS (fun m=>(d.F (m / 2)).level) L (i+1) ((A.set 1 x).set i y)):=by
     intro nn;obtain⟨k1,k2,ex,ey⟩:=HXY.out;have s1:=((H.out.1.drewN nn).drewN 1).set hc k2 x;have hl1:(A.set 1 x).length=A.length:=List.length_set;have s2:=s1.set hc (i:=i) (by rw[hl1];exact k1) y
     have hls:=H.out.2.swap hi2 k1 k2 (by show (d.F (A[1] / 2)).level≤(d.F (A[i] / 2)).level;rw[ex,ey,HUV.out.1,HUV.out.2];omega)
     rw[ex,ey]at hls;obtain⟨lb1,q1',z1'⟩:=s1.get hc (by omega)
     exact⟨_,q1' i (by rw[hl1];exact k1),z1' i,lb1,s2,hls⟩
    generalize (d.F u).level=lu at qu hgt;generalize (d.F v).level=lw at qv hgt;go_wp2_with fail
    go_quiet ((go_at_call 62;first|exact Calls.quiet_of_same (HVX.out _)|exact Calls.quiet_of_same (HVY.out _)))
    obtain⟨w1,hw1⟩:∃w1,wl.drewN nq=w1:=⟨_,rfl⟩;rw[hw1];obtain⟨z,hz1,hz2,hz3,hs9⟩:=HE.out nq;rw[hw1]at hz1 hz2 hz3 hs9;have p1:w1.cell? ⟨b,1,none⟩=some (.int .i32 (y:Nat)):=by rw[← hw1];exact q1
    have pi:w1.cell? ⟨b,i,none⟩=some (.int .i32 (x:Nat)):=by rw[← hw1];exact qi
    have f1:w1.frozen? ⟨b,1,none⟩=false:=by rw[← hw1];exact z1
    have fi:w1.frozen? ⟨b,i,none⟩=false:=by rw[← hw1];exact zi
    have lb1:b<w1.heap.size:=by rw[← hw1];exact lb
    obtain⟨wd,hwd⟩:∃wd,w1.drew.setCell ⟨b,1,none⟩ (.int .i32 (x:Nat))=wd:=⟨_,rfl⟩;rw[hwd]at hz1 hz2 hz3 hs9;have HS9:=hide hs9;clear hw1 hs9 HE q1 qi z1 zi lb c8 qu qv lF hlg H;go_wp2_with fail
    go_region
    go_wp2;go_roundw
    case rel=>exact⟨i+1,_,by go_num,by omega,by omega,HS9.out⟩
    case measure=>simp[intOf]<;>omega
   ·
    have hgtI:¬ ((d.F v).level<(d.F u).level):=hgt;have HE:Hid (∀nn,CL g d a c b cap n w A (wl.drewN nn)∧LS (fun m=>(d.F (m / 2)).level) L (i+1) A):=fun nn=>by
     obtain⟨k1,k2,ex,ey⟩:=HXY.out;exact⟨H.out.1.drewN nn,H.out.2.skip k1 k2 (by show (d.F (A[i] / 2)).level≤(d.F (A[1] / 2)).level;rw[ex,ey,HUV.out.1,HUV.out.2];omega)⟩
    generalize (d.F u).level=lu at qu hgtI hgt;generalize (d.F v).level=lw at qv hgtI hgt;go_wp2_with fail
    go_quiet ((go_at_call 62;first|exact Calls.quiet_of_same (HVX.out _)|exact Calls.quiet_of_same (HVY.out _)))
    go_wp2;go_roundw
    case rel=>exact⟨i+1,A,by go_num,by omega,by omega,HE.out _⟩
    case measure=>simp[intOf]<;>omega
  ·
   have hltI:¬ ((i:Int)<(n:Int)):=by omega
   obtain rfl:i=n:=by omega
   have HE:Hid (LsE g d a c b cap w wl):=by
    have e9:(d.C c).lits.length=i:=by rw[HLE.out];exact HN.out
    refine⟨A,by rw[e9];exact H.out.1,by rw[HLE.out];exact H.out.2.pe,by rw[HLE.out];exact H.out.2.h0,fun j hj h1 h9=>H.out.2.mx j hj h1 h9 ?_⟩
    have:=H.out.1.len;omega
   go_wp2;go_end0
   exact⟨rfl,HE.out⟩
end Sat
namespace Sat
open Euf (OL App)
def unV (V:Nat→Int) (D:List Nat) (x:Nat):Int:=if x∈D∨ng x∈D then 0 else V x
theorem unV_snoc (V:Nat→Int) (D:List Nat) (l:Nat):upd (upd (unV V D) l 0) (ng l) 0=unV V (D++[l]):=by
 funext x
 by_cases e:x=ng l
 · subst e;rw[upd_same];unfold unV;rw[if_pos (by simp[ng_ng])]
 ·
  rw[upd_other _ _ e];by_cases e2:x=l
  · subst e2;rw[upd_same];unfold unV;rw[if_pos (by simp)]
  ·
   rw[upd_other _ _ e2];unfold unV;have e3:ng x≠l:=fun h=>e (by rw[← h,ng_ng])
   simp[e2,e3]
def Lst (F F':Nat→Fc):Prop:=∀v,(F' v).level=(F v).level∧(F' v).place=(F v).place∧(F' v).reason=(F v).reason∧(F' v).unit=(F v).unit∧(F' v).mark=(F v).mark
theorem Lst.refl (F:Nat→Fc):Lst F F:=fun _=>⟨rfl,rfl,rfl,rfl,rfl⟩
theorem Lst.upd {F F':Nat→Fc} (h:Lst F F') (v:Nat) (b:Bool):Lst F (Sat.upd F' v { F' v with last:=b }):=fun u=>by
  by_cases e:u=v
  · subst e;rw[upd_same];exact h u
  · rw[upd_other _ _ e];exact h u
abbrev Dt.und (d:Dt) (V:Nat→Int) (F:Nat→Fc) (hp:List Nat) (at_:Nat→Nat):Dt:={ d with V:=V,F:=F,hp:=hp,at_:=at_ }
def UdEnd (g:Nat) (d:Dt) (a:Key→Value) (k:Nat) (w w':World):Prop :=
  (d.S.length≤k∧Below w.heap.size w w')∨∃hk:k<d.S.length,∃F' hp' at' a',SW w' g { d with V:=unV d.V (d.T.drop d.S[k]),F:=F',T:=d.T.take d.S[k],S:=d.S.take k,head:=d.S[k],hp:=hp',at_:=at' } a'∧Mo g d a w { d with V:=unV d.V (d.T.drop d.S[k]),F:=F',T:=d.T.take d.S[k],S:=d.S.take k,head:=d.S[k],hp:=hp',at_:=at' } a' w'∧Lst d.F F'∧OI d.nv hp' at'∧∀u,u∈hp'↔u∈d.hp∨∃l∈d.T.drop d.S[k],l / 2=u
set_option maxRecDepth 20000 in
set_option maxHeartbeats 16000000 in
theorem undo_any (g:Nat) (d:Dt) (a:Key→Value) (k:Nat) (w:World) (h:SW w g d a) (ho:OI d.nv d.hp d.at_) (hT:∀l∈d.T,l<2*(d.nv+1)) (hS:∀s∈d.S,s<d.T.length) (hn:d.nv≤5000) (hTl:d.T.length≤10000) (hSl:d.S.length≤10000) (hk4:k≤10000) :
  Calls Tryz.prog 39 #[.pointer (some ⟨g,0,none⟩),.int .i64 (k:Nat)] w fun e w'=>e=.returned (.tuple #[])∧UdEnd g d a k w w':=by
 obtain⟨qS,cS,hSv,-,-,pS⟩:=h.len (k:=kSta) (by exact⟨by decide,rfl⟩)
 have c10:w.cell? ⟨g,10,none⟩=some (.slice qS d.S.length cS):=(h.cell 10).trans (congrArg some hSv);have hlg:=h.lt;have H0:=hide (And.intro h ho);have HT:=hide (And.intro hT hS);by_cases hk:k<d.S.length
 ·
  have hkI:¬ ((d.S.length:Int)≤(k:Int)):=by omega
  obtain⟨bS,cS',hS',lS,-,-,qS',-⟩:=h.staR (by omega)
  have e1:=hSv.symm.trans hS';have e2:qS=some ⟨bS,0,none⟩∧cS=cS':=by
   have e3:Value.slice qS d.S.length cS=Value.slice (some ⟨bS,0,none⟩) d.S.length cS':=e1;simp only[Value.slice.injEq]at e3;exact⟨e3.1,e3.2.2⟩
  obtain⟨rfl,rfl⟩:=e2;have qk:=qS' k hk;have HSK:Hid (d.S[k]<d.T.length):=hS _ (List.getElem_mem hk);have HSV:Hid (a kSta=.slice (some ⟨bS,0,none⟩) d.S.length cS):=hSv;obtain⟨s,hs⟩:∃s,s=d.S[k]:=⟨_,rfl⟩;rw[← hs]at qk HSK;have HS2:=hide hs;have hsT:s<d.T.length:=HSK.out;have hsI:(s:Int)<(d.T.length:Int):=by omega
  obtain⟨bT,cT,hTv,lT,kT1,kT2,qT,-⟩:=h.traR (by omega)
  have c9:w.cell? ⟨g,9,none⟩=some (.slice (some ⟨bT,0,none⟩) d.T.length cT):=(h.cell 9).trans (congrArg some hTv);have HTV:Hid (a kTra=.slice (some ⟨bT,0,none⟩) d.T.length cT):=hTv;have hcs:¬ (cT=s):=by omega
  have hcs2:s≤cT:=by omega
  have hcsI:(s:Int)≤(cT:Int):=by omega
  clear h ho hT hS hSv hS' qS' pS e1 hs hTv qT;go_enter Tryz.func39,Tryz.ntmps39;go_wp2;clear c9 c10 qk;obtain⟨n,hnn⟩:∃n,d.T.length - s=n:=⟨_,rfl⟩;rw[hnn];have HNN:=hide hnn;clear hnn;have hn4:n≤10000:=by have:=HNN.out;omega
  have HD:Hid (∀i (hi:i<n),∃hh:s+i<d.T.length,(d.T.drop s).take (i+1)=(d.T.drop s).take i++[d.T[s+i]]):=by
   intro i hi;have h1:s+i<d.T.length:=by have:=HNN.out;omega
   refine⟨h1,?_⟩;have h2:i<(d.T.drop s).length:=by rw[List.length_drop];omega
   rw[List.take_succ_eq_append_getElem h2,List.getElem_drop]
  go_loopw [28] (fun v28 wr=>∃(i:Nat) (F':Nat→Fc) (hp':List Nat) (at':Nat→Nat) (a':Key→Value),v28=.int .i64 (i:Nat)∧i≤n∧Hid (SW wr g (d.und (unV d.V ((d.T.drop s).take i)) F' hp' at') a'∧Mo g d a w (d.und (unV d.V ((d.T.drop s).take i)) F' hp' at') a' wr∧Lst d.F F'∧OI d.nv hp' at'∧(∀u,u∈hp'↔u∈d.hp∨∃l∈(d.T.drop s).take i,l / 2=u)∧∀k,k≠kHea→a' k=a k)) (fun v _=>n - (intOf v).toNat)
  case atStart =>
   have e:unV d.V ((d.T.drop s).take 0)=d.V:=by funext x;simp[unV]
   exact⟨0,d.F,d.hp,d.at_,a,rfl,Nat.zero_le _,by rw[e];exact H0.out.1,by rw[e];exact Mo.refl _ _ _ _,Lst.refl _,H0.out.2,fun u=>by simp,fun _ _=>rfl⟩
  case round =>
   rename World=>wl
   obtain⟨i,F',hp',at',a',rfl,hi,H⟩:=hrel;by_cases hlt:i<n
   ·
    have hltI:(i:Int)<(n:Int):=by omega
    obtain⟨hsi,HTK⟩:=HD.out i hlt;have HTK:=hide HTK;have HLl:=hide (HT.out.1 _ (List.getElem_mem hsi));obtain⟨bT',cT',hTv',lT',-,-,qT',-⟩:=H.out.1.traR (by show 0<d.T.length;omega)
    have e1:=(H.out.2.2.2.2.2 kTra (by intro e;injection e with e _;exact absurd e (by decide))).trans HTV.out |>.symm.trans hTv'
    have e2:bT=bT'∧cT=cT':=by
     have e3:Value.slice (some ⟨bT,0,none⟩) d.T.length cT=Value.slice (some ⟨bT',0,none⟩) d.T.length cT':=e1;simp only[Value.slice.injEq,Option.some.injEq,Addr.mk.injEq]at e3;exact⟨e3.1.1,e3.2.2⟩
    obtain⟨rfl,rfl⟩:=e2;have qi:wl.cell? ⟨bT,s+i,none⟩=some (.int .i32 (d.T[s+i]:Nat)):=qT' (s+i) hsi;generalize d.T[s+i]=l at qi HTK HLl;have hll:l<2*(d.nv+1):=HLl.out;have hl2:l<20000:=by omega
    have hng:ng l<2*(d.nv+1):=ng_lt hll;have hlI:(l:Int)<2*((d.nv:Int)+1):=by omega
    have hnI:((ng l:Nat):Int)<2*((d.nv:Int)+1):=by omega
    clear e1 hTv' qT';-- its value
    obtain⟨bV,cV,hV,lV,qV,zV⟩:=H.out.1.valR;have c6:wl.cell? ⟨g,6,none⟩=some (.slice (some ⟨bV,0,none⟩) (2*(d.nv+1)) cV):=(H.out.1.cell 6).trans (congrArg some hV);have q0:=qV l hll;have z0:=zV l;have hlg0:=H.out.1.lt;obtain⟨s1,m1⟩:=H.out.1.setV hV hll 0;obtain⟨w1,hw1⟩:∃w1,wl.setCell ⟨bV,l,none⟩ (.int .i8 0)=w1:=⟨_,rfl⟩;rw[hw1]at s1 m1;obtain⟨bV',cV',hV',lV',qV',zV'⟩:=s1.valR;have e1:=hV.symm.trans hV';have e2:bV=bV'∧cV=cV':=by
     have e3:Value.slice (some ⟨bV,0,none⟩) (2*(d.nv+1)) cV=Value.slice (some ⟨bV',0,none⟩) (2*(d.nv+1)) cV':=e1;simp only[Value.slice.injEq,Option.some.injEq,Addr.mk.injEq]at e3;exact⟨e3.1.1,e3.2.2⟩
    obtain⟨rfl,rfl⟩:=e2;have c6':w1.cell? ⟨g,6,none⟩=some (.slice (some ⟨bV,0,none⟩) (2*(d.nv+1)) cV):=(s1.cell 6).trans (congrArg some hV);have q1:=qV' (ng l) hng;have z1:=zV' (ng l);have hlg1:=s1.lt;obtain⟨s2,m2⟩:=s1.setV hV hng 0;have H2:Hid (SW (w1.setCell ⟨bV,ng l,none⟩ (.int .i8 0)).drew g (d.und (unV d.V ((d.T.drop s).take (i+1))) F' hp' at') a'∧Mo g d a w (d.und (unV d.V ((d.T.drop s).take (i+1))) F' hp' at') a' (w1.setCell ⟨bV,ng l,none⟩ (.int .i8 0)).drew):=by
     have s3:SW (w1.setCell ⟨bV,ng l,none⟩ (.int .i8 0)) g (d.und (upd (upd (unV d.V ((d.T.drop s).take i)) l 0) (ng l) 0) F' hp' at') a':=s2;have m3:Mo g _ a' wl (d.und (upd (upd (unV d.V ((d.T.drop s).take i)) l 0) (ng l) 0) F' hp' at') a' (w1.setCell ⟨bV,ng l,none⟩ (.int .i8 0)):=m1.trans m2;rw[unV_snoc,← HTK.out]at s3 m3;exact⟨s3.drew,(H.out.2.1.trans m3).trans (Mo.drew _ _ _ _)⟩
    have HR:=hide H.out.2.2;generalize (upd (unV d.V ((d.T.drop s).take i)) l 0) (ng l)=x1 at q1;generalize unV d.V ((d.T.drop s).take i) l=x0 at q0;clear s1 m1 s2 m2 qV zV qV' zV' hV hV' e1 H;go_wp2;go_cut [44] (fun v44 wx=>v44=.pointer (some ⟨bV,ng l,none⟩)∧(w1.setCell ⟨bV,ng l,none⟩ (.int .i8 0)).drew=wx)
    case first =>
     go_region_with (go_at_call 72;refine (opposite_any l _ hl2).mono ?_;rintro e w9 ⟨rfl,rfl⟩)
     all_goals (go_wp2_with fail;go_meet)
     all_goals exact⟨rfl,rfl⟩
    case rest =>
     obtain⟨-,hwc⟩:=hcut;rw[hwc]at H2;clear hwc hw1 c6 c6' q0 z0 q1 z1 hlg0 hlg1 qi;rename World=>wA
     -- its last value
     obtain⟨bF,cF,hF,lF,qF,zF⟩:=H2.out.1.facR;have c8:wA.cell? ⟨g,8,none⟩=some (.slice (some ⟨bF,0,none⟩) (d.nv+1) cF):=(H2.out.1.cell 8).trans (congrArg some hF);obtain⟨v,hv⟩:∃v,v=l / 2:=⟨_,rfl⟩;have hvl:v<d.nv+1:=by omega
     have hvI:(v:Int)<(d.nv:Int)+1:=by omega
     have HV:=hide hv;have HVC:=hide (fun w9=>variable_any l w9 hl2)
     have HNC:=hide (fun w9=>number_any l w9 hl2)
     rw[← hv]at HVC;generalize num l=z at HNC;have q4:=(qF v hvl).2.2.2.2.1;have z4:=zF (v*6+4);have hlg2:=H2.out.1.lt;obtain⟨s3,m3⟩:=H2.out.1.setF hF hvl 4 (by decide) (.bool (decide (0<z))) { F' v with last:=decide (0<z) } (by unfold facC;rw[upd_same];rfl)
     have H3:Hid (SW (wA.setCell ⟨bF,v*6+4,none⟩ (.bool (decide (0<z)))).drew g (d.und (unV d.V ((d.T.drop s).take (i+1))) (upd F' v { F' v with last:=decide (0<z) }) hp' at') a'∧Mo g d a w (d.und (unV d.V ((d.T.drop s).take (i+1))) (upd F' v { F' v with last:=decide (0<z) }) hp' at') a' (wA.setCell ⟨bF,v*6+4,none⟩ (.bool (decide (0<z)))).drew):=⟨s3.drew,(H2.out.2.trans m3).trans (Mo.drew _ _ _ _)⟩;generalize (F' v).last=l0 at q4;clear s3 m3 qF zF hF hv H2;go_wp2_with fail
     go_cut [54] (fun v54 wx=>v54=.pointer (some ⟨bF,v*6,none⟩)∧(wA.setCell ⟨bF,v*6+4,none⟩ (.bool (decide (0<z)))).drew=wx)
     case first =>
      go_region_with (first|(go_at_call 62;refine (HVC.out _).mono ?_;rintro e w9 ⟨rfl,rfl⟩)|(go_at_call 73;refine (HNC.out _).mono ?_;rintro e w9 ⟨rfl,rfl⟩))
      all_goals (go_wp2_with fail;go_meet)
      all_goals exact⟨rfl,rfl⟩
     case rest =>
      obtain⟨-,hwc⟩:=hcut;rw[hwc]at H3;clear hwc c8 q4 z4 hlg2 HNC lF;have hlg3:=H3.out.1.lt;have HPU:Hid (Calls Tryz.prog 61 #[.pointer (some ⟨g,12,none⟩),.int .i64 (v:Nat)] wc.drew fun e w'=>e=.returned (.tuple #[])∧∃F2 hp2 at2 a2,SW w' g (d.und (unV d.V ((d.T.drop s).take (i+1))) F2 hp2 at2) a2∧Mo g d a w (d.und (unV d.V ((d.T.drop s).take (i+1))) F2 hp2 at2) a2 w'∧Lst d.F F2∧OI d.nv hp2 at2∧(∀u,u∈hp2↔u∈d.hp∨∃l∈(d.T.drop s).take (i+1),l / 2=u)∧∀k,k≠kHea→a2 k=a k):=by
       refine (push_any g _ a' v wc.drew H3.out.1.drew HR.out.2.1 (by show v≤d.nv;omega) hn).mono ?_
       rintro e w9 ⟨rfl,hp2,at2,a2,hs2,hm2,ho2,hu2,ha2⟩;refine⟨rfl,_,hp2,at2,a2,hs2,(H3.out.2.trans (Mo.drew _ _ _ _)).trans hm2,HR.out.1.upd v _,ho2,fun u=>?_,fun k hk=>(ha2 k hk).trans (HR.out.2.2.2 k hk)⟩
       rw[hu2 u,show (u∈(d.und (unV d.V ((d.T.drop s).take (i+1))) (upd F' v { F' v with last:=decide (0<z) }) hp' at').hp↔u∈hp') from Iff.rfl,HR.out.2.2.1 u,HTK.out]
       constructor
       ·
        rintro ((h9|⟨x,hx,h9⟩)|h9)
        · exact Or.inl h9
        · exact Or.inr ⟨x,List.mem_append_left _ hx,h9⟩
        · exact Or.inr ⟨l,List.mem_append_right _ (by simp),by rw[h9,HV.out]⟩
       ·
        rintro (h9|⟨x,hx,h9⟩)
        · exact Or.inl (Or.inl h9)
        ·
         rcases List.mem_append.1 hx with hx|hx
         · exact Or.inl (Or.inr ⟨x,hx,h9⟩)
         · simp at hx;subst hx;exact Or.inr (by rw[← h9,HV.out])
      clear H3 HR HTK HV HD;go_wp2_with fail
      go_region_with (first|(go_at_call 62;refine (HVC.out _).mono ?_;rintro e w9 ⟨rfl,rfl⟩)|(go_at_call 61;refine HPU.out.mono ?_;rintro e w9 ⟨rfl,F2,hp2,at2,a2,HE⟩;have HE:=hide HE))
      all_goals go_wp2
      all_goals exact⟨⟨i+1,F2,hp2,at2,a2,by go_num,by omega,HE.out⟩,by simp[intOf]<;>omega⟩
   ·
    have hltI:¬ ((i:Int)<(n:Int)):=by omega
    obtain rfl:i=n:=by omega
    have hD:(d.T.drop s).take i=d.T.drop s:=List.take_of_length_le (by rw[List.length_drop];have:=HNN.out;omega)
    rw[hD]at H;clear hD;have hkT:a' kTra=.slice (some ⟨bT,0,none⟩) d.T.length cT:=(H.out.2.2.2.2.2 kTra (by intro e;injection e with e _;exact absurd e (by decide))).trans HTV.out
    have hkS:a' kSta=.slice (some ⟨bS,0,none⟩) d.S.length cS:=(H.out.2.2.2.2.2 kSta (by intro e;injection e with e _;exact absurd e (by decide))).trans HSV.out
    have c9:wl.cell? ⟨g,9,none⟩=some (.slice (some ⟨bT,0,none⟩) d.T.length cT):=(H.out.1.cell 9).trans (congrArg some hkT);have z9:=H.out.1.frozen 9;have hlg0:=H.out.1.lt;obtain⟨s1,m1⟩:=H.out.1.cut_T (b:=bT) (cap:=cT) hkT s (by show s≤d.T.length;omega)
    obtain⟨w1,hw1⟩:∃w1,wl.setCell ⟨g,9,none⟩ (.slice (some ⟨bT,0,none⟩) s cT)=w1:=⟨_,rfl⟩;rw[hw1]at s1 m1;have hkS1:updK a' kTra (.slice (some ⟨bT,0,none⟩) s cT) kSta=.slice (some ⟨bS,0,none⟩) d.S.length cS:=(updK_other _ _ (by intro e;injection e with e _;exact absurd e (by decide))).trans hkS
    have c10:w1.cell? ⟨g,10,none⟩=some (.slice (some ⟨bS,0,none⟩) d.S.length cS):=(s1.cell 10).trans (congrArg some hkS1);have z10:=s1.frozen 10;have hlg1:=s1.lt;obtain⟨s2,m2⟩:=s1.cut_S (b:=bS) (cap:=cS) hkS1 k (by show k≤d.S.length;omega)
    obtain⟨w2,hw2⟩:∃w2,w1.setCell ⟨g,10,none⟩ (.slice (some ⟨bS,0,none⟩) k cS)=w2:=⟨_,rfl⟩;rw[hw2]at s2 m2;have c11:w2.cell? ⟨g,11,none⟩=some (.int .i64 (d.head:Nat)):=s2.cell 11;have z11:=s2.frozen 11;have hlg2:=s2.lt;obtain⟨s3,m3⟩:=s2.head_ s;have HE:Hid (UdEnd g d a k w (w2.setCell ⟨g,11,none⟩ (.int .i64 (s:Nat)))):=by
     refine Or.inr ⟨hk,F',hp',at',updK (updK a' kTra (.slice (some ⟨bT,0,none⟩) s cT)) kSta (.slice (some ⟨bS,0,none⟩) k cS),?_⟩;rw[← HS2.out];exact⟨s3,H.out.2.1.trans ((m1.trans m2).trans m3),H.out.2.2.1,H.out.2.2.2.1,H.out.2.2.2.2.1⟩
    have hkc:k≤cS:=by
     have h9:=H.out.1.ol (k:=kSta) (by exact⟨by decide,rfl⟩)
     rw[hkS]at h9;obtain⟨q',c',e1,e2,-⟩:=h9.shape;simp only[Value.slice.injEq]at e1;have e3:d.S.length≤c':=e2;omega
    have hkcI:(k:Int)≤(cS:Int):=by omega
    clear s1 m1 s2 m2 s3 m3 H hkT hkS hkS1;go_wp2;go_end0
    exact⟨rfl,HE.out⟩
 ·
  have hkI:(d.S.length:Int)≤(k:Int):=by omega
  have hkL:d.S.length≤k:=by omega
  clear h ho hT hS hSv pS;go_enter Tryz.func39,Tryz.ntmps39;go_wp2;refine bodyPost_ret (results_none rfl _ _ _) rfl ?_;exact⟨rfl,Or.inl ⟨hkL,Below.refl _ _⟩⟩
end Sat
namespace Sat
section
variable {nv:Nat} {V:Nat→Int} {T S:List Nat} {F:Nat→Fc} {nc:Nat} {C:Nat→Cl}
theorem TI.stay (t:TI nv V T S F nc C) {k m:Nat} (hk:k<S.length) (hm:ng m∈T) (hl:(F (m / 2)).level≤(k:Int)):∃i:Nat,i<S[k]∧T[i]?=some (ng m)∧(lvl S i:Int)=(F (m / 2)).level:=by
 obtain⟨i,hi,e⟩:=List.mem_iff_getElem.1 hm;have h1:=(t.pl i hi).2;rw[e,ng_var]at h1;exact⟨i,(lvl_take t.up hk).1 (by omega),by rw[List.getElem?_eq_getElem hi,e],h1.symm⟩
theorem TI.goes (t:TI nv V T S F nc C) {k m:Nat} (hk:k<S.length) (hm:ng m∈T) (hl:(k:Int)<(F (m / 2)).level):vl (T.take S[k]) m=0:=by
 obtain⟨i,hi,e⟩:=List.mem_iff_getElem.1 hm;have h1:=(t.pl i hi).2;rw[e,ng_var]at h1;have hik:S[k]≤i:=by
  rcases Nat.lt_or_ge i S[k] with h9|h9
  · have:=(lvl_take t.up hk).2 h9;omega
  · exact h9
 refine vl_zero.2 ⟨fun h9=>?_,fun h9=>?_⟩
 · exact nd_ng t.nd (List.mem_of_mem_take h9) hm
 · have:=lt_of_take t.nd hi e h9;omega
theorem TI.jump (t:TI nv V T S F nc C) {k a b:Nat} {r:List Nat} (hk:k<S.length) (h0:0<k) (hf:∀m∈a::b::r,ng m∈T) (ha:(k:Int)<(F (a / 2)).level) (hb:(F (b / 2)).level=(k:Int)) (hr:∀m∈r,(F (m / 2)).level≤(k:Int)) :
  vl (T.take S[k]) a=0∧(∃i:Nat,(T.take S[k])[i]?=some (ng b)∧lvl (S.take k) i=(S.take k).length)∧(∀m∈r,ng m∈T.take S[k])∧S.take k≠[]:=by
 refine⟨t.goes hk (hf a (by simp)) ha,?_,fun m hm=>?_,fun e=>?_⟩
 ·
  obtain⟨i,h1,h2,h3⟩:=t.stay hk (hf b (by simp)) (by omega)
  refine⟨i,by rw[List.getElem?_take,if_pos h1];exact h2,?_⟩
  rw[lvl_pre t.up (by omega),List.length_take]
  omega
 ·
  obtain⟨i,h1,h2,h3⟩:=t.stay hk (hf m (by simp[hm])) (hr m hm)
  exact List.mem_of_getElem? (i:=i) (by rw[List.getElem?_take,if_pos h1];exact h2)
 ·
  have h9:(S.take k).length=k:=by rw[List.length_take];omega
  rw[e]at h9;have h8:k=0:=h9.symm;omega
end
end Sat
end Go.Proofs.YtbmkkhpoaicclabGreat
