/- The contract of Solve; it proves no statement of the seat. -/
import Derived.Test.YtbmkkhpoaicclabGreatJoin25Grows
namespace Go.Proofs.YtbmkkhpoaicclabGreat
open Go.RowKit
set_option linter.unusedVariables false
namespace Sat
open Euf (OL App)
structure AtL (g:Nat) (d0:Dt) (a0:Key→Value) (I:List (List Nat)) (A:Nat) (i:Nat) (d:Dt) (a:Key→Value) (U:List Nat) (w wr:World):Prop where
  sw:SW wr g d a
  mo:Mo g d0 a0 w d a wr
  sa:Sa d0 d
  ai:AtI d I A (d0.Q.drop i) U∨(d0.Q=[]∧Bs d I A [] U∧Ov d U∧d.S=[]∧FI d U)
  ui:∀u∈U,∃L∈I,∃m∈L,m / 2=u
set_option maxRecDepth 20000 in
set_option maxHeartbeats 16000000 in
theorem solve_any (g:Nat) (d0:Dt) (a0:Key→Value) (I:List (List Nat)) (A:Nat) (U:List Nat) (bu:Int) (w:World) (hw:SW w g d0 a0) (hi:Idw d0 I A U) (hn:d0.nv≤5000) (hA:A+bu.toNat≤90000000) :
  Calls Tryz.prog 15 #[.pointer (some ⟨g,0,none⟩),.int .i64 bu] w fun e w'=>SvEnd g d0 a0 I A bu w e w':=by
 obtain⟨qM,cM,hM,-,-,-⟩:=hw.len (k:=kMod) (by exact⟨by decide,rfl⟩)
 have c18:w.cell? ⟨g,18,none⟩=some (.slice qM d0.mo.length cM):=(hw.cell 18).trans (congrArg some hM);have z18:=hw.frozen 18;have hlg:=hw.lt;have HS1:=hide hw.nil_mo;have hrf:d0.refuted=false:=hi.ic.rf;have HI:=hide hi;clear hM hw hi;obtain⟨w1,hw1⟩:∃w1,w.setCell ⟨g,18,none⟩ (.slice none 0 0)=w1:=⟨_,rfl⟩;rw[hw1]at HS1;obtain⟨a1,ha1⟩:∃a1,updK a0 kMod (.slice none 0 0)=a1:=⟨_,rfl⟩;rw[ha1]at HS1;have c17:w1.cell? ⟨g,17,none⟩=some (.int .i64 d0.steps):=HS1.out.1.cell 17;have z17:=HS1.out.1.frozen 17;have hlg1:=HS1.out.1.lt;have HST:=hide (store_any g 17 d0.steps 0 w1 c17 z17 hlg1);have HS2:=hide (HS1.out.1.steps_ 0);obtain⟨w2,hw2⟩:∃w2,w1.setCell ⟨g,17,none⟩ (.int .i64 0)=w2:=⟨_,rfl⟩;rw[hw2]at HS2 HST;have c5:w2.cell? ⟨g,5,none⟩=some (.bool false):=by have h9:w2.cell? ⟨g,5,none⟩=some (.bool d0.refuted):=HS2.out.1.cell 5;rw[hrf]at h9;exact h9
 obtain⟨qQ,cQ,hQ,-,-,-⟩:=HS2.out.1.len (k:=kWai) (by exact⟨by decide,rfl⟩)
 have hQ':a1 kWai=.slice qQ d0.Q.length cQ:=hQ;have c3:w2.cell? ⟨g,3,none⟩=some (.slice qQ d0.Q.length cQ):=(HS2.out.1.cell 3).trans (congrArg some hQ');have hlg2:=HS2.out.1.lt;obtain⟨d2,hd2⟩:∃d2,({ ({ d0 with mo:=[] }:Dt) with steps:=0 }:Dt)=d2:=⟨_,rfl⟩;rw[hd2]at HS2;have hQ2:d2.Q=d0.Q:=by rw[← hd2]
 have hnv2:d2.nv=d0.nv:=by rw[← hd2]
 have hst2:d2.steps=0:=by rw[← hd2]
 have hmo2:d2.mo=[]:=by rw[← hd2]
 have had2:d2.added=d0.added:=by rw[← hd2]
 have HI2:Hid (Idw d2 I A U):=by
  rw[← hd2];have i:=HI.out;refine⟨⟨i.ic.m0,i.ic.ms,i.ic.rp,i.ic.qn,i.ic.ql,i.ic.qi,i.ic.ui,i.ic.rf,i.ic.ad⟩,?_⟩;rcases i.ai with t|⟨h1,h2,h3,h4,h5⟩
  · exact Or.inl ⟨t.bs.same rfl rfl rfl rfl rfl rfl rfl,t.wi,t.qf,⟨t.ov.oi,t.ov.hu,t.ov.uo,t.ov.cv,t.ov.un⟩,t.s0,t.fi⟩
  · exact Or.inr ⟨h1,h2.same rfl rfl rfl rfl rfl rfl rfl,⟨h3.oi,h3.hu,h3.uo,h3.cv,h3.un⟩,h4,h5⟩
 have HM2:Hid (Mq g d0 a0 w d2 a1 w2):=by rw[← hd2]at HS2 ⊢;exact HS1.out.2.q.trans HS2.out.2.q
 have HL0:Hid (AtL g d2 a1 I A 0 d2 a1 U w2 w2):=⟨HS2.out.1,Mo.refl _ _ _ _,Sa.refl _,by
  rcases HI2.out.ai with t|⟨h1,t⟩
  · exact Or.inl t
  · exact Or.inr ⟨h1,t⟩,HI2.out.ic.ui⟩
 have hql:d0.Q.length≤100000000:=by
  have h1:=nodup_le d2.nc d2.Q HI2.out.ic.qn HI2.out.ic.ql;rw[hQ2]at h1;rcases HI2.out.ai with t|⟨h2,-⟩
  · have h3:=t.bs.numQ;omega
  · rw[← hQ2,h2];simp
 have hqlI:(d0.Q.length:Int)≤100000000:=by omega
 clear HS1 HS2 HI hd2 hQ ha1 c17 z17;go_enter Tryz.func15,Tryz.ntmps15;go_wp2_with (go_at_call 36;refine HST.out.mono ?_;rintro e w9 ⟨rfl,hw9⟩;obtain rfl:=hw9.symm)
 clear c18 z18 c5 c3 HST hw1 hw2;go_loopw [24] (fun v24 wr=>∃(i:Nat) (d:Dt) (a:Key→Value) (U':List Nat),v24=.int .i64 (i:Nat)∧i≤d0.Q.length∧Hid (AtL g d2 a1 I A i d a U' w2 wr)) (fun v _=>d0.Q.length - (intOf v).toNat)
 case atStart=>exact⟨0,d2,a1,U,rfl,Nat.zero_le _,HL0.out⟩
 case round =>
  rename World=>wl
  obtain⟨i,d,a,U',rfl,hi,H⟩:=hrel;clear HL0;have hnv:d.nv=d0.nv:=H.out.sa.nv.trans hnv2;by_cases hlt:i<d0.Q.length
  ·
   have hltI:(i:Int)<(d0.Q.length:Int):=by omega
   have hQd:d.Q=d0.Q:=by rw[H.out.sa.eq];exact hQ2
   have haQ:a kWai=.slice qQ d0.Q.length cQ:=(H.out.mo.ad kWai trivial).trans hQ';obtain⟨bQ,cQ9,hQ9,lQ,-,-,qc,-⟩:=H.out.sw.at_ (k:=kWai) (by exact⟨by decide,rfl⟩) (i:=i) (by show i<d.Q.length;rw[hQd];exact hlt)
   have e9:Value.slice qQ d0.Q.length cQ=Value.slice (some ⟨bQ,0,none⟩) d.Q.length cQ9:=haQ.symm.trans hQ9;simp only[Value.slice.injEq]at e9;obtain⟨rfl,-,-⟩:=e9;have qi0:=qc 0 (show 0<1 by decide)
   obtain⟨c,hc⟩:∃c,d0.Q[i]=c:=⟨_,rfl⟩;have qi:wl.cell? ⟨bQ,i,none⟩=some (.int .i64 (c:Nat)):=by
    have e1:i*(rows d a kWai).sz+0=i:=by show i*1+0=i;omega
    rw[e1]at qi0;rw[qi0];show some (Value.int .i64 ((d.Q.getD i 0:Nat):Int))=_
    rw[hQd,List.getD_eq_getElem?_getD,List.getElem?_eq_getElem hlt,hc];rfl
   have hdr:d0.Q.drop i=c::d0.Q.drop (i+1):=by rw[List.drop_eq_getElem_cons hlt,hc]
   have hcQ:c∈d2.Q:=by rw[hQ2,← hc];exact List.getElem_mem hlt
   have hai:AtI d I A (c::d0.Q.drop (i+1)) U':=by
    rcases H.out.ai with t|⟨t,-⟩
    · rw[hQ2,hdr]at t;exact t
    · rw[hQ2]at t;rw[t]at hlt;simp at hlt
   have hnd:(d0.Q.drop i).Nodup:=by rw[← hQ2];exact HI2.out.ic.qn.sublist (List.drop_sublist _ _)
   rw[hdr]at hnd;have HAT:=hide (attach_any g d a c I A (d0.Q.drop (i+1)) U' wl H.out.sw hai (fun x hx=>Nat.lt_of_lt_of_le (HI2.out.ic.ql x (by rw[hQ2];exact List.mem_of_mem_drop (by rw[hdr];exact hx))) H.out.sa.le) (List.nodup_cons.1 hnd).1 (by omega) (by omega))
   have HCQ:=hide hcQ;clear haQ hQ9 qc qi0 hc hdr hcQ hai hnd hQd;go_wp2_with fail
   refine HAT.out.mono ?_;rintro e w3 ⟨rfl,d3,a3,U3,s3,m3,sa3,ai3,u1,u2⟩;have HE:Hid (AtL g d2 a1 I A (i+1) d3 a3 U3 w2 w3):=by
    refine⟨s3,H.out.mo.trans m3,H.out.sa.trans sa3,Or.inl (by rw[hQ2];exact ai3),fun u hu=>?_⟩
    rcases u2 u hu with h9|⟨m,hm,rfl⟩
    · exact H.out.ui u h9
    · obtain⟨L,k1,k2⟩:=HI2.out.ic.qi c HCQ.out;exact⟨L,k1,m,(k2 m).1 ((H.out.sa.ol c (HI2.out.ic.ql c HCQ.out) m).1 hm),rfl⟩
   clear s3 m3 sa3 ai3 u1 u2 HAT;go_wp2;go_roundw
   case rel=>exact⟨i+1,d3,a3,U3,by go_num,by omega,HE.out⟩
   case measure=>simp[intOf]<;>omega
  ·
   have hltI:¬ ((i:Int)<(d0.Q.length:Int)):=by omega
   obtain rfl:i=d0.Q.length:=by omega
   obtain⟨qW,cW,hW,-,-,-⟩:=H.out.sw.len (k:=kWai) (by exact⟨by decide,rfl⟩)
   have c3:wl.cell? ⟨g,3,none⟩=some (.slice qW d.Q.length cW):=(H.out.sw.cell 3).trans (congrArg some hW);have z3:=H.out.sw.frozen 3;have hlg3:=H.out.sw.lt;have HS:=hide H.out.sw.nil_Q;have hst:d.steps=0:=by rw[H.out.sa.eq];exact hst2
   have hmo:d.mo=[]:=by rw[H.out.sa.eq];exact hmo2
   have had:d.added=d0.added:=by rw[H.out.sa.eq];exact had2
   have hmk:d.mks=[]:=by rw[H.out.sa.eq];exact HI2.out.ic.ms
   have hrf2:d.refuted=false:=by rw[H.out.sa.eq];exact HI2.out.ic.rf
   have hic:Idc { d with Q:=[] } I U':=⟨fun v=>(H.out.sa.mr v).trans (HI2.out.ic.m0 v),hmk,HI2.out.ic.rp.ol (d':={ d with Q:=[] }) ⟨H.out.sa.le,H.out.sa.ol⟩,List.nodup_nil,fun x hx=>(by cases hx),fun x hx=>(by cases hx),H.out.ui,hrf2,had.trans (had2.symm.trans HI2.out.ic.ad)⟩
   have hsc:SC { d with Q:=[] } { d with Q:=[] } I A U' [] bu∧FI { d with Q:=[] } U':=by
    refine SC.start ?_ hic.m0 hmk hst;rcases H.out.ai with t|⟨-,t1,t2,t3,t4⟩
    · rw[hQ2,List.drop_length]at t;exact Or.inl ⟨t.bs.same rfl rfl rfl rfl rfl rfl rfl,t.wi,t.qf,⟨t.ov.oi,t.ov.hu,t.ov.uo,t.ov.cv,t.ov.un⟩,t.s0,t.fi⟩
    · exact Or.inr ⟨t1.same rfl rfl rfl rfl rfl rfl rfl,⟨t2.oi,t2.hu,t2.uo,t2.cv,t2.un⟩,t3,t4⟩
   have HMQ:Hid (Mq g d0 a0 w { d with Q:=[] } (updK a kWai (.slice none 0 0)) (wl.setCell ⟨g,3,none⟩ (.slice none 0 0))):=(HM2.out.trans H.out.mo.q).trans HS.out.2;have HIC:=hide hic;have HSE:=hide (search_any g { d with Q:=[] } (updK a kWai (.slice none 0 0)) I A U' bu (wl.setCell ⟨g,3,none⟩ (.slice none 0 0)) HS.out.1 hsc.1 hsc.2 hst (by show d.nv≤5000;omega) hA)
   have hQ4:({ d with Q:=[] }:Dt).Q=[]:=rfl;have hnv4:({ d with Q:=[] }:Dt).nv=d0.nv:=hnv;have had4:({ d with Q:=[] }:Dt).added=d0.added:=had;have hmo4:({ d with Q:=[] }:Dt).mo=[]:=hmo;generalize ({ d with Q:=[] }:Dt)=d4 at *;generalize updK a kWai (.slice none 0 0)=a4 at *;obtain⟨w4,hw4⟩:∃w4,wl.setCell ⟨g,3,none⟩ (.slice none 0 0)=w4:=⟨_,rfl⟩;rw[hw4]at HSE HMQ;clear HS hW H HM2 HI2 hsc hic hst hmo had hmk hrf2;go_wp2_with fail
   refine HSE.out.mono ?_;rintro e w5 ⟨d5,a5,d6,K,s5,m5,c6,hcase⟩;have HUN:Hid (OI d5.nv d5.hp d5.at_∧(∀l∈d5.T,l<2*(d5.nv+1))∧(∀s∈d5.S,s<d5.T.length)∧d5.nv≤5000∧d5.T.length≤10000∧d5.S.length≤10000→Calls Tryz.prog 39 #[.pointer (some ⟨g,0,none⟩),.int .i64 (0:Nat)] w5 fun e w'=>e=.returned (.tuple #[])∧UdEnd g d5 a5 0 w5 w'):=fun⟨h1,h2,h3,h4,h5,h6⟩=>undo_any g d5 a5 0 w5 s5 h1 h2 h3 h4 h5 h6 (by omega)
   have hnv6:d6.nv≤5000:=by rw[c6.sx.nv];omega
   have hT6:d6.T.length≤10000:=by have:=c6.bs.ti.len;omega
   have hS6:d6.S.length≤10000:=by have:=c6.bs.ti.lenS;omega
   have hK6:A+K.length≤A+bu.toNat:=c6.few;have M5:=hide (HMQ.out.trans m5.q);have S5:=hide s5;have C6:=hide c6;have h6a:OI d6.nv d6.hp d6.at_:=c6.ov.oi;have h6b:∀l∈d6.T,l<2*(d6.nv+1):=fun l hl=>(c6.bs.ti.ok l hl).2
   have h6c:=c6.bs.ti.st;clear HSE m5 s5 HMQ;rcases hcase with⟨rfl,rfl,fj,hb⟩|⟨rfl,rfl,hcl,si,hm⟩|⟨rfl,hS,X,x1,x2,e5,dv,hs5,hb⟩
   ·
    have HU2:=hide (HUN.out ⟨h6a,h6b,h6c,hnv6,hT6,hS6⟩);have HF:Hid (∀w7,UdEnd g d5 a5 0 w5 w7→SvEnd g d0 a0 I A bu w (.returned (.int .i64 0)) w7):=by
     intro w7 ud;rcases ud with⟨hl,bel⟩|⟨hk,F',hp',at',a7,s7,m7,lst,oi,hu⟩
     ·
      have hS:d5.S=[]:=List.length_eq_zero_iff.1 (by omega)
      exact⟨d5,a5,U',A+K.length,S5.out.below bel,M5.out.below bel,C6.out.sx.nv.trans hnv4,C6.out.sx.ad.trans had4,hK6,C6.out.s0,C6.out.s1,Or.inl ⟨rfl,C6.out.idw0 HIC.out hQ4 fj hS,C6.out.sx.mo.trans hmo4,hb,C6.out.most⟩⟩
     · have h9:=C6.out.undoI HIC.out hQ4 fj hk lst oi hu d5.mo;exact⟨_,a7,U',A+K.length,s7,M5.out.trans m7.q,C6.out.sx.nv.trans hnv4,C6.out.sx.ad.trans had4,hK6,C6.out.s0,C6.out.s1,Or.inl ⟨rfl,h9.w,C6.out.sx.mo.trans hmo4,hb,C6.out.most⟩⟩
    clear HUN h6a h6b h6c fj hb c6;go_wp2_with fail
    refine HU2.out.mono ?_;rintro e w7 ⟨rfl,ud⟩;have HE:=hide (HF.out w7 ud);clear ud HU2 HF;go_wp2;go_ret
    exact HE.out
   ·
    have HU2:=hide (HUN.out ⟨h6a,h6b,h6c,hnv6,hT6,hS6⟩);have HF:Hid (∀w7,UdEnd g { d6 with mo:=mdl d6.nv (trM d6.T) } a5 0 w5 w7→SvEnd g d0 a0 I A bu w (.returned (.int .i64 1)) w7):=by
     intro w7 ud;have hmod:=(HIC.out.rp.ol C6.out.ol).model hm;rcases ud with⟨hl,bel⟩|⟨hk,F',hp',at',a7,s7,m7,lst,oi,hu⟩
     ·
      have hS:d6.S=[]:=List.length_eq_zero_iff.1 (by have h9:d6.S.length≤0:=hl;omega)
      exact⟨_,a5,U',A+K.length,S5.out.below bel,M5.out.below bel,C6.out.sx.nv.trans hnv4,C6.out.sx.ad.trans had4,hK6,C6.out.s0,C6.out.s1,Or.inr (Or.inl ⟨rfl,C6.out.idl0 HIC.out hQ4 hcl si hS _,trM d6.T,rfl,hmod⟩)⟩
     · have h9:=C6.out.undoI HIC.out hQ4 (Or.inl (Or.inl ⟨hcl,si⟩)) hk lst oi hu (mdl d6.nv (trM d6.T));exact⟨_,a7,U',A+K.length,s7,M5.out.trans m7.q,C6.out.sx.nv.trans hnv4,C6.out.sx.ad.trans had4,hK6,C6.out.s0,C6.out.s1,Or.inr (Or.inl ⟨rfl,h9,trM d6.T,rfl,hmod⟩)⟩
    clear HUN h6a h6b h6c hcl si hm c6;go_wp2_with fail
    refine HU2.out.mono ?_;rintro e w7 ⟨rfl,ud⟩;have HE:=hide (HF.out w7 ud);clear ud HU2 HF;go_wp2;go_ret
    exact HE.out
   ·
    have hS5:d5.S=[]:=by rw[e5];exact hS
    have hnv5:d5.nv=d6.nv:=by rw[e5]
    have hT5:d5.T=d6.T:=by rw[e5]
    have HU2:=hide (HUN.out ⟨by rw[e5];exact h6a,by rw[hnv5,hT5];exact h6b,fun s hs=>(by rw[hS5]at hs;cases hs),by rw[hnv5];exact hnv6,by rw[hT5];exact hT6,by rw[hS5];simp⟩)
    have HF:Hid (∀w7,UdEnd g d5 a5 0 w5 w7→SvEnd g d0 a0 I A bu w (.returned (.int .i64 2)) w7):=by
     intro w7 ud;rcases ud with⟨hl,bel⟩|⟨hk,-⟩
     ·
      refine⟨d5,a5,U',A+K.length,S5.out.below bel,M5.out.below bel,hnv5.trans (C6.out.sx.nv.trans hnv4),?_,hK6,by have:=C6.out.s0;omega,by left;omega,Or.inr (Or.inr ⟨rfl,C6.out.rfd HIC.out hmo4 x1 x2 dv e5,C6.out.rfdn e5⟩)⟩
      have h9:d5.added=d6.added:=by rw[e5]
      exact h9.trans (C6.out.sx.ad.trans had4)
     · rw[hS5]at hk;simp at hk
    clear HUN h6a h6b h6c hS x1 x2 e5 dv hs5 hb hS5 hT5 c6;go_wp2_with fail
    refine HU2.out.mono ?_;rintro e w7 ⟨rfl,ud⟩;have HE:=hide (HF.out w7 ud);clear ud HU2 HF;go_wp2;go_ret
    exact HE.out
end Sat
end Go.Proofs.YtbmkkhpoaicclabGreat
