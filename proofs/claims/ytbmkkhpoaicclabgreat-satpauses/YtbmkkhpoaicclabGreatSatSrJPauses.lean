/- The contract of search; it proves no statement of the seat. -/
import Derived.Test.YtbmkkhpoaicclabGreatJoin21Pauses
namespace Go.Proofs.YtbmkkhpoaicclabGreat
open Go.RowKit
set_option linter.unusedVariables false
namespace Sat
open Euf (OL App)
structure Cn (st ro le:Int):Prop where
  r1:1≤ro
  r2:ro≤st + 1
  l1:-st≤le
  l2:le≤64*(st + 1)
theorem Cn.step {st ro le:Int} (c:Cn st ro le) (h0:0≤st):Cn (st + 1) ro (le - 1):=⟨c.r1, by have:=c.r2; omega, by have:=c.l1; omega, by have:=c.l2; omega⟩
theorem Cn.same {st ro le:Int} (c:Cn st ro le) (h0:0≤st):Cn (st + 1) ro le:=⟨c.r1, by have:=c.r2; omega, by have:=c.l1; omega, by have:=c.l2; omega⟩
set_option maxRecDepth 20000 in
set_option maxHeartbeats 16000000 in
theorem search_any (g:Nat) (d0:Dt) (a0:Key→Value) (I:List (List Nat)) (A:Nat) (U:List Nat) (bu:Int) (w:World) (hw:SW w g d0 a0) (hc:SC d0 d0 I A U [] bu) (hf:FI d0 U) (hs0:d0.steps=0) (hn:d0.nv≤5000) (hA:A + bu.toNat≤90000000) :
  Calls Tryz.prog 38 #[.pointer (some ⟨g,0,none⟩),.int .i64 bu] w fun e w'=>SrEnd g d0 a0 I A U bu w e w':=by
 have H0:=hide (And.intro hw (And.intro hc (And.intro hf hs0)));clear hw hc hf hs0;go_enter Tryz.func38,Tryz.ntmps38;go_wp2;go_loopg [5,6] bu.toNat (fun gk v5 v6 wr=>∃ (d:Dt) (a:Key→Value) (K:List Nat) (ro le:Int),v5=.int .i64 ro∧v6=.int .i64 le∧Hid ((bu - d.steps).toNat=gk∧SW wr g d a∧Mo g d0 a0 w d a wr∧SC d0 d I A U K bu∧FI d U∧Cn d.steps ro le))
 case atStart=>exact ⟨d0,a0,[],1,64,rfl,rfl,by rw [H0.out.2.2.2];simp,H0.out.1,Mo.refl _ _ _ _,H0.out.2.1,H0.out.2.2.1,by rw [H0.out.2.2.2];exact ⟨by omega,by omega,by omega,by omega⟩⟩
 case round =>
  rename World=>wl
  clear H0;obtain ⟨d,a,K,ro,le,rfl,rfl,H⟩:=hrel;have hnv:d.nv=d0.nv:=H.out.2.2.2.1.sx.nv;have hAK:A + K.length≤90000000:=by
   have h1:=H.out.2.2.2.1.s3;have h2:=H.out.2.2.2.1.s1;omega
  have hst:d.steps≤90000000:=by
   have h2:=H.out.2.2.2.1.s1;omega
  have hst0:0≤d.steps:=H.out.2.2.2.1.s0;have HF:=hide (follow_any g d a I (A + K.length) U wl H.out.2.1 H.out.2.2.2.1.bs H.out.2.2.2.2.1 (by omega) hAK)
  go_wp2_with fail
  refine HF.out.mono ?_;rintro e w1 ⟨d1,a1,s1,m1,sf1,b1,hcase⟩;have C1:=hide (H.out.2.2.2.1.follow b1 sf1);have hst1:d1.steps=d.steps:=sf1.rest.1;have hnv1:d1.nv=d0.nv:=sf1.nv.trans hnv;have M1:=hide (H.out.2.2.1.trans m1);have S1:=hide s1;have HX:=hide (And.intro H.out.1 H.out.2.2.2.2.2);clear HF H s1 m1 sf1 b1;have HST:=hide (step_any g d1 a1 bu w1 S1.out (by omega) (by omega))
  rcases hcase with ⟨rfl,hcl,hhd,si⟩ | ⟨c,rfl,hcn,hfa,hrest⟩
  ·
   have HN:=hide (next_any g d1 a1 w1 S1.out C1.out.ov.oi (by omega))
   have HQ:=hide (And.intro hcl (And.intro hhd si));clear hcl hhd si HST;go_wp2_with fail
   refine HN.out.mono ?_;rintro e w2 ⟨hp',at',a2,s2,m2,oi2,hp1,hp2,hcase2⟩;have C2:=hide (C1.out.next oi2 hp1 hp2);have S2:=hide s2;have M2:=hide (M1.out.trans m2);have SI2:Hid (SI (d1.ord hp' at').nv (d1.ord hp' at').V (d1.ord hp' at').T (d1.ord hp' at').S (d1.ord hp' at').F (d1.ord hp' at').nc (d1.ord hp' at').C (d1.ord hp' at').W (d1.ord hp' at').T.length [] U):=HQ.out.2.2;have FI2:Hid (FI (d1.ord hp' at') U):=Or.inl ⟨HQ.out.1,by show SI d1.nv d1.V d1.T d1.S d1.F d1.nc d1.C d1.W d1.head [] U;rw [HQ.out.2.1];exact HQ.out.2.2⟩
   clear s2 m2 oi2 hp1 HN;have hst2:(d1.ord hp' at').steps=d.steps:=hst1;have hnv2:(d1.ord hp' at').nv=d0.nv:=hnv1;have hT2:(d1.ord hp' at').T.length≤5001:=by have:=C2.out.bs.ti.len;omega
   have hS2:(d1.ord hp' at').S.length≤5001:=by have:=C2.out.bs.ti.lenS;omega
   have hcl2:(d1.ord hp' at').clash=-1:=HQ.out.1;have hhd2:(d1.ord hp' at').head=(d1.ord hp' at').T.length:=HQ.out.2.1;have hV2:(d1.ord hp' at').V=d1.V:=rfl;have hpp:(d1.ord hp' at').hp=hp':=rfl;generalize d1.ord hp' at'=d2 at *;have HZ:=hide (And.intro hcl2 hhd2);clear hcl2 hhd2 HQ hp2;rcases hcase2 with ⟨v,hv,rfl,h0⟩ | ⟨rfl,rfl⟩
   ·
    have hvU:=C2.out.ov.hu v (by rw [hpp];exact hv)
    have hv1:=C2.out.ov.uo v hvU;have HST2:=hide (step_any g d2 a2 bu w2 S2.out (by omega) (by omega))
    have hvI:¬ ((v:Int)=-1):=by omega
    rw [← hV2] at h0;have HV:=hide (And.intro hvU h0);clear hvU h0 hv;go_wp2_with fail
    refine HST2.out.mono ?_;rintro e w3 (⟨hb,rfl,hw3⟩ | ⟨hb,rfl,s3,m3⟩)
    ·
     obtain rfl:=hw3.symm;have HE:Hid (SrEnd g d0 a0 I A U bu w (.returned (.int .i64 0)) w2):=⟨d2,a2,d2,K,S2.out,M2.out,C2.out,Or.inl ⟨rfl,rfl,Or.inl FI2.out,hb⟩⟩;clear HST2 hb;go_wp2;go_ret
     exact HE.out
    ·
     have HP:=hide (C2.out.pick hb SI2.out HZ.out.2 HZ.out.1 HV.out.1 HV.out.2);have HCH:=hide (choose_any g { d2 with steps:=d2.steps + 1 } a2 v w3 s3 (by show v≤d2.nv;omega) (by show d2.nv≤5000;omega) (by show d2.T.length≤10000;omega) (by show d2.S.length≤9999;omega))
     have M3:=hide (M2.out.trans m3);have hbI:d2.steps < bu:=hb;clear HST2 s3 m3 hb;go_wp2_with fail
     refine HCH.out.mono ?_;rintro e w4 ⟨rfl,a4,s4,m4⟩;have HE:=hide (And.intro s4 (M3.out.trans m4));have HG:Hid ((bu - (d2.steps + 1)).toNat < gk):=by
      have h9:=HX.out.1;show _ < _
      omega
     clear s4 m4 HCH;go_wp2;go_roundg ((bu - (d2.steps + 1)).toNat)
     case rel=>exact ⟨_,a4,K,ro,le,rfl,rfl,rfl,HE.out.1,HE.out.2,HP.out.1,HP.out.2,by rw [← hst2] at HX;exact HX.out.2.same (by omega)⟩
     case measure=>exact HG.out
   ·
    have HVA:=hide (values_any g d2 a2 w2 S2.out C2.out.bs.ti.forValues (by omega) (by omega))
    have hlg:=S2.out.lt;clear hnv2;go_wp2_with fail
    refine HVA.out.mono ?_;rintro e w3 ⟨v3,rfl,ol3,own3,bl3⟩;have ol3':OL 1 4 w3 v3 (mdl d2.nv (trM d2.T)).length (fun i=>[.bool ((mdl d2.nv (trM d2.T)).getD i false)]):=by
     rw [mdl_len];exact ol3.congr (fun i hi=>by show [Value.bool ((mdl d2.nv (trM d2.T)).getD i false)]=tv d2.T i;rw [mdl_get hi];rfl)
    have HS:=hide (S2.out.set_mo bl3 own3 ol3');have s3:=S2.out.below bl3;obtain ⟨qM,cM,hM,-,-,-⟩:=s3.len (k:=kMod) (by exact ⟨by decide,rfl⟩)
    have c18:w3.cell? ⟨g,18,none⟩=some (.slice qM d2.mo.length cM):=(s3.cell 18).trans (congrArg some hM);have z18:=s3.frozen 18;have hlg3:=s3.lt;have HE:Hid (SrEnd g d0 a0 I A U bu w (.returned (.int .i64 1)) (w3.setCell ⟨g,18,none⟩ v3)):=⟨_,_,d2,K,HS.out.1,M2.out.trans HS.out.2,C2.out,Or.inr (Or.inl ⟨rfl,rfl,HZ.out.1,by rw [HZ.out.2];exact SI2.out,C2.out.whole SI2.out hpp⟩)⟩
    obtain ⟨qV,cV,hV,-⟩:=ol3.shape;subst hV;clear ol3 ol3' own3 bl3 HS s3 hM HVA;go_wp2;go_ret
    exact HE.out
  ·
   have hcI:¬ ((c:Int)=-1):=by omega
   have hcB:((c:Int) != -1)=true:=by simp <;> omega
   have HR:=hide (And.intro hcn (And.intro hfa hrest));clear hcn hfa hrest;go_wp2_with fail
   refine HST.out.mono ?_;rintro e w2 (⟨hb,rfl,hw2⟩ | ⟨hb,rfl,s2,m2⟩)
   ·
    obtain rfl:=hw2.symm;have HE:Hid (SrEnd g d0 a0 I A U bu w (.returned (.int .i64 0)) w1):=by
     refine ⟨d1,a1,d1,K,S1.out,M1.out,C1.out,Or.inl ⟨rfl,rfl,?_,hb⟩⟩;rcases HR.out.2.2 with ⟨h1,h2⟩ | ⟨h1,h2,h3,h4⟩
     · exact Or.inl (Or.inr ⟨c,h2,HR.out.1,h1,HR.out.2.1⟩)
     · exact Or.inr ⟨h2,h1,h3,h4⟩
    clear HST hb;go_wp2;go_ret
    exact HE.out
   ·
    have M2:=hide (M1.out.trans m2);have S2:=hide s2;have hbI:d1.steps < bu:=hb;obtain ⟨qS,cS,hSv,-,-,-⟩:=s2.len (k:=kSta) (by exact ⟨by decide,rfl⟩)
    have c10:w2.cell? ⟨g,10,none⟩=some (.slice qS d1.S.length cS):=(s2.cell 10).trans (congrArg some hSv);have hlg2:=s2.lt;clear hSv s2 m2 HST hb;rcases HR.out.2.2 with ⟨h1,h2⟩ | ⟨h1,h2,h3,h4⟩
    ·
     have hS0:d1.S.length=0:=by rw [h1];rfl
     rw [hS0] at c10;have HRF:=hide (refute_any g { d1 with steps:=d1.steps + 1 } a1 c I (A + K.length) U w2 S2.out (C1.out.bs.same rfl rfl rfl rfl rfl rfl rfl) h1 HR.out.1 HR.out.2.1 (by show d1.nv≤5000;omega) hAK)
     have HS1:=hide h1;clear h1 h2 hS0;go_wp2_with fail
     refine HRF.out.mono ?_;rintro e w3 ⟨rfl,X,a3,x1,x2,s3,m3,dv⟩;have HE:Hid (SrEnd g d0 a0 I A U bu w (.returned (.int .i64 2)) w3):=⟨_,a3,d1,K,s3,M2.out.trans m3,C1.out,Or.inr (Or.inr ⟨rfl,HS1.out,X,x1,x2,rfl,dv,rfl,hbI⟩)⟩;clear s3 m3 dv HRF;go_wp2;go_ret
     exact HE.out
    ·
     obtain ⟨ns,hns⟩:∃ ns,d1.S.length=ns:=⟨_,rfl⟩;have hnn:¬ (ns=0):=fun e=>h1 (List.length_eq_zero_iff.1 (by omega))
     rw [hns] at c10;have hS0:¬ ((ns:Int)=0):=by omega
     have hS1:((ns:Int) == 0)=false:=by simpa using hS0
     have HLN:=hide (learn_any g { d1 with steps:=d1.steps + 1 } a1 c I (A + K.length) U h3 w2 S2.out (C1.out.bs.same rfl rfl rfl rfl rfl rfl rfl) h4 ⟨C1.out.ov.oi,C1.out.ov.hu,C1.out.ov.uo,C1.out.ov.cv,C1.out.ov.un⟩ C1.out.m0 C1.out.ms h1 HR.out.1 HR.out.2.1 (by show d1.nv≤5000;omega) hAK)
     have HCL:=hide h2;clear h1 h2 h4 hns HR hnn;go_wp2_with fail
     refine HLN.out.mono ?_;rintro e w3 ⟨rfl,d3,a3,L,s3,m3,ln⟩;have e3:=ln.eq;have hmk3:d3.mks=[]:=by rw [e3];exact C1.out.ms
     have hcl3:d3.clash=-1:=by rw [e3];exact HCL.out
     have hst3:d3.steps=d1.steps + 1:=by rw [e3]
     have hnv3:d3.nv=d1.nv:=by rw [e3]
     have C3:=hide (C1.out.learn hbI ln hmk3);have F3:Hid (FI d3 U):=Or.inl ⟨hcl3,ln.si⟩;have S3:=hide s3;have M3:=hide (M2.out.trans m3);have hT3:d3.T.length≤5001:=by have:=ln.bs.ti.len;omega
     have hS3:d3.S.length≤5001:=by have:=ln.bs.ti.lenS;omega
     have hcn:Cn (d1.steps + 1) ro (le - 1):=by
      have h9:=HX.out.2;rw [← hst1] at h9;exact h9.step (by omega)
     have HCN:=hide hcn;have l1:=hcn.l1;have l2:=hcn.l2;have r1:=hcn.r1;have r2:=hcn.r2;have HG:Hid ((bu - d3.steps).toNat < gk):=by
      have h9:=HX.out.1;show _ < _
      omega
     clear s3 m3 ln e3 hmk3 hcl3 hcn HLN C1 S1 M1 S2 M2 c10;by_cases hz:le - 1=0
     ·
      have hro:ro + 1≤100000000:=by omega
      obtain ⟨rn,hrn⟩:∃ rn:Nat,ro + 1=(rn:Int):=⟨(ro + 1).toNat,by omega⟩
      have HLU:=hide (luby_any rn w3 (by omega) (by omega))
      have HUN:Hid (∀ w9,SW w9 g d3 a3→Calls Tryz.prog 39 #[.pointer (some ⟨g,0,none⟩),.int .i64 (0:Nat)] w9 fun e w'=>e=.returned (.tuple #[])∧UdEnd g d3 a3 0 w9 w'):=fun w9 h9=>undo_any g d3 a3 0 w9 h9 C3.out.1.ov.oi (fun l hl=>(C3.out.1.bs.ti.ok l hl).2) C3.out.1.bs.ti.st (by omega) (by omega) (by omega) (by omega)
      have HRN:=hide hrn;have hrnI:(rn:Int)≤100000000:=by omega
      have r0:ro≤d1.steps + 1:=by have h9:=HX.out.2.r2;omega
      have HCN2:Hid (∀ r:Nat,r≤rn→Cn (d1.steps + 1) (rn:Int) (64*(r:Int))):=fun r hr=>⟨by omega,by omega,by omega,by omega⟩
      clear HRN;go_wp2_with fail
      refine HLU.out.mono ?_;rintro e w4 ⟨⟨r,hlb,hr,rfl⟩,hw4⟩;obtain rfl:=hw4.symm;have hrI:(r:Int)≤100000000:=by omega
      have HCN3:=hide (HCN2.out r hr);clear hlb HLU HCN2;go_wp2_with fail
      refine (HUN.out _ S3.out).mono ?_;rintro e w5 ⟨rfl,ud⟩;have HE:Hid (∃ d a,d.steps=d3.steps∧SW w5 g d a∧Mo g d0 a0 w d a w5∧SC d0 d I A U (d1.nc :: K) bu∧FI d U):=by
       rcases ud with ⟨-,bel⟩ | ⟨hk,F',hp',at',a5,s5,m5,lst,oi,hu⟩
       · exact ⟨d3,a3,rfl,S3.out.below bel,M3.out.below bel,C3.out.1,F3.out⟩
       · obtain ⟨k1,k2⟩:=C3.out.1.undo (Or.inl F3.out) hk lst oi hu C3.out.2;exact ⟨d3.u0 d3.S[0] F' hp' at',a5,rfl,s5,M3.out.trans m5,k1,k2⟩
      clear ud HUN;go_wp2;go_roundg ((bu - d3.steps).toNat)
      case rel =>
       obtain ⟨d6,a6,e6,s6,m6,c6,f6⟩:=HE.out;exact ⟨d6,a6,d1.nc :: K,(rn:Int),64*(r:Int),rfl,rfl,by rw [e6],s6,m6,c6,f6,by rw [e6,hst3];exact HCN3.out⟩
      case measure=>exact HG.out
     ·
      go_wp2;go_roundg ((bu - d3.steps).toNat)
      case rel=>exact ⟨d3,a3,d1.nc :: K,ro,le - 1,rfl,rfl,rfl,S3.out,M3.out,C3.out.1,F3.out,by rw [hst3];exact HCN.out⟩
      case measure=>exact HG.out
end Sat
end Go.Proofs.YtbmkkhpoaicclabGreat
