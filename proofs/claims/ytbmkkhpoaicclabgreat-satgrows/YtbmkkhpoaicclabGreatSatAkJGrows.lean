/- The page's example in the law's words: awake is true; it proves no statement of the seat. -/
import Derived.Test.YtbmkkhpoaicclabGreatSatYoJGrows
import Derived.Test.YtbmkkhpoaicclabGreatSatYcJGrows
import Derived.Test.YtbmkkhpoaicclabGreatSatYmJGrows
namespace Go.Proofs.YtbmkkhpoaicclabGreat
open Go Go.RowKit
set_option linter.unusedVariables false
namespace Sat
open Euf (OL App)
theorem SvR.bl {N g A:Nat} {I:List (List Nat)} {w0 w:World} (h:SvR N g I A w0 w):Below N w0 w:=by
 obtain⟨d,a,U,-,-,-,-,bl⟩:=h;exact bl
theorem SvM.bl {N g A:Nat} {w0 w:World} (h:SvM N g A w0 w):Below N w0 w:=by
 obtain⟨d,a,U,A',-,-,-,-,bl,-⟩:=h;exact bl
theorem SvX.bl {N g nv ad:Nat} {T:List Chn→Prop} {w0 w:World} (h:SvX N g nv ad T w0 w):Below N w0 w:=by
 obtain⟨st,-,-,bl⟩:=h;exact bl
theorem SvU.x {N g A:Nat} {w0 w:World} (h:SvU N g A w0 w) (hA:A≤800000):SvX N g 9 4 (TT exL (A+120)) w0 w:=by
 obtain⟨d,a,s,r,hn,hv,hf,bl⟩:=h;have h9:=svx_of (ls:=exL) (M:=A+120) s r hn (by omega) (by omega) (by decide) (hf g (Or.inl rfl)) bl
 rw[hv]at h9;exact h9
theorem ex_sets:∃ps,Sets exL ps:=by
 obtain⟨p0,h0⟩:=exists_set [1,2];obtain⟨p1,h1⟩:=exists_set [-1,2];obtain⟨p2,h2⟩:=exists_set [1,-2];obtain⟨p3,h3⟩:=exists_set [-1,-2];refine⟨[p0,p1,p2,p3],rfl,fun i z p hz hp=>?_⟩
 have hi:i<4:=(List.getElem?_eq_some_iff.1 hz).1;rcases (by omega:i=0∨i=1∨i=2∨i=3) with rfl|rfl|rfl|rfl <;>
  (cases hz;cases hp;assumption)
theorem exL_ok:∀c∈exL,∀z∈c,Okl 4096 z:=by
 intro c hc z hz;simp[exL]at hc;rcases hc with rfl|rfl|rfl|rfl<;>(simp at hz;rcases hz with rfl|rfl<;>(unfold Okl;omega))
theorem ck_ex {M:Nat} {cs:List Chn} {e:Ending} (t:TT exL M cs) (h:CkEnd exL (cs.map (Chn.told ((4:Nat):Int))) e):e=.returned (.int .i64 0):=by
 obtain⟨ps,hs⟩:=ex_sets;exact h.ok exL_ok hs (t.2.2 exL ps (List.prefix_refl _) (fun zs hz z h9=>(exL_ok zs hz z h9).1) hs)
set_option maxRecDepth 20000 in
set_option maxHeartbeats 8000000 in
theorem awake_any (w:World):Calls Tryz.prog 9 #[] w fun e w'=>e=.returned (.bool true)∧Below w.heap.size w w':=by
 obtain⟨w1,hw1⟩:∃w1,exW w=w1:=⟨_,rfl⟩;obtain⟨ll4,ll3⟩:=ex_ll w;have sz:=exW_size w;have HB:=hide (exW_below w);obtain⟨-,-,-,r3,r4⟩:=exW_rows w;rw[hw1]at ll4 ll3 sz HB r3 r4;obtain⟨B,hB⟩:∃B,w.heap.size=B:=⟨_,rfl⟩;rw[hB]at ll4 ll3 sz HB r3 r4;have hw1':=hw1;unfold exW at hw1';rw[hB]at hw1';have few3:∀c∈exL.take 3,Few1 c:=by
  intro c hc;simp[exL]at hc;rcases hc with rfl|rfl|rfl<;>exact⟨by simp,fun z hz=>by simp at hz;rcases hz with rfl|rfl<;>(unfold Okl;omega)⟩
 have HSV:=hide (solver_any w1.heap.size (some ⟨B+4,0,none⟩) 3 4 (exL.take 3) w1 ll3 (Nat.le_refl _) few3 (by omega))
 have HL:=hide (And.intro ll4 (And.intro r3 (And.intro r4 sz)));clear ll4 ll3 r3 r4 few3 hw1;go_enter Tryz.func9,Tryz.ntmps9;go_wp2_with fail
 refine HSV.out.mono ?_;rintro e w2 ⟨rfl,sv⟩;have HS2:=hide sv;obtain⟨g,hg⟩:∃g,w1.heap.size=g:=⟨_,rfl⟩;rw[hg]at HS2 ⊢;have hBg:B≤g:=by rw[← hg,HL.out.2.2.2];omega
 have HB1:Hid (Below B w w1):=HB;clear sv HSV hw1' HB;have HSO:=hide (SvR.solve3 HS2.out (by decide))
 go_wp2_with fail
 refine HSO.out.mono ?_;rintro e w3 ⟨rfl,sm3⟩;have HMO:=hide sm3.model;clear sm3 HSO HS2;go_wp2_with fail
 refine HMO.out.mono ?_;rintro e w4 ⟨b4,c4,rfl,h4,-,-,-,sm4⟩;have hc4:(c4:Int)=c4:=rfl;have HM4:=hide sm4.model;clear sm4 HMO hc4;go_wp2_with fail
 refine HM4.out.mono ?_;rintro e w5 ⟨b5,c5,rfl,h5,x5,y5,l5,sm5⟩;have HM5:=hide sm5.model;clear sm5 HM4;go_wp2_with fail
 refine HM5.out.mono ?_;rintro e w6 ⟨b6,c6,rfl,h6,x6,y6,l6,sm6⟩;clear x5 y5 l5 HM5;obtain⟨A6,hA6,sv6⟩:=sm6.svr;have bl6:Below g w1 w6:=sm6.bl;have hl4:B+4<w1.heap.size:=by rw[HL.out.2.2.2];omega
 have hk:w6.heap[B+4]?=w1.heap[B+4]?:=bl6.block (B+4) (by rw[← hg];exact hl4)
 have cl3:w6.cell? ⟨B+4,3,none⟩=some (.slice (some ⟨B+3,0,none⟩) 2 2):=by
  rw[cell_of_row w6 (B+4) 3 _ 35 (0,0) (hk.trans HL.out.2.2.1)];rfl
 have lb4:B+4<w6.heap.size:=Nat.lt_of_lt_of_le hl4 bl6.size;have il3:IL w6 (some ⟨B+3,0,none⟩) 2 2 [-1,-2]:=by
  have hk3:w6.heap[B+3]?=w1.heap[B+3]?:=bl6.block (B+3) (by rw[← hg,HL.out.2.2.2];omega)
  have hr:=hk3.trans HL.out.2.1;refine⟨rfl,Nat.le_refl _,by unfold maxLen;decide,(fun k=>by cases k),Or.inr ⟨B+3,0,rfl,by omega,fun j hj=>?_⟩,fun z hz=>?_⟩
  · rw[cell_of_row _ _ _ _ _ _ hr];rcases (by omega:j=0∨j=1) with rfl|rfl<;>rfl
  · simp at hz;rcases hz with rfl|rfl<;>exact⟨by omega,by omega⟩
 have HAD:=hide (SvR.add sv6 (Nl:=g) il3 (fun _ b off hq=>by cases hq;rw[← hg,HL.out.2.2.2];omega) (Nat.le_refl _) (fun z hz=>by simp at hz;rcases hz with rfl|rfl<;>(unfold Okl;omega)) (by omega) (by decide) (by omega))
 clear sm6 sv6 bl6 hk il3 hl4;go_wp2_with fail
 refine HAD.out.mono ?_;rintro e w7 ⟨rfl,sv7⟩;have HS4:=hide (SvR.solve4 (A:=A6+1) sv7 (by omega))
 clear sv7 HAD x6 y6 l6 cl3 lb4;go_wp2_with fail
 refine HS4.out.mono ?_;rintro e w8 ⟨rfl,su8⟩;have X8:=hide (su8.x (by omega))
 have HPR:=hide (X8.out.proof (by omega) (fun cs h=>h) (by omega))
 clear su8 HS4 X8;go_wp2_with fail
 refine HPR.out.mono ?_;rintro e w9 ⟨q9,c9,cs9,rfl,tt9,rc9,sx9,-,-⟩;have ll9:LL w9 w1.heap.size (some ⟨B+4,0,none⟩) 4 4 exL:=HL.out.1.below (by rw[hg];exact sx9.bl)
 have sz9:w1.heap.size≤w9.heap.size:=sx9.bl.size;have HCK:=hide (rcheck_any w1.heap.size (some ⟨B+4,0,none⟩) 4 4 exL q9 cs9.length c9 _ w9 ll9 sz9 (by omega) (by decide) rc9)
 have H9:=hide (And.intro tt9 sx9);clear tt9 rc9 ll9 sx9 HPR;generalize cs9.length=n9 at *;go_wp2_with fail
 refine HCK.out.mono ?_;rintro e w10 ⟨ck,b10⟩;obtain rfl:=ck_ex H9.out.1 ck;have X10:=hide (H9.out.2.below b10);have HPR:=hide (X10.out.proof (by omega) (fun cs h=>h) (by omega))
 clear ck b10 HCK H9 X10;go_wp2_with fail
 refine HPR.out.mono ?_;rintro e w11 ⟨q11,c11,cs11,rfl,tt11,rc11,sx11,-,-⟩;have ll11:LL w11 w1.heap.size (some ⟨B+4,0,none⟩) 4 4 exL:=HL.out.1.below (by rw[hg];exact sx11.bl)
 have sz11:w1.heap.size≤w11.heap.size:=sx11.bl.size;have HCK:=hide (check_any w1.heap.size (some ⟨B+4,0,none⟩) 4 4 exL q11 cs11.length c11 _ w11 ll11 sz11 (by omega) (by decide) rc11)
 have H11:=hide (And.intro tt11 sx11.bl);clear tt11 rc11 ll11 sx11 HPR;generalize cs11.length=n11 at *;go_wp2_with fail
 refine HCK.out.mono ?_;rintro e w12 ⟨ck,b12⟩;obtain rfl:=ck_ex H11.out.1 ck;have HE:Hid (Below w.heap.size w w12):=by
  show Below w.heap.size w w12
  rw[hB];exact (HB1.out.trans (H11.out.2.mono hBg)).trans (b12.mono (Nat.le_trans (by omega) sz11))
 clear ck b12 HCK H11;go_wp2;go_ret
 exact⟨rfl,HE.out⟩
end Sat
end Go.Proofs.YtbmkkhpoaicclabGreat
