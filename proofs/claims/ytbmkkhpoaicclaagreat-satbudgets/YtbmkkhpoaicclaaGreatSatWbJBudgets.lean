/- SatBudgets walked: it answers true; it proves no statement of the seat. -/
import Derived.Test.YtbmkkhpoaicclaaGreatSatAkJBudgets
import Derived.Test.YtbmkkhpoaicclaaGreatSatOqJBudgets
import Derived.Test.YtbmkkhpoaicclaaGreatSatBiJBudgets
import Derived.Test.YtbmkkhpoaicclaaGreatSatXrJBudgets
namespace Go.Proofs.YtbmkkhpoaicclaaGreat
open Go Go.RowKit
set_option linter.unusedVariables false
namespace Sat
open Euf (OL App)
def BuI (N g nL:Nat) (ls:List (List Int)) (i:Nat) (w1 wr:World):Prop :=
  (∃ A', A'≤nL + i*1048576∧SvQ N g (ls.map (·.map lit)) A' w1 wr)∨(¬ Mdl ls∧∃ T, SvX N g 9 nL T w1 wr)
theorem BuI.bl {N g nL i:Nat} {ls:List (List Int)} {w1 wr:World} (h:BuI N g nL ls i w1 wr):Below N w1 wr:=by
 rcases h with ⟨A',-,d,a,U,-,-,-,-,bl⟩ | ⟨-,T,h⟩
 · exact bl
 · exact h.bl
set_option maxRecDepth 20000 in
set_option maxHeartbeats 16000000 in
theorem satBudgets_any (qL:Option Addr) (cL:Nat) (ls:List (List Int)) (qB:Option Addr) (cB:Nat) (bs:List Int) (w:World) (hl:LL w w.heap.size qL ls.length cL ls) (hb:IL w qB bs.length cB bs) :
  Calls Tryz.prog 8 #[.slice qL ls.length cL,.slice qB bs.length cB] w fun e w'=>e=.returned (.bool true)∧Below w.heap.size w w':=by
 have hnBI:(bs.length:Int)≤9223372036854775807:=by have h1:=hb.le;have h2:=hb.mx;unfold maxLen at h2;omega
 obtain ⟨nB,hnB⟩:∃ nB,bs.length=nB:=⟨_,rfl⟩;rw [hnB] at hb hnBI ⊢;have HZ:=hide (And.intro hb hnB);clear hb hnB;obtain ⟨nL,hnL⟩:∃ nL,ls.length=nL:=⟨_,rfl⟩;rw [hnL] at hl ⊢;have H:=hide (And.intro hl hnL);clear hl hnL;go_enter Tryz.func8,Tryz.ntmps8;go_wp2_with fail
 refine (awake_any w).mono ?_;rintro e w1 ⟨rfl,b1⟩;have HB1:=hide b1;clear b1;have HFW:=hide (few_any w.heap.size qL nL cL ls w1 (H.out.1.below HB1.out));go_wp2_with fail
 refine HFW.out.mono ?_;rintro e w2 ⟨fw,hw9⟩;obtain rfl:=hw9.symm;clear HFW;rcases fw with ⟨rfl,hf⟩ | ⟨rfl,hf⟩
 rotate_left
 ·
  have HSV:=hide (solver_any w1.heap.size none 0 0 [] w1 (LL.nil w1 _) (Nat.le_refl _) (fun c hc=>by cases hc) (by omega))
  clear hf;go_wp2_with fail
  refine HSV.out.mono ?_;rintro e w3 ⟨rfl,sv⟩;have HE:Hid (Below w.heap.size w w3):=HB1.out.trans (sv.bl.mono HB1.out.size);clear sv HSV;go_wp2;go_ret
  exact ⟨rfl,HE.out⟩
 have HF:=hide hf;have hn80:nL≤80:=by have:=hf.1;rw [H.out.2] at this;exact this
 have hn80I:(nL:Int)≤80:=by omega
 have HSV:=hide (solver_any w.heap.size qL nL cL ls w1 (H.out.1.below HB1.out) HB1.out.size hf.2 (by omega))
 have hgN:=HB1.out.size;obtain ⟨g,hg⟩:∃ g,w1.heap.size=g:=⟨_,rfl⟩;rw [hg] at HSV hgN;clear hf;go_wp2_with fail
 refine HSV.out.mono ?_;rintro e w3 ⟨rfl,sv⟩;have HS:=hide sv;have HB3:Hid (Below w.heap.size w w3):=HB1.out.trans (sv.bl.mono hgN);clear sv HSV;have HMD:=hide (models_any w.heap.size qL nL cL ls w3 (H.out.1.below HB3.out) HF.out.2);go_wp2_with fail
 refine HMD.out.mono ?_;rintro e w9 ⟨⟨m,rfl,hm⟩,hw9⟩;obtain rfl:=hw9.symm;obtain ⟨sb,hsb⟩:∃ sb:Bool,decide (0 < m)=sb:=⟨_,rfl⟩;have HSB:Hid (sb=true↔Mdl ls):=by
  show _↔_
  rw [← hm,← hsb];simp
 have HJ0:Hid (BuI g g nL ls 0 w1 w3):=Or.inl ⟨nL,by omega,HS.out.q⟩
 clear hm HMD HS;go_wp2;clear hsb;go_loopw [8] (fun v8 wr=>∃ (i:Nat),v8=.int .i64 (i:Nat)∧i≤nB∧Hid (BuI g g nL ls i w1 wr)) (fun v _=>nB - (intOf v).toNat)
 case atStart=>exact ⟨0,rfl,Nat.zero_le _,HJ0.out⟩
 case round =>
  rename World=>wl
  obtain ⟨i,rfl,hi,HJ⟩:=hrel;clear HJ0;have HBl:Hid (Below w.heap.size w wl):=HB1.out.trans (HJ.out.bl.mono hgN);by_cases hlt:i < nB
  ·
   have hltI:(i:Int) < (nB:Int):=by omega
   by_cases h12:i < 12
   ·
    have h12I:(i:Int) < 12:=by omega
    have zl:=HZ.out.1.below HBl.out;have hlz:=HZ.out.2;rcases zl.at_ with h0 | ⟨b,off,rfl,lb,hc⟩
    · rw [h0] at hlz;simp at hlz;omega
    have ci:=hc i hlt;obtain ⟨z,hz⟩:∃ z,bs.getD i 0=z:=⟨_,rfl⟩;have hzI:InI z:=zl.ok z (by rw [← hz];exact getD_of (by omega))
    rw [hz] at ci;obtain ⟨z1,z2⟩:=hzI;obtain ⟨bu,hbu⟩:∃ bu,min z 1048576=bu:=⟨_,rfl⟩;have hb1:bu≤1048576:=by omega
    have hb2:-9223372036854775808≤bu:=by omega
    obtain ⟨mx,hmx⟩:∃ mx,max bu 0=mx:=⟨_,rfl⟩;clear hc hz zl hlz;rcases HJ.out with ⟨A',hA',sq⟩ | ⟨hnm,T,sx⟩
    ·
     have HSO:=hide (sq.solve bu (by omega))
     clear sq HJ;go_wp2_with fail
     refine HSO.out.mono ?_;rintro e w4 ⟨d,a,U,A2,s4,hn,hfo,bl4,hA2,hs0,hs1,hcase⟩;have HSP:=hide (steps_any g d a w4 s4);have S4:=hide s4;obtain ⟨st,hst⟩:∃ st,d.steps=st:=⟨_,rfl⟩;rw [hst] at HSP hs0 hs1 hcase;have hgm:¬ (mx < st):=by omega
     have hgz:¬ (st < 0):=by omega
     have HX:=hide (And.intro hn (And.intro hfo bl4));have HAA:Hid (A2≤nL + (i + 1)*1048576):=by
      show A2≤nL + (i + 1)*1048576
      rw [Nat.add_mul];omega
     clear s4 hn hfo bl4 hA2 HSO hst;rcases hcase with ⟨rfl,q1,q2,q3,q4⟩ | ⟨rfl,q1,M,q2,q3⟩ | ⟨rfl,q1,q2⟩
     ·
      have HE:Hid (BuI g g nL ls (i + 1) w1 w4):=Or.inl ⟨A2,HAA.out,d,a,U,S4.out,q1,HX.out⟩;obtain rfl:st=mx:=by omega
      clear q1 q2 q3 q4 hs0 hs1;go_wp2_with fail
      refine HSP.out.mono ?_;rintro e w9 ⟨rfl,hw9⟩;obtain rfl:=hw9.symm;clear HSP;go_wp2;go_roundw
      case rel=>exact ⟨i + 1,by go_num,by omega,HE.out⟩
      case measure=>simp [intOf] <;> omega
     ·
      have HE:Hid (BuI g g nL ls (i + 1) w1 w4):=Or.inl ⟨A2,HAA.out,d,a,U,S4.out,q1.w,HX.out⟩;obtain rfl:sb=true:=HSB.out.2 (mdl_of HF.out.2 q3);clear q1 q2 q3 hs0 hs1;go_wp2_with fail
      refine HSP.out.mono ?_;rintro e w9 ⟨rfl,hw9⟩;obtain rfl:=hw9.symm;clear HSP;go_wp2;go_roundw
      case rel=>exact ⟨i + 1,by go_num,by omega,HE.out⟩
      case measure=>simp [intOf] <;> omega
     ·
      have hnm:=not_mdl q1;have HE:Hid (BuI g g nL ls (i + 1) w1 w4):=Or.inr ⟨hnm,_,by
       have h9:=svx_of (N:=g) (w0:=w1) (ls:=ls) (M:=A2 + 11) S4.out q1 q2 (by have:=HAA.out;omega) (by rw [HX.out.1];decide) (by rw [H.out.2];omega) (Nat.le_refl _) HX.out.2.2
       rw [HX.out.1,H.out.2] at h9;exact h9⟩
      obtain rfl:sb=false:=by
       cases sb with
       | false=>rfl
       | true=>exact absurd (HSB.out.1 rfl) hnm
      clear q1 q2 hnm hs0 hs1;go_wp2_with fail
      refine HSP.out.mono ?_;rintro e w9 ⟨rfl,hw9⟩;obtain rfl:=hw9.symm;clear HSP;go_wp2;go_roundw
      case rel=>exact ⟨i + 1,by go_num,by omega,HE.out⟩
      case measure=>simp [intOf] <;> omega
    ·
     have HSO:=hide (sx.solve bu);have hmx0:¬ (mx < 0):=by omega
     clear sx HJ;obtain rfl:sb=false:=by
      cases sb with
      | false=>rfl
      | true=>exact absurd (HSB.out.1 rfl) hnm
     go_wp2_with fail
     refine HSO.out.mono ?_;rintro e w4 ⟨rfl,sx4,r4⟩;have HSP:=hide r4.steps_any;have HE:Hid (BuI g g nL ls (i + 1) w1 w4):=Or.inr ⟨hnm,T,sx4⟩;clear sx4 r4 hnm HSO;go_wp2_with fail
     refine HSP.out.mono ?_;rintro e w9 ⟨rfl,hw9⟩;obtain rfl:=hw9.symm;clear HSP;go_wp2;go_roundw
     case rel=>exact ⟨i + 1,by go_num,by omega,HE.out⟩
     case measure=>simp [intOf] <;> omega
   ·
    have h12I:¬ ((i:Int) < 12):=by omega
    go_wp2;go_ret
    exact ⟨rfl,HBl.out⟩
  ·
   have hltI:¬ ((i:Int) < (nB:Int)):=by omega
   go_wp2;go_ret
   exact ⟨rfl,HBl.out⟩
end Sat
end Go.Proofs.YtbmkkhpoaicclaaGreat
