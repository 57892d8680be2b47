/- SatAnswers walked: it answers true; it proves no statement of the seat. -/
import Derived.Test.YtbmkkhpoaicclaaGreatSatAkJAnswers
import Derived.Test.YtbmkkhpoaicclaaGreatSatOqJAnswers
import Derived.Test.YtbmkkhpoaicclaaGreatSatBiJAnswers
namespace Go.Proofs.YtbmkkhpoaicclaaGreat
open Go Go.RowKit
set_option linter.unusedVariables false
namespace Sat
open Euf (OL App)
set_option maxRecDepth 20000 in
set_option maxHeartbeats 8000000 in
theorem satAnswers_any (qL:Option Addr) (cL:Nat) (ls:List (List Int)) (w:World) (hl:LL w w.heap.size qL ls.length cL ls) :
  Calls Tryz.prog 3 #[.slice qL ls.length cL] w fun e w'=>e=.returned (.bool true)∧Below w.heap.size w w':=by
 obtain ⟨nL,hnL⟩:∃ nL,ls.length=nL:=⟨_,rfl⟩;rw [hnL] at hl ⊢;have H:=hide (And.intro hl hnL);clear hl hnL;go_enter Tryz.func3,Tryz.ntmps3;go_wp2_with fail
 refine (awake_any w).mono ?_;rintro e w1 ⟨rfl,b1⟩;have HB1:=hide b1;clear b1;have HFW:=hide (few_any w.heap.size qL nL cL ls w1 (H.out.1.below HB1.out));go_wp2_with fail
 refine HFW.out.mono ?_;rintro e w2 ⟨fw,hw9⟩;obtain rfl:=hw9.symm;clear HFW;rcases fw with ⟨rfl,hf⟩ | ⟨rfl,hf⟩
 rotate_left
 ·
  have HSV:=hide (solver_any w1.heap.size none 0 0 [] w1 (LL.nil w1 _) (Nat.le_refl _) (fun c hc=>by cases hc) (by omega))
  clear hf;go_wp2_with fail
  refine HSV.out.mono ?_;rintro e w3 ⟨rfl,sv⟩;have HE:Hid (Below w.heap.size w w3):=HB1.out.trans (sv.bl.mono HB1.out.size);clear sv HSV;go_wp2;go_ret
  exact ⟨rfl,HE.out⟩
 have HF:=hide hf;have hn80:nL≤80:=by have:=hf.1;rw [H.out.2] at this;exact this
 have hn80I:(nL:Int)≤80:=by omega
 have HSV:=hide (solver_any w.heap.size qL nL cL ls w1 (H.out.1.below HB1.out) HB1.out.size hf.2 (by omega))
 have hgN:=HB1.out.size;obtain ⟨g,hg⟩:∃ g,w1.heap.size=g:=⟨_,rfl⟩;rw [hg] at HSV hgN;clear hf;go_wp2_with fail
 refine HSV.out.mono ?_;rintro e w3 ⟨rfl,sv⟩;have HS:=hide sv;have HB3:Hid (Below w.heap.size w w3):=HB1.out.trans (sv.bl.mono hgN);clear sv HSV;have HEN:=hide (enough_any w3);go_wp2_with fail
 refine HEN.out.mono ?_;rintro e w9 ⟨rfl,hw9⟩;obtain rfl:=hw9.symm;have HSO:=hide (HS.out.q.solveE (by omega))
 clear HEN;go_wp2_with fail
 refine HSO.out.mono ?_;rintro e w4 ⟨d,a,U,A',s4,hn,hfo,bl4,hA',hcase⟩;have HB4:Hid (Below w.heap.size w w4):=HB1.out.trans (bl4.mono hgN);have hlt:=s4.lt;have HMD:=hide (models_any w.heap.size qL nL cL ls w4 (H.out.1.below HB4.out) HF.out.2);clear HSO bl4 hfo;rcases hcase with ⟨rfl,idl,M,hmo,hM⟩ | ⟨rfl,r,hnc⟩
 ·
  have HP:=hide (proof_nil g w4 hlt (by have h9:w4.cell? ⟨g,5,none⟩=some (.bool d.refuted):=s4.cell 5;rw [idl.ic.rf] at h9;exact h9))
  have HM:=hide (mdl_of HF.out.2 hM);clear s4 idl hmo hM;go_wp2_with fail
  refine HMD.out.mono ?_;rintro e w9 ⟨⟨m,rfl,hm⟩,hw9⟩;obtain rfl:=hw9.symm;have hm0:(0:Int) < (m:Int):=by have:=hm.2 HM.out;omega
  clear hm HMD;go_wp2_with fail
  refine HP.out.mono ?_;rintro e w5 ⟨rfl,b5⟩;have HE:Hid (Below w.heap.size w w5):=HB4.out.trans (b5.mono HB4.out.size);clear b5 HP;go_wp2;go_ret
  exact ⟨rfl,HE.out⟩
 ·
  have HP:=hide (model_any g d a w4 s4 (by rw [r.mo];simp))
  have HM:=hide (not_mdl r);have HMO:=hide r.mo;clear s4 r;go_wp2_with fail
  refine HMD.out.mono ?_;rintro e w9 ⟨⟨m,rfl,hm⟩,hw9⟩;obtain rfl:=hw9.symm;obtain rfl:m=0:=by
   apply Classical.byContradiction
   intro h9;exact HM.out (hm.1 (by omega))
  clear hm HMD;go_wp2_with fail
  refine HP.out.mono ?_;rintro e w5 ⟨v,rfl,ol,-,b5⟩;rw [HMO.out] at ol;obtain ⟨q5,c5,rfl,-⟩:=ol.shape;have HE:Hid (Below w.heap.size w w5):=HB4.out.trans (b5.mono HB4.out.size);clear ol b5 HP;go_wp2;go_ret
  exact ⟨rfl,HE.out⟩
end Sat
end Go.Proofs.YtbmkkhpoaicclaaGreat
