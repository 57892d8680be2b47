/- SatModels walked: it answers true; it proves no statement of the seat. -/
import Derived.Test.YtbmkkhpoaicclaaGreatSatAkJModels
import Derived.Test.YtbmkkhpoaicclaaGreatSatOqJModels
import Derived.Test.YtbmkkhpoaicclaaGreatSatBiJModels
namespace Go.Proofs.YtbmkkhpoaicclaaGreat
open Go Go.RowKit
set_option linter.unusedVariables false
namespace Sat
open Euf (OL App)
set_option maxRecDepth 20000 in
set_option maxHeartbeats 8000000 in
theorem satModels_any (qL:Option Addr) (cL:Nat) (ls:List (List Int)) (bud:Int) (w:World) (hl:LL w w.heap.size qL ls.length cL ls) (hb:InI bud) :
  Calls Tryz.prog 4 #[.slice qL ls.length cL,.int .i64 bud] w fun e w'=>e=.returned (.bool true)∧Below w.heap.size w w':=by
 obtain ⟨nL,hnL⟩:∃ nL,ls.length=nL:=⟨_,rfl⟩;rw [hnL] at hl ⊢;have H:=hide (And.intro hl hnL);clear hl hnL;go_enter Tryz.func4,Tryz.ntmps4;go_wp2_with fail
 refine (awake_any w).mono ?_;rintro e w1 ⟨rfl,b1⟩;have HB1:=hide b1;clear b1;have HFW:=hide (few_any w.heap.size qL nL cL ls w1 (H.out.1.below HB1.out));go_wp2_with fail
 refine HFW.out.mono ?_;rintro e w2 ⟨fw,hw9⟩;obtain rfl:=hw9.symm;clear HFW;rcases fw with ⟨rfl,hf⟩ | ⟨rfl,hf⟩
 rotate_left
 ·
  have HSV:=hide (solver_any w1.heap.size none 0 0 [] w1 (LL.nil w1 _) (Nat.le_refl _) (fun c hc=>by cases hc) (by omega))
  clear hf;go_wp2_with fail
  refine HSV.out.mono ?_;rintro e w3 ⟨rfl,sv⟩;have HE:Hid (Below w.heap.size w w3):=HB1.out.trans (sv.bl.mono HB1.out.size);clear sv HSV;go_wp2;go_ret
  exact ⟨rfl,HE.out⟩
 have HF:=hide hf;have hn80:nL≤80:=by have:=hf.1;rw [H.out.2] at this;exact this
 have hn80I:(nL:Int)≤80:=by omega
 have HSV:=hide (solver_any w.heap.size qL nL cL ls w1 (H.out.1.below HB1.out) HB1.out.size hf.2 (by omega))
 have hgN:=HB1.out.size;obtain ⟨g,hg⟩:∃ g,w1.heap.size=g:=⟨_,rfl⟩;rw [hg] at HSV hgN;clear hf;go_wp2_with fail
 refine HSV.out.mono ?_;rintro e w3 ⟨rfl,sv⟩;have HS:=hide sv;have HB3:Hid (Below w.heap.size w w3):=HB1.out.trans (sv.bl.mono hgN);clear sv HSV;obtain ⟨bu,hbu⟩:∃ bu,min bud 1048576=bu:=⟨_,rfl⟩;have hb1:bu≤1048576:=by omega
 have HSO:=hide (HS.out.q.solve bu (by omega))
 go_wp2_with fail
 refine HSO.out.mono ?_;rintro e w4 ⟨d,a,U,A',s4,hn,hfo,bl4,hA',hs0,hs1,hcase⟩;have HB4:Hid (Below w.heap.size w w4):=HB1.out.trans (bl4.mono hgN);have hlt:=s4.lt;have HML:=hide (fun h=>model_any g d a w4 s4 h)
 clear HSO bl4 hfo hs0 hs1 hbu hb1;rcases hcase with ⟨rfl,-,hmo,-⟩ | ⟨rfl,idl,M,hmo,hM⟩ | ⟨rfl,r,hnc⟩
 ·
  have HP:=hide (HML.out (by rw [hmo];simp))
  have HMO:=hide hmo;clear s4 hmo HML;go_wp2_with fail
  refine HP.out.mono ?_;rintro e w5 ⟨v,rfl,ol,-,b5⟩;rw [HMO.out] at ol;obtain ⟨q5,c5,rfl,-⟩:=ol.shape;have HE:Hid (Below w.heap.size w w5):=HB4.out.trans (b5.mono HB4.out.size);clear ol b5 HP;go_wp2;go_ret
  exact ⟨rfl,HE.out⟩
 ·
  have HP:=hide (HML.out (by rw [hmo];simp [mdl]))
  have HMO:=hide hmo;have HM:=hide hM;clear s4 hmo HML hM idl;go_wp2_with fail
  refine HP.out.mono ?_;rintro e w5 ⟨v,rfl,ol,-,b5⟩;rw [HMO.out,mdl_len] at ol;obtain ⟨b,c5,rfl,-⟩:=ol.open 0 (by decide)
  have lb:=ol.lt rfl;have HB5:Hid (Below w.heap.size w w5):=HB4.out.trans (b5.mono HB4.out.size);have HBI:=hide (bits_any b c5 M w5 (fun i hi=>by
   have h9:=ol.cell (i:=i) (j:=0) hi (by decide)
   rw [Nat.mul_one,Nat.add_zero,mdl_get hi] at h9;exact h9) lb)
  have HAL:=hide (all_any w.heap.size qL nL cL ls (bt M 9) w5 (H.out.1.below HB5.out) HF.out.2 (Nat.lt_trans (bt_lt M 9) (by decide)))
  have HT:Hid (∀ c∈ls,Hl (bM (bt M 9)) c):=fun c hc=>(hl_bt (HF.out.2 c hc).2).2 (all_hl.1 HM.out c hc)
  clear ol b5 HP HM;generalize bt M 9=n9 at *;go_wp2_with fail
  refine HBI.out.mono ?_;rintro e w9 ⟨rfl,hw9⟩;obtain rfl:=hw9.symm;clear HBI;go_wp2_with fail
  refine HAL.out.mono ?_;rintro e w9 ⟨⟨b9,rfl,hb9⟩,hw9⟩;obtain rfl:=hw9.symm;obtain rfl:b9=true:=hb9.2 HT.out;clear hb9 HAL;go_wp2;go_ret
  exact ⟨rfl,HB5.out⟩
 ·
  have HP:=hide (HML.out (by rw [r.mo];simp))
  have HMO:=hide r.mo;clear s4 r HML;go_wp2_with fail
  refine HP.out.mono ?_;rintro e w5 ⟨v,rfl,ol,-,b5⟩;rw [HMO.out] at ol;obtain ⟨q5,c5,rfl,-⟩:=ol.shape;have HE:Hid (Below w.heap.size w w5):=HB4.out.trans (b5.mono HB4.out.size);clear ol b5 HP;go_wp2;go_ret
  exact ⟨rfl,HE.out⟩
end Sat
end Go.Proofs.YtbmkkhpoaicclaaGreat
