/- SatRefuses walked: it answers true; it proves no statement of the seat. -/
import Derived.Test.YtbmkkhpoaicclabGreatSatAkJRefuses
import Derived.Test.YtbmkkhpoaicclabGreatSatOqJRefuses
import Derived.Test.YtbmkkhpoaicclabGreatSatBiJRefuses
import Derived.Test.YtbmkkhpoaicclabGreatSatXrJRefuses
namespace Go.Proofs.YtbmkkhpoaicclabGreat
open Go Go.RowKit
set_option linter.unusedVariables false
namespace Sat
open Euf (OL App)
theorem vars_any (g:Nat) (d:Dt) (a:Key→Value) (w:World) (h:SW w g d a):Calls Tryz.prog 13 #[.pointer (some ⟨g,0,none⟩)] w fun e w'=>e=.returned (.int .i64 (d.nv:Nat))∧w'=w:=by
 have c0:w.cell? ⟨g,0,none⟩=some (.int .i64 (d.nv:Nat)):=h.cell 0;have hlg:=h.lt;clear h;generalize d.nv=nv at *;go_enter Tryz.func13,Tryz.ntmps13;go_wp2;go_ret
 exact ⟨rfl,rfl⟩
set_option maxRecDepth 20000 in
theorem add_refused (g:Nat) (d:Dt) (a:Key→Value) (w:World) (h:SW w g d a) (q:Option Addr) (n cap:Nat) (zs:List Int) (hz:IL w q n cap zs) (hv:d.nv≤5000) (hbad:¬ (n≤4096∧∀ z∈zs,Okl d.nv z)) :
  Calls Tryz.prog 14 #[.pointer (some ⟨g,0,none⟩),.slice q n cap] w fun e w'=>(∃ c:Int,e=.returned (.tuple #[.int .i64 0,.int .i64 c])∧(c=40∨c=2))∧w'=w:=by
 have c0:w.cell? ⟨g,0,none⟩=some (.int .i64 (d.nv:Nat)):=h.cell 0;have hlg:=h.lt;have HWI:=hide (within_any q n cap zs d.nv w hz hv);have hnI:(n:Int)≤9223372036854775807:=by have h1:=hz.le;have h2:=hz.mx;unfold maxLen at h2;omega
 have HB:=hide hbad;clear h hz hv hbad;generalize d.nv=nv at *;go_enter Tryz.func14,Tryz.ntmps14;go_wp2_with fail
 refine HWI.out.mono ?_;rintro e w9 ⟨⟨b9,rfl,hb9⟩,hw9⟩;obtain rfl:=hw9.symm;clear HWI;cases b9 with
 | false =>
  clear hb9;go_wp2;go_ret2
  exact ⟨⟨40,rfl,Or.inl rfl⟩,rfl⟩
 | true =>
  have hn4:¬ n≤4096:=fun h9=>HB.out ⟨h9,hb9.1 rfl⟩
  have hn4I:(4096:Int) < (n:Int):=by omega
  have h18:decide ((4096:Int) < (n:Int))=true:=by simp;omega
  clear hb9;go_wp2;go_ret2
  exact ⟨⟨2,rfl,Or.inr rfl⟩,rfl⟩
set_option maxRecDepth 20000 in
set_option maxHeartbeats 16000000 in
theorem satRefuses_any (vars:Int) (qm:Option Addr) (cm:Nat) (zs:List Int) (qL:Option Addr) (cL:Nat) (ls:List (List Int)) (w:World) (hv:InI vars) (hb:IL w qm zs.length cm zs) (hl:LL w w.heap.size qL ls.length cL ls) :
  Calls Tryz.prog 5 #[.int .i64 vars,.slice qm zs.length cm,.slice qL ls.length cL] w fun e w'=>e=.returned (.bool true)∧Below w.heap.size w w':=by
 have hnmI:(zs.length:Int)≤9223372036854775807:=by have h1:=hb.le;have h2:=hb.mx;unfold maxLen at h2;omega
 obtain ⟨nm,hnm⟩:∃ nm,zs.length=nm:=⟨_,rfl⟩;rw [hnm] at hb hnmI ⊢;have HMO:=hide (And.intro hb hnm);clear hb hnm;obtain ⟨nL,hnL⟩:∃ nL,ls.length=nL:=⟨_,rfl⟩;rw [hnL] at hl ⊢;have H:=hide (And.intro hl hnL);clear hl hnL;by_cases hbad:vars < 0∨4096 < vars
 ·
  have HNB:=hide (fun w=>new_bad vars w hbad)
  obtain ⟨v1,v2⟩:=hv;go_enter Tryz.func5,Tryz.ntmps5;go_wp2_with fail
  refine (awake_any w).mono ?_;rintro e w1 ⟨rfl,b1⟩;have HB1:=hide b1;clear b1;go_wp2_with fail
  refine (HNB.out w1).mono ?_;rintro e w9 ⟨rfl,hw9⟩;obtain rfl:=hw9.symm;clear HNB;rcases hbad with h0 | h0
  ·
   go_wp2;go_ret
   exact ⟨rfl,HB1.out⟩
  ·
   have h00:¬ (vars < 0):=by omega
   go_wp2;go_ret
   exact ⟨rfl,HB1.out⟩
 obtain ⟨nv,rfl⟩:∃ nv:Nat,vars=(nv:Int):=⟨vars.toNat,by omega⟩
 have hnv4:nv≤4096:=by omega
 have hv0:¬ ((nv:Int) < 0):=by omega
 have hv4:¬ (4096 < (nv:Int)):=by omega
 have HNW:=hide (fun w=>new_any nv w hnv4)
 clear hv hbad;go_enter Tryz.func5,Tryz.ntmps5;go_wp2_with fail
 refine (awake_any w).mono ?_;rintro e wA ⟨rfl,bA⟩;have HBA:=hide bA;clear bA;go_wp2_with fail
 refine (HNW.out wA).mono ?_;rintro e wB ⟨rfl,aB,sB,bB,-⟩;have HVA:=hide (vars_any _ _ _ _ sB);have HSP:=hide (steps_any _ _ _ _ sB);have HMM:=hide (model_any _ _ _ _ sB (show ([]:List Bool).length≤10000 by decide))
 have HBB:Hid (Below w.heap.size w wB):=HBA.out.trans (bB.mono HBA.out.size);have e1:(fresh nv).nv=nv:=rfl;have e2:(fresh nv).steps=0:=rfl;have e3:(fresh nv).mo=[]:=rfl;rw [e1] at HVA;rw [e2] at HSP;rw [e3] at HMM;clear sB bB HNW e1 e2 e3;obtain ⟨gA,hgA⟩:∃ gA,wA.heap.size=gA:=⟨_,rfl⟩;rw [hgA] at HVA HSP HMM ⊢;go_wp2_with fail
 refine HVA.out.mono ?_;rintro e w9 ⟨rfl,hw9⟩;obtain rfl:=hw9.symm;clear HVA;go_wp2_with fail
 refine HSP.out.mono ?_;rintro e w9 ⟨rfl,hw9⟩;obtain rfl:=hw9.symm;clear HSP;go_wp2_with fail
 refine HMM.out.mono ?_;rintro e w1 ⟨vM,rfl,olM,-,b1⟩;obtain ⟨qM,cM,rfl,-⟩:=olM.shape;have HB1:Hid (Below w.heap.size w w1):=HBB.out.trans (b1.mono HBB.out.size);clear olM b1 HMM;have HFW:=hide (few_any w.heap.size qL nL cL ls w1 (H.out.1.below HB1.out));go_wp2_with fail
 refine HFW.out.mono ?_;rintro e w2 ⟨fw,hw9⟩;obtain rfl:=hw9.symm;clear HFW;rcases fw with ⟨rfl,hf⟩ | ⟨rfl,hf⟩
 rotate_left
 ·
  have HSV:=hide (solver_any w1.heap.size none 0 0 [] w1 (LL.nil w1 _) (Nat.le_refl _) (fun c hc=>by cases hc) (by omega))
  clear hf;go_wp2_with fail
  refine HSV.out.mono ?_;rintro e w3 ⟨rfl,sv⟩;have HE:Hid (Below w.heap.size w w3):=HB1.out.trans (sv.bl.mono HB1.out.size);clear sv HSV;go_wp2;go_ret
  exact ⟨rfl,HE.out⟩
 have HF:=hide hf;have hn80:nL≤80:=by have:=hf.1;rw [H.out.2] at this;exact this
 have hn80I:(nL:Int)≤80:=by omega
 have HSV:=hide (solver_any w.heap.size qL nL cL ls w1 (H.out.1.below HB1.out) HB1.out.size hf.2 (by omega))
 have hgN:=HB1.out.size;obtain ⟨g,hg⟩:∃ g,w1.heap.size=g:=⟨_,rfl⟩;rw [hg] at HSV hgN;clear hf;go_wp2_with fail
 refine HSV.out.mono ?_;rintro e w3 ⟨rfl,sv⟩;have HS:=hide sv;have HB3:Hid (Below w.heap.size w w3):=HB1.out.trans (sv.bl.mono hgN);clear sv HSV;go_wp2;obtain ⟨r0,hr0⟩:∃ r0:Bool,decide (nm≤4096)=r0:=⟨_,rfl⟩;go_loopw [11,12] (fun v11 v12 wr=>∃ (i:Nat) (r:Bool),v11=.bool r∧v12=.int .i64 (i:Nat)∧i≤nm∧Hid (w3=wr∧(r=true↔nm≤4096∧∀ j,j < i→Okl 9 (zs.getD j 0)))) (fun _ v _=>nm - (intOf v).toNat)
 case atStart =>
  refine ⟨0,decide (nm≤4096),?_,rfl,Nat.zero_le _,rfl,?_⟩
  · first | rfl | (congr 1;simp;done) | (congr 1;simp;omega) | (simp;omega)
  · simp
 case round =>
  rename World=>wl
  obtain ⟨i,r,rfl,rfl,hi,HJ⟩:=hrel;obtain rfl:=HJ.out.1;clear hr0;by_cases hlt:i < nm
  ·
   have hltI:(i:Int) < (nm:Int):=by omega
   have zl:=HMO.out.1.below HB3.out;have hlz:=HMO.out.2;rcases zl.at_ with h0 | ⟨b,off,rfl,lb,hc⟩
   · rw [h0] at hlz;simp at hlz;omega
   have ci:=hc i hlt;obtain ⟨z,hz⟩:∃ z,zs.getD i 0=z:=⟨_,rfl⟩;obtain ⟨z1,z2⟩:=zl.ok z (by rw [← hz];exact getD_of (by omega))
   rw [hz] at ci;have HZ:=hide hz;have HN:Hid (∀ r':Bool,(r'=true↔r=true∧Okl 9 z)→(r'=true↔nm≤4096∧∀ j,j < i + 1→Okl 9 (zs.getD j 0))):=fun r' h9=>by
    rw [h9,HJ.out.2];constructor
    ·
     rintro ⟨⟨k1,k2⟩,k3⟩;exact ⟨k1,fun j hj=>by
      by_cases e:j=i
      · subst e;rw [HZ.out];exact k3
      · exact k2 j (by omega)⟩
    · rintro ⟨k1,k2⟩;exact ⟨⟨k1,fun j hj=>k2 j (by omega)⟩,by rw [← HZ.out];exact k2 i (by omega)⟩
   clear hc hz zl hlz;cases r with
   | false =>
    have HE:=hide (HN.out false (by simp))
    clear HN;go_wp2;go_roundw
    case rel=>exact ⟨i + 1,false,rfl,by go_num,by omega,by first | rfl | trivial,HE.out⟩
    case measure=>simp [intOf] <;> omega
   | true =>
    by_cases k1:z=0
    ·
     have HE:=hide (HN.out false (by simp [Okl,k1]))
     subst k1;clear HN;go_wp2;go_roundw
     case rel=>exact ⟨i + 1,false,rfl,by go_num,by omega,by first | rfl | trivial,HE.out⟩
     case measure=>simp [intOf] <;> omega
    have k1B:(z == 0)=false:=by simpa using k1
    have k1C:(z != 0)=true:=by simpa using k1
    by_cases k2:9 < z
    ·
     have HE:=hide (HN.out false (by unfold Okl;constructor <;> intro h9 <;> first | (cases h9;done) | (obtain ⟨-,-,h8,h7⟩:=h9;omega)))
     have k2I:¬ (z≤9):=by omega
     clear HN;go_wp2;go_roundw
     case rel=>exact ⟨i + 1,false,rfl,by go_num,by omega,by first | rfl | trivial,HE.out⟩
     case measure=>simp [intOf] <;> omega
    have k2I:z≤9:=by omega
    by_cases k3:z < -9
    ·
     have HE:=hide (HN.out false (by unfold Okl;constructor <;> intro h9 <;> first | (cases h9;done) | (obtain ⟨-,-,h8,h7⟩:=h9;omega)))
     have k3I:¬ (-9≤z):=by omega
     clear HN;go_wp2;go_roundw
     case rel=>exact ⟨i + 1,false,rfl,by go_num,by omega,by first | rfl | trivial,HE.out⟩
     case measure=>simp [intOf] <;> omega
    have k3I:-9≤z:=by omega
    have HE:=hide (HN.out true (by simp [Okl,k1];omega))
    clear HN;go_wp2;go_roundw
    case rel=>exact ⟨i + 1,true,rfl,by go_num,by omega,by first | rfl | trivial,HE.out⟩
    case measure=>simp [intOf] <;> omega
  ·
   have hltI:¬ ((i:Int) < (nm:Int)):=by omega
   obtain rfl:i=nm:=by omega
   have HR:Hid (r=true↔i≤4096∧∀ z∈zs,Okl 9 z):=by
    show _↔_
    rw [HJ.out.2];constructor
    ·
     rintro ⟨k1,k2⟩;refine ⟨k1,fun z hz=>?_⟩
     obtain ⟨j,hj,rfl⟩:=List.mem_iff_getElem.1 hz;have h9:=k2 j (by rw [← HMO.out.2];exact hj)
     rw [List.getD_eq_getElem?_getD,List.getElem?_eq_getElem hj] at h9;exact h9
    · rintro ⟨k1,k2⟩;exact ⟨k1,fun j hj=>k2 _ (getD_of (by rw [HMO.out.2];exact hj))⟩
   clear HJ hlt hltI;cases r with
   | true =>
    obtain ⟨hr1,hr2⟩:=HR.out.1 rfl;have HAD:=hide (HS.out.add (Nl:=w.heap.size) (HMO.out.1.below HB3.out) HMO.out.1.lo hgN hr2 hr1 (by rw [List.length_map,H.out.2];omega) (by omega))
    rw [List.length_map,H.out.2] at HAD;clear hr2 HR;go_wp2_with fail
    refine HAD.out.mono ?_;rintro e w4 ⟨rfl,sv⟩;have HE:Hid (Below w.heap.size w w4):=HB1.out.trans (sv.bl.mono hgN);clear sv HAD HS;go_wp2;go_ret
    exact ⟨rfl,HE.out⟩
   | false =>
    have HAD:Hid (Calls Tryz.prog 14 #[.pointer (some ⟨g,0,none⟩),.slice qm i cm] w3 fun e w'=>(∃ c:Int,e=.returned (.tuple #[.int .i64 0,.int .i64 c])∧(c=40∨c=2))∧w'=w3):=by
     obtain ⟨d,a,U,s,-,hn9,-,-⟩:=HS.out;refine add_refused g d a w3 s qm i cm zs (HMO.out.1.below HB3.out) (by omega) (fun h9=>?_)
     rw [hn9] at h9;have:=HR.out.2 h9;cases this
    clear HR;go_wp2_with fail
    refine HAD.out.mono ?_;rintro e w9 ⟨⟨c,rfl,hc⟩,hw9⟩;obtain rfl:=hw9.symm;have HEN:=hide (enough_any w3);have HSO:=hide (HS.out.q.solveE (by omega))
    clear HAD HS;rcases hc with rfl | rfl
    all_goals
     go_wp2_with fail
     refine HEN.out.mono ?_;rintro e w9 ⟨rfl,hw9⟩;obtain rfl:=hw9.symm;go_wp2_with fail
     refine HSO.out.mono ?_;rintro e w4 ⟨d,a,U,A',s4,hn,hfo,bl4,hA',hcase⟩;obtain ⟨w5,hw5⟩:∃ w5,w4.alloc (.cells #[.int .i64 1,.int .i64 (-1)] 3 (0,0))=w5:=⟨_,rfl⟩;have b5:Below w4.heap.size w4 w5:=by rw [← hw5];exact (Below.refl _ _).alloc (Nat.le_refl _) _
     have il5:IL w5 (some ⟨w4.heap.size,0,none⟩) 2 2 [1,-1]:=by
      have hr:w5.heap[w4.heap.size]?=some (.cells #[.int .i64 1,.int .i64 (-1)] 3 (0,0)):=by rw [← hw5];exact heap_alloc_new w4 _
      refine ⟨rfl,Nat.le_refl _,by unfold maxLen;decide,(fun k=>by cases k),Or.inr ⟨w4.heap.size,0,rfl,(Array.getElem?_eq_some_iff.1 hr).1,fun j hj=>?_⟩,fun z hz=>?_⟩
      · rw [cell_of_row _ _ _ _ _ _ hr];rcases (by omega:j=0∨j=1) with rfl | rfl <;> rfl
      · simp at hz;rcases hz with rfl | rfl <;> exact ⟨by omega,by omega⟩
     have ok5:∀ z∈([1,-1]:List Int),Okl 9 z:=fun z hz=>by simp at hz;rcases hz with rfl | rfl <;> (unfold Okl;omega)
     have hg4:g≤w4.heap.size:=bl4.size |> fun h=>by have h9:=hfo g (Or.inl rfl);have:=s4.lt;omega
     rcases hcase with ⟨rfl,idl,M,hmo,hM⟩ | ⟨rfl,r,hnc⟩
     ·
      have HML:=hide (mdl_of HF.out.2 hM);have HA5:Hid (Calls Tryz.prog 14 #[.pointer (some ⟨g,0,none⟩),.slice (some ⟨w4.heap.size,0,none⟩) 2 2] w5 fun e w'=>e=.returned (.tuple #[.int .i64 (nL:Nat),.int .i64 0])∧Below g w1 w'):=by
       have s5:=s4.below b5;have had:=idl.ic.ad;rw [List.length_map,H.out.2] at had;have h9:=addC_any g d a _ A' U _ 2 2 _ w5 s5 idl il5 (fun _ b off e9 hF=>by cases e9;exact absurd (s4.foLt hF) (Nat.lt_irrefl _)) (by rw [hn];exact ok5) (by omega) (by omega) (by omega) (by omega)
       rw [had] at h9;refine h9.mono ?_;rintro e w' ⟨he,d',a',s',m',-⟩;refine ⟨he,(bl4.trans (b5.mono hg4)).trans (m'.mv.toBelow (by have:=b5.size;omega) hfo)⟩
      clear s4 idl hmo hM hfo HSO il5 ok5;go_wp2_with fail
      refine HA5.out.mono ?_;rintro e w6 ⟨rfl,b6⟩;have HB6:Hid (Below w.heap.size w w6):=HB1.out.trans (b6.mono hgN);have HMD:=hide (models_any w.heap.size qL nL cL ls w6 (H.out.1.below HB6.out) HF.out.2);clear b6 b5 HA5 hw5;go_wp2_with fail
      refine HMD.out.mono ?_;rintro e w9 ⟨⟨m,rfl,hm⟩,hw9⟩;obtain rfl:=hw9.symm;have hm0:0 < m:=hm.2 HML.out;have hm0I:(0:Int) < (m:Int):=by omega
      clear hm HMD;go_wp2;go_ret
      exact ⟨rfl,HB6.out⟩
     ·
      have HML:=hide (not_mdl r);have SX:=svx_of (N:=g) (w0:=w1) (ls:=ls) (M:=A' + 11) s4 r hnc (by omega) (by rw [hn];decide) (by rw [H.out.2];omega) (hfo g (Or.inl rfl)) bl4
      rw [hn,H.out.2] at SX;have HA5:Hid (Calls Tryz.prog 14 #[.pointer (some ⟨g,0,none⟩),.slice (some ⟨w4.heap.size,0,none⟩) 2 2] w5 fun e w'=>e=.returned (.tuple #[.int .i64 (nL:Nat),.int .i64 0])∧Below g w1 w'):=by
       have SX5:=SX.below b5;obtain ⟨st,r5,hg5,bl5⟩:=SX5;have hlt4:=s4.lt;refine (Rdy.add g 9 nL st _ _ 2 2 _ w5 r5 il5 (fun _ b off e9 e8=>by cases e9;omega) ok5 (by omega) (by omega) (by omega)).mono ?_
       rintro e w' ⟨he,-,m⟩;exact ⟨he,bl5.trans (m.toBelow (by have:=b5.size;omega) (fun b hb=>by subst hb;exact hg5))⟩
      clear s4 r hfo HSO il5 ok5 SX hnc;go_wp2_with fail
      refine HA5.out.mono ?_;rintro e w6 ⟨rfl,b6⟩;have HB6:Hid (Below w.heap.size w w6):=HB1.out.trans (b6.mono hgN);have HMD:=hide (models_any w.heap.size qL nL cL ls w6 (H.out.1.below HB6.out) HF.out.2);clear b6 b5 HA5 hw5;go_wp2_with fail
      refine HMD.out.mono ?_;rintro e w9 ⟨⟨m,rfl,hm⟩,hw9⟩;obtain rfl:=hw9.symm;obtain rfl:m=0:=by
       apply Classical.byContradiction
       intro h9;exact HML.out (hm.1 (by omega))
      clear hm HMD;go_wp2;go_ret
      exact ⟨rfl,HB6.out⟩
end Sat
end Go.Proofs.YtbmkkhpoaicclabGreat
