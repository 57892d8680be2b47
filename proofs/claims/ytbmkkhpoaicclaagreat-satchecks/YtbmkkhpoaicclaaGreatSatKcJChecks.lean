/- SatChecks walked: it answers true; it proves no statement of the seat. -/
import Derived.Test.YtbmkkhpoaicclaaGreatSatAkJChecks
import Derived.Test.YtbmkkhpoaicclaaGreatSatOrJChecks
import Derived.Test.YtbmkkhpoaicclaaGreatSatHdJChecks
namespace Go.Proofs.YtbmkkhpoaicclaaGreat
open Go Go.RowKit
set_option linter.unusedVariables false
namespace Sat
open Euf (OL App)
theorem CkEnd.num {ls:List (List Int)} {pf:List Chn} {e:Ending} (h:CkEnd ls pf e):∃ k:Int,e=.returned (.int .i64 k)∧(k=0→∀ M:Nat→Bool,¬ ∀ c∈ls,Hl M c):=by
 rcases h with ⟨_,rfl⟩ | ⟨_,ps,hs,⟨ho,rfl⟩ | ⟨_,rfl⟩⟩
 · exact ⟨40,rfl,fun h=>absurd h (by decide)⟩
 ·
  refine ⟨0,rfl,fun _ M hM=>ho.none M (fun p hp=>?_)⟩
  obtain ⟨i,hi⟩:=List.mem_iff_getElem?.1 hp;have hil:=(List.getElem?_eq_some_iff.1 hi).1;have hl:i < ls.length:=by rw [← hs.1];exact hil
  obtain ⟨z,h1,h2⟩:=hM ls[i] (List.getElem_mem hl);exact ⟨z,((hs.2 i _ _ (List.getElem?_eq_getElem hl) hi).2 z).2 h1,h2⟩
 · exact ⟨41,rfl,fun h=>absurd h (by decide)⟩
set_option maxRecDepth 20000 in
set_option maxHeartbeats 8000000 in
theorem satChecks_any (qL:Option Addr) (cL:Nat) (ls:List (List Int)) (qP:Option Addr) (cP:Nat) (pf:List Chn) (w:World) (hl:LL w w.heap.size qL ls.length cL ls) (hp:RC0 w qP pf.length pf) :
  Calls Tryz.prog 6 #[.slice qL ls.length cL,.slice qP pf.length cP] w fun e w'=>e=.returned (.bool true)∧Below w.heap.size w w':=by
 have hnLI:(ls.length:Int)≤9223372036854775807:=by have h1:=hl.le;have h2:=hl.mx;unfold maxLen at h2;omega
 have hnPI:(pf.length:Int)≤9223372036854775807:=by have h2:=hp.mx;unfold maxLen at h2;omega
 obtain ⟨nL,hnL⟩:∃ nL,ls.length=nL:=⟨_,rfl⟩;obtain ⟨nP,hnP⟩:∃ nP,pf.length=nP:=⟨_,rfl⟩;rw [hnL] at hl hnLI ⊢;rw [hnP] at hp hnPI ⊢;have H:=hide (And.intro hl (And.intro hp (And.intro hnL hnP)));clear hl hp hnL hnP;go_enter Tryz.func6,Tryz.ntmps6;go_wp2_with fail
 refine (awake_any w).mono ?_;rintro e w1 ⟨rfl,b1⟩;have H1:Hid (Below w.heap.size w w1∧LL w1 w.heap.size qL nL cL ls∧RC0 w1 qP nP pf∧w.heap.size≤w1.heap.size):=⟨b1,H.out.1.below b1,H.out.2.1.below b1,b1.size⟩;clear b1;by_cases h60:60 < nL
 ·
  have h60I:(60:Int) < (nL:Int):=by omega
  go_wp2;go_ret
  exact ⟨rfl,H1.out.1⟩
 have h60I:¬ ((60:Int) < (nL:Int)):=by omega
 by_cases hP60:60 < nP
 ·
  have hP60I:(60:Int) < (nP:Int):=by omega
  go_wp2;go_ret
  exact ⟨rfl,H1.out.1⟩
 have hP60I:¬ ((60:Int) < (nP:Int)):=by omega
 go_wp2;go_loopw [5] (fun v5 wr=>∃ (i:Nat),v5=.int .i64 (i:Nat)∧i≤nL∧Hid (w1=wr∧∀ j c,j < i→ls[j]?=some c→c.length≤60)) (fun v _=>nL - (intOf v).toNat)
 case atStart=>exact ⟨0,rfl,Nat.zero_le _,rfl,fun j c hj=>absurd hj (Nat.not_lt_zero _)⟩
 case round =>
  rename World=>wl
  obtain ⟨i,rfl,hi,HJ⟩:=hrel;obtain rfl:=HJ.out.1;by_cases hlt:i < nL
  ·
   have hltI:(i:Int) < (nL:Int):=by omega
   obtain ⟨b,off,qi,ci,zi,rfl,lb,hmem,hget,hcell,il,lo⟩:=H1.out.2.1.get hlt;have hciI:(zi.length:Int)≤9223372036854775807:=by have h1:=il.le;have h2:=il.mx;unfold maxLen at h2;omega
   obtain ⟨ni,hni⟩:∃ ni,zi.length=ni:=⟨_,rfl⟩;rw [hni] at hcell hciI;have HI:=hide (And.intro hget hni);clear hmem hget hni il lo;by_cases h40:60 < ni
   ·
    have h40I:(60:Int) < (ni:Int):=by omega
    go_wp2;go_ret
    exact ⟨rfl,H1.out.1⟩
   ·
    have h40I:¬ ((60:Int) < (ni:Int)):=by omega
    have HE:Hid (∀ j c,j < i + 1→ls[j]?=some c→c.length≤60):=fun j c hj hc=>by
     by_cases e:j=i
     · subst e;rw [HI.out.1] at hc;cases hc;rw [HI.out.2];omega
     · exact HJ.out.2 j c (by omega) hc
    go_wp2;go_roundw
    case rel=>exact ⟨i + 1,by go_num,by omega,by first | rfl | trivial,HE.out⟩
    case measure=>simp [intOf] <;> omega
  ·
   have hltI:¬ ((i:Int) < (nL:Int)):=by omega
   obtain rfl:i=nL:=by omega
   have HL6:Hid (∀ c∈ls,c.length≤60):=fun c hc=>by
    obtain ⟨j,hj⟩:=List.mem_iff_getElem?.1 hc;exact HJ.out.2 j c (by rw [← H.out.2.2.1];exact (List.getElem?_eq_some_iff.1 hj).1) hj
   clear HJ hlt hltI;go_wp2;go_loopw [6] (fun v6 wr=>∃ (k:Nat),v6=.int .i64 (k:Nat)∧k≤nP∧Hid (w1=wr∧∀ j c,j < k→pf[j]?=some c→c.steps.length≤60∧c.clause.length≤60)) (fun v _=>nP - (intOf v).toNat)
   case atStart=>exact ⟨0,rfl,Nat.zero_le _,rfl,fun j c hj=>absurd hj (Nat.not_lt_zero _)⟩
   case round =>
    rename World=>wl
    obtain ⟨k,rfl,hk,HJ⟩:=hrel;obtain rfl:=HJ.out.1;by_cases hlt:k < nP
    ·
     have hltI:(k:Int) < (nP:Int):=by omega
     have hpl:=H.out.2.2.2;rcases H1.out.2.2.1.at_ with h0 | ⟨b,off,rfl,lb,hc⟩
     · rw [h0] at hpl;simp at hpl;omega
     obtain ⟨x,hx⟩:∃ x,pf[k]?=some x:=⟨_,List.getElem?_eq_getElem (by omega)⟩
     obtain ⟨qc,cc,qs,cs,c0,c1,c2,ilc,rk,s1,s2⟩:=hc k x hx;have hsI:(x.steps.length:Int)≤9223372036854775807:=by unfold maxLen at s2;omega
     have hcI:(x.clause.length:Int)≤9223372036854775807:=by have h1:=ilc.le;have h2:=ilc.mx;unfold maxLen at h2;omega
     obtain ⟨ns,hns⟩:∃ ns,x.steps.length=ns:=⟨_,rfl⟩;obtain ⟨nc,hnc⟩:∃ nc,x.clause.length=nc:=⟨_,rfl⟩;rw [hns] at c2 hsI;rw [hnc] at c0 hcI;have HI:=hide (And.intro hx (And.intro hns hnc));clear hx hns hnc hc ilc rk s1 s2 hpl c1;by_cases h40:60 < ns
     ·
      have h40I:(60:Int) < (ns:Int):=by omega
      go_wp2;go_ret
      exact ⟨rfl,H1.out.1⟩
     have h40I:¬ ((60:Int) < (ns:Int)):=by omega
     by_cases h50:60 < nc
     ·
      have h50I:(60:Int) < (nc:Int):=by omega
      go_wp2;go_ret
      exact ⟨rfl,H1.out.1⟩
     have h50I:¬ ((60:Int) < (nc:Int)):=by omega
     have HE:Hid (∀ j c,j < k + 1→pf[j]?=some c→c.steps.length≤60∧c.clause.length≤60):=fun j c hj hc=>by
      by_cases e:j=k
      · subst e;rw [HI.out.1] at hc;cases hc;rw [HI.out.2.1,HI.out.2.2];omega
      · exact HJ.out.2 j c (by omega) hc
     go_wp2;go_roundw
     case rel=>exact ⟨k + 1,by go_num,by omega,by first | rfl | trivial,HE.out⟩
     case measure=>simp [intOf] <;> omega
    ·
     have hltI:¬ ((k:Int) < (nP:Int)):=by omega
     obtain rfl:k=nP:=by omega
     have hpf:RC w1 qP k pf:=H1.out.2.2.1.rc (by omega) (fun x hx=>by
      obtain ⟨j,hj⟩:=List.mem_iff_getElem?.1 hx;have h9:=HJ.out.2 j x (by rw [← H.out.2.2.2];exact (List.getElem?_eq_some_iff.1 hj).1) hj
      omega)
     have HCK:=hide (check_any w.heap.size qL i cL ls qP k cP pf w1 H1.out.2.1 H1.out.2.2.2 (by omega) (fun c hc=>by have:=HL6.out c hc;omega) hpf)
     have HP:=hide hpf;clear hpf HJ hlt hltI;go_wp2_with fail
     refine HCK.out.mono ?_;rintro e w2 ⟨ck,b2⟩;have hB2:Below w.heap.size w1 w2:=b2.mono H1.out.2.2.2;have HRK:=hide (rcheck_any w.heap.size qL i cL ls qP k cP pf w2 (H1.out.2.1.below hB2) (Nat.le_trans H1.out.2.2.2 b2.size) (by omega) (fun c hc=>by have:=HL6.out c hc;omega) (HP.out.below b2))
     obtain ⟨kk,rfl,hkk⟩:=ck.num;have HK:=hide (And.intro ck (And.intro hkk (And.intro b2 hB2)));clear ck hkk b2 hB2 HCK;go_wp2_with fail
     refine HRK.out.mono ?_;rintro e w3 ⟨ck3,b3⟩;have he3:=ck3.det HK.out.1;subst he3;have hB3:Below w.heap.size w w3:=(H1.out.1.trans HK.out.2.2.2).trans (b3.mono (Nat.le_trans H1.out.2.2.2 HK.out.2.2.1.size));have HFW:=hide (few_any w.heap.size qL i cL ls w3 (H.out.1.below hB3));have H3:=hide hB3;clear hB3 b3 ck3 HRK;go_wp2_with fail
     refine HFW.out.mono ?_;rintro e w4 ⟨fw,hw9⟩;obtain rfl:=hw9.symm;rcases fw with ⟨rfl,hf⟩ | ⟨rfl,hf⟩
     ·
      by_cases hz:kk=0
      ·
       have HNM:=hide (HK.out.2.1 hz);subst hz;have HMD:=hide (models_any w.heap.size qL i cL ls w3 (H.out.1.below H3.out) hf.2);clear hf HFW;go_wp2_with fail
       refine HMD.out.mono ?_;rintro e w5 ⟨⟨m,rfl,hm⟩,hw9⟩;obtain rfl:=hw9.symm;obtain rfl:m=0:=by
        apply Classical.byContradiction
        intro h9;obtain ⟨B,-,hB⟩:=hm.1 (by omega)
        exact HNM.out (bM B) hB
       clear hm;go_wp2;go_ret
       exact ⟨rfl,H3.out⟩
      ·
       clear hf HFW;go_wp2;go_ret
       exact ⟨rfl,H3.out⟩
     ·
      clear hf HFW;by_cases hz:kk=0
      ·
       subst hz;go_wp2;go_ret
       exact ⟨rfl,H3.out⟩
      ·
       go_wp2;go_ret
       exact ⟨rfl,H3.out⟩
end Sat
end Go.Proofs.YtbmkkhpoaicclaaGreat
