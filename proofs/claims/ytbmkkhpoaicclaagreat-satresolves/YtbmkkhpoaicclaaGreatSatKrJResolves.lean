/- SatResolves walked: it answers true; it proves no statement of the seat. -/
import Derived.Test.YtbmkkhpoaicclaaGreatSatAkJResolves
import Derived.Test.YtbmkkhpoaicclaaGreatSatOqJResolves
import Derived.Test.YtbmkkhpoaicclaaGreatSatHdJResolves
import Derived.Test.YtbmkkhpoaicclaaGreatSatRhJResolves
namespace Go.Proofs.YtbmkkhpoaicclaaGreat
open Go Go.RowKit
set_option linter.unusedVariables false
namespace Sat
open Euf (OL App)
def RzP (a b:List Int) (v:Int) (s:List Int) (ec:Int):Prop:=(ec=0∧Srt s∧∃ l, Rsv a b v l∧∀ x, x∈s↔RI a b l x)∨(ec=41∧s=[]∧¬ ∃ l, Rsv a b v l)
theorem rsv_set {a b A B:List Int} (hA:SetOf a A) (hB:SetOf b B) {v l:Int}:Rsv A B v l↔Rsv a b v l:=by
 unfold Rsv;simp only [hA.2,hB.2]
theorem ri_set {a b A B:List Int} (hA:SetOf a A) (hB:SetOf b B) {l x:Int}:RI A B l x↔RI a b l x:=by
 unfold RI;simp only [hA.2,hB.2]
theorem RI.of {a b:List Int} {l x:Int} (h:RI a b l x):x∈a∨x∈b:=h.elim (fun h=>Or.inl h.1) (fun h=>Or.inr h.1)
theorem IL.nil (w:World):IL w none 0 0 []:=⟨rfl, Nat.le_refl _, Nat.zero_le _, fun _=>rfl, Or.inl rfl, fun z hz=>by cases hz⟩
theorem rz_norm {a b:List Int} {v:Int} {w w':World} {e:Ending} (h:RzEnd a b v w e w') (ia:∀ z∈a,InI z) (ib:∀ z∈b,InI z) :
  Below w.heap.size w w'∧∃ q cap s ec,e=.returned (.tuple #[.slice q s.length cap,.int .i64 ec])∧IL w' q s.length cap s∧RzP a b v s ec:=by
 obtain ⟨A,B,hA,hB,bl,⟨l,vr,s,h1,rfl,h2,h3,ol,-⟩ | ⟨h1,rfl⟩⟩:=h
 ·
  have h3':∀ x,x∈s↔RI a b l x:=fun x=>(h3 x).trans (ri_set hA hB)
  obtain ⟨q,cap,rfl,il⟩:=OL.il ol (fun z hz=>((h3' z).1 hz).of.elim (ia z) (ib z))
  exact ⟨bl,q,cap,s,0,rfl,il,Or.inl ⟨rfl,h2,l,(rsv_set hA hB).1 h1,h3'⟩⟩
 · exact ⟨bl,none,0,[],41,rfl,IL.nil _,Or.inr ⟨rfl,rfl,fun ⟨l,hl⟩=>h1 ⟨l,(rsv_set hA hB).2 hl⟩⟩⟩
theorem rr_norm {a b:List Int} {v:Int} {w w':World} {e:Ending} (h:RrEnd a b v w e w') (ia:∀ z∈a,InI z) (ib:∀ z∈b,InI z) (ma:(-9223372036854775808:Int) ∉ a) (mb:(-9223372036854775808:Int) ∉ b) :
  Below w.heap.size w w'∧∃ q cap s ec,e=.returned (.tuple #[.slice q s.length cap,.int .i64 ec])∧IL w' q s.length cap s∧RzP a b v s ec:=by
 obtain ⟨bl,⟨l,vr,s,h1,rfl,h2,h3,ol,-⟩ | ⟨h1,rfl⟩⟩:=h
 ·
  obtain ⟨q,cap,rfl,il⟩:=OL.il ol (fun z hz=>((h3 z).1 hz).of.elim (ia z) (ib z))
  have hs:∀ z∈s,z≠-9223372036854775808:=fun z hz e=>by
   subst e;exact ((h3 _).1 hz).of.elim ma mb
  exact ⟨bl,q,cap,s,0,rfl,il,Or.inl ⟨rfl,List.Pairwise.imp_of_mem (fun ha hb k=>(bw_bv (hs _ ha) (hs _ hb)).1 k) h2,l,h1,h3⟩⟩
 · exact ⟨bl,none,0,[],41,rfl,IL.nil _,Or.inr ⟨rfl,rfl,h1⟩⟩
theorem RzP.uniq {a b:List Int} {v:Int} {s s':List Int} {ec ec':Int} (h:RzP a b v s ec) (h':RzP a b v s' ec'):s=s'∧ec=ec':=by
 rcases h with ⟨rfl,h2,l,h3,h4⟩ | ⟨rfl,rfl,h3⟩ <;> rcases h' with ⟨rfl,h2',l',h3',h4'⟩ | ⟨rfl,rfl,h3'⟩
 · obtain rfl:=h3.uniq h3';exact ⟨h2.ext h2' (fun x=>(h4 x).trans (h4' x).symm),rfl⟩
 · exact absurd ⟨l,h3⟩ h3'
 · exact absurd ⟨l',h3'⟩ h3
 · exact ⟨rfl,rfl⟩
theorem ll_two {w:World} {qa qb:Option Addr} {na ca nb cb:Nat} {a b:List Int} (ha:IL w qa na ca a) (hb:IL w qb nb cb b) :
  LL (w.alloc (.cells #[.slice qa na ca,.slice qb nb cb] 39 (0,0))) (w.alloc (.cells #[.slice qa na ca,.slice qb nb cb] 39 (0,0))).heap.size (some ⟨w.heap.size,0,none⟩) 2 2 [a,b]:=by
 have bl:Below w.heap.size w (w.alloc (.cells #[.slice qa na ca,.slice qb nb cb] 39 (0,0))):=(Below.refl _ _).alloc (Nat.le_refl _) _;have hn:=heap_alloc_new w (.cells #[.slice qa na ca,.slice qb nb cb] 39 (0,0));have hs:(w.alloc (.cells #[.slice qa na ca,.slice qb nb cb] 39 (0,0))).heap.size=w.heap.size + 1:=by simp
 have h1:=ha.below bl;have h2:=hb.below bl;refine ⟨rfl,Nat.le_refl _,by unfold maxLen;decide,(fun k=>by cases k),Or.inr ⟨_,0,rfl,by omega,by omega,fun i hi=>?_⟩⟩
 rw [cell_of_row _ _ _ _ _ _ hn];rcases (by omega:i=0∨i=1) with rfl | rfl
 · refine ⟨qa,ca,by rw [← ha.len];rfl,by have:=ha.len;show IL _ qa a.length ca a;rw [this];exact h1,h1.lo⟩
 · refine ⟨qb,cb,by rw [← hb.len];rfl,by have:=hb.len;show IL _ qb b.length cb b;rw [this];exact h2,h2.lo⟩
set_option maxRecDepth 20000 in
set_option maxHeartbeats 16000000 in
theorem satResolves_any (qa:Option Addr) (ca:Nat) (a:List Int) (qb:Option Addr) (cb:Nat) (b:List Int) (v:Int) (w:World) (ha:IL w qa a.length ca a) (hb:IL w qb b.length cb b) (hv:InI v) :
  Calls Tryz.prog 7 #[.slice qa a.length ca,.slice qb b.length cb,.int .i64 v] w fun e w'=>e=.returned (.bool true)∧Below w.heap.size w w':=by
 have hnaI:(a.length:Int)≤9223372036854775807:=by have h1:=ha.le;have h2:=ha.mx;unfold maxLen at h2;omega
 have hnbI:(b.length:Int)≤9223372036854775807:=by have h1:=hb.le;have h2:=hb.mx;unfold maxLen at h2;omega
 obtain ⟨na,hna⟩:∃ na,a.length=na:=⟨_,rfl⟩;obtain ⟨nb,hnb⟩:∃ nb,b.length=nb:=⟨_,rfl⟩;rw [hna] at ha hnaI ⊢;rw [hnb] at hb hnbI ⊢;have H:=hide (And.intro ha (And.intro hb (And.intro hna (And.intro hnb hv))));clear ha hb hna hnb hv;go_enter Tryz.func7,Tryz.ntmps7;go_wp2_with fail
 refine (awake_any w).mono ?_;rintro e w1 ⟨rfl,b1⟩;have H1:Hid (IL w1 qa na ca a∧IL w1 qb nb cb b):=⟨H.out.1.below b1,H.out.2.1.below b1⟩;have HB1:=hide b1;clear b1;by_cases h60:200 < na
 ·
  have h60I:(200:Int) < (na:Int):=by omega
  go_wp2;go_ret
  exact ⟨rfl,HB1.out⟩
 have h60I:¬ ((200:Int) < (na:Int)):=by omega
 by_cases hP60:200 < nb
 ·
  have hP60I:(200:Int) < (nb:Int):=by omega
  go_wp2;go_ret
  exact ⟨rfl,HB1.out⟩
 have hP60I:¬ ((200:Int) < (nb:Int)):=by omega
 have HA:=hide (rhas_any qa na ca a (-9223372036854775808) w1 H1.out.1);go_wp2_with fail
 refine HA.out.mono ?_;rintro e w9 ⟨⟨x9,rfl,hma⟩,hw9⟩;obtain rfl:=hw9.symm;clear HA;cases x9 with
 | true =>
  clear hma;go_wp2;go_ret
  exact ⟨rfl,HB1.out⟩
 | false =>
 have HMA:Hid ((-9223372036854775808:Int) ∉ a):=fun h=>by have:=hma.2 h;cases this
 clear hma;have HA:=hide (rhas_any qb nb cb b (-9223372036854775808) w1 H1.out.2);go_wp2_with fail
 refine HA.out.mono ?_;rintro e w9 ⟨⟨x9,rfl,hmb⟩,hw9⟩;obtain rfl:=hw9.symm;clear HA;cases x9 with
 | true =>
  clear hmb;go_wp2;go_ret
  exact ⟨rfl,HB1.out⟩
 | false =>
 have HMB:Hid ((-9223372036854775808:Int) ∉ b):=fun h=>by have:=hmb.2 h;cases this
 clear hmb;have HRZ:=hide (resolve_any qa na ca a qb nb cb b v w1 H1.out.1 H1.out.2 (by omega) H.out.2.2.2.2)
 go_wp2_with fail
 refine HRZ.out.mono ?_;intro e w2 hz;obtain ⟨b2,qc,cc,s,ec,rfl,ilc,hzp⟩:=rz_norm hz H1.out.1.ok H1.out.2.ok;have H2:Hid (IL w2 qa na ca a∧IL w2 qb nb cb b∧IL w2 qc s.length cc s∧RzP a b v s ec):=⟨H1.out.1.below b2,H1.out.2.below b2,ilc,hzp⟩;have HB2:Hid (Below w.heap.size w w2):=HB1.out.trans (b2.mono HB1.out.size);clear hz b2 ilc hzp HRZ H1;obtain ⟨nc,hnc⟩:∃ nc,s.length=nc:=⟨_,rfl⟩;rw [hnc] at H2 ⊢;have HNC:=hide hnc;clear hnc;have HRR:=hide (rresolve_any qa na ca a qb nb cb b v w2 H2.out.1 H2.out.2.1 (by omega) (by omega) H.out.2.2.2.2)
 go_wp2_with fail
 refine HRR.out.mono ?_;intro e w3 hz;obtain ⟨b3,qd,cd,s',ec',rfl,ild,hzp⟩:=rr_norm hz H2.out.1.ok H2.out.2.1.ok HMA.out HMB.out;obtain ⟨rfl,rfl⟩:=H2.out.2.2.2.uniq hzp;rw [HNC.out] at ild ⊢;have H3:Hid (IL w3 qa na ca a∧IL w3 qb nb cb b∧IL w3 qc nc cc s∧IL w3 qd nc cd s∧RzP a b v s ec):=⟨H2.out.1.below b3,H2.out.2.1.below b3,H2.out.2.2.1.below b3,ild,hzp⟩;have HB3:Hid (Below w.heap.size w w3):=HB2.out.trans (b3.mono HB2.out.size);clear hz b3 ild hzp HRR H2;have HSM:=hide (rsame_any qc nc cc s qd nc cd s w3 H3.out.2.2.1 H3.out.2.2.2.1);go_wp2_with fail
 refine HSM.out.mono ?_;rintro e w4 ⟨⟨x9,rfl,hx9⟩,k9,hw9⟩;obtain rfl:x9=true:=hx9.2 (by first | rfl | trivial)
 have b4:Below w3.heap.size w3 w4:=by rw [hw9];exact ⟨rfl,rfl,rfl,Nat.le_refl _,fun _ _=>rfl⟩
 have H4:Hid (IL w4 qa na ca a∧IL w4 qb nb cb b∧IL w4 qc nc cc s∧RzP a b v s ec):=⟨H3.out.1.below b4,H3.out.2.1.below b4,H3.out.2.2.1.below b4,H3.out.2.2.2.2⟩;have HB4:Hid (Below w.heap.size w w4):=HB3.out.trans (b4.mono HB3.out.size);clear hx9 b4 hw9 HSM H3 HB3;have HSE:=hide (set_any qa na ca a w4 H4.out.1 (by omega))
 go_wp2_with fail
 refine HSE.out.mono ?_;rintro e w5 ⟨v5,s5,rfl,hs5,ol5,-,b5⟩;obtain ⟨q5,c5,rfl,il5⟩:=OL.il ol5 (fun z hz=>H4.out.1.ok z ((hs5.2 z).1 hz))
 have H5:Hid (IL w5 qa na ca a∧IL w5 qb nb cb b∧IL w5 qc nc cc s∧RzP a b v s ec∧SetOf a s5∧IL w5 q5 s5.length c5 s5):=⟨H4.out.1.below b5,H4.out.2.1.below b5,H4.out.2.2.1.below b5,H4.out.2.2.2,hs5,il5⟩;have HB5:Hid (Below w.heap.size w w5):=HB4.out.trans (b5.mono HB4.out.size);obtain ⟨n5,hn5⟩:∃ n5,s5.length=n5:=⟨_,rfl⟩;rw [hn5] at H5 ⊢;have HN5:=hide hn5;clear hs5 ol5 il5 b5 HSE H4 HB4 hn5;have HSR:=hide (rset_any qa na ca a w5 H5.out.1 (by omega))
 go_wp2_with fail
 refine HSR.out.mono ?_;rintro e w6 ⟨v6,s6,rfl,hs6,ol6,-,b6⟩;obtain rfl:s5=s6:=H5.out.2.2.2.2.1.uniq (hs6.setOf HMA.out);obtain ⟨q6,c6,rfl,il6⟩:=OL.il ol6 (fun z hz=>H5.out.1.ok z ((hs6.2 z).1 hz))
 rw [HN5.out] at il6 ⊢;have HSM:=hide (rsame_any q5 n5 c5 s5 q6 n5 c6 s5 w6 (H5.out.2.2.2.2.2.below b6) il6);have H6:Hid (IL w6 qa na ca a∧IL w6 qb nb cb b∧IL w6 qc nc cc s∧RzP a b v s ec):=⟨H5.out.1.below b6,H5.out.2.1.below b6,H5.out.2.2.1.below b6,H5.out.2.2.2.1⟩;have HB6:Hid (Below w.heap.size w w6):=HB5.out.trans (b6.mono HB5.out.size);clear hs6 ol6 il6 b6 HSR H5 HB5;go_wp2_with fail
 refine HSM.out.mono ?_;rintro e w7 ⟨⟨x9,rfl,hx9⟩,k9,hw9⟩;obtain rfl:x9=true:=hx9.2 (by first | rfl | trivial)
 have b7:Below w6.heap.size w6 w7:=by rw [hw9];exact ⟨rfl,rfl,rfl,Nat.le_refl _,fun _ _=>rfl⟩
 have H7:Hid (IL w7 qa na ca a∧IL w7 qb nb cb b∧IL w7 qc nc cc s∧RzP a b v s ec):=⟨H6.out.1.below b7,H6.out.2.1.below b7,H6.out.2.2.1.below b7,H6.out.2.2.2⟩;have HB7:Hid (Below w.heap.size w w7):=HB6.out.trans (b7.mono HB6.out.size);clear hx9 b7 hw9 HSM H6 HB6;obtain ⟨w8,hw8⟩:∃ w8,w7.alloc (.cells #[.slice qa na ca,.slice qb nb cb] 39 (0,0))=w8:=⟨_,rfl⟩;have ll:=ll_two H7.out.1 H7.out.2.1;have b8:Below w7.heap.size w7 w8:=by rw [← hw8];exact (Below.refl _ _).alloc (Nat.le_refl _) _
 rw [hw8] at ll;have HFW:=hide (few_any w8.heap.size (some ⟨w7.heap.size,0,none⟩) 2 2 [a,b] w8 ll);have H8:Hid (IL w8 qa na ca a∧IL w8 qb nb cb b∧IL w8 qc nc cc s∧RzP a b v s ec):=⟨H7.out.1.below b8,H7.out.2.1.below b8,H7.out.2.2.1.below b8,H7.out.2.2.2⟩;have HB8:Hid (Below w.heap.size w w8):=HB7.out.trans (b8.mono HB7.out.size);clear ll b8 H7 HB7;go_wp2_with fail
 refine HFW.out.mono ?_;rintro e w9 ⟨fw,hw9⟩;obtain rfl:=hw9.symm;clear HFW hw8;rcases fw with ⟨rfl,hf⟩ | ⟨rfl,hf⟩
 rotate_left
 ·
  clear hf;go_wp2;go_ret
  exact ⟨rfl,HB8.out⟩
 by_cases hec:ec=0
 rotate_left
 ·
  clear hf;go_wp2;go_ret
  exact ⟨rfl,HB8.out⟩
 subst hec;have HOA:Hid (∀ z∈a,Okl 9 z):=(hf.2 a (by simp)).2
 have HOB:Hid (∀ z∈b,Okl 9 z):=(hf.2 b (by simp)).2
 have HOC:Hid ((∀ z∈s,Okl 9 z)∧∀ M:Nat→Bool,Hl M a→Hl M b→Hl M s):=by
  rcases H8.out.2.2.2 with ⟨-,hs,l,hl,hi⟩ | ⟨h9,-,-⟩
  ·
   refine ⟨fun z hz=>((hi z).1 hz).of.elim (HOA.out z) (HOB.out z),fun M h1 h2=>?_⟩
   obtain ⟨x,k1,k2⟩:=RI.true_ (hl.nz) h1 h2;exact ⟨x,(hi x).2 k1,k2⟩
  · exact absurd h9 (by decide)
 clear hf;go_wp2;go_loopw [13] (fun v13 wr=>∃ (n:Nat),v13=.int .i64 (n:Nat)∧n≤512∧Hid (w8=wr)) (fun v _=>512 - (intOf v).toNat)
 case atStart=>exact ⟨0,rfl,Nat.zero_le _,rfl⟩
 case round =>
  rename World=>wl
  obtain ⟨n,rfl,hn,hwl⟩:=hrel;obtain rfl:=hwl.out;by_cases hlt:n < 512
  ·
   have hltI:(n:Int) < 512:=by omega
   have HHA:=hide (holds_any04 qa na ca a n w8 H8.out.1 HOA.out (by omega))
   have HHB:=hide (holds_any04 qb nb cb b n w8 H8.out.2.1 HOB.out (by omega))
   have HHC:=hide (holds_any04 qc nc cc s n w8 H8.out.2.2.1 HOC.out.1 (by omega))
   go_wp2_with fail
   refine HHA.out.mono ?_;rintro e w9 ⟨⟨x9,rfl,hxa⟩,hw9⟩;obtain rfl:=hw9.symm;clear HHA;cases x9 with
   | false =>
    clear hxa HHB HHC;go_wp2;go_roundw
    case rel=>exact ⟨n + 1,by go_num,by omega,by first | rfl | trivial⟩
    case measure=>simp [intOf] <;> omega
   | true =>
    have HXA:=hide (hxa.1 rfl);clear hxa;go_wp2_with fail
    refine HHB.out.mono ?_;rintro e w9 ⟨⟨x9,rfl,hxb⟩,hw9⟩;obtain rfl:=hw9.symm;clear HHB;cases x9 with
    | false =>
     clear hxb HHC;go_wp2;go_roundw
     case rel=>exact ⟨n + 1,by go_num,by omega,by first | rfl | trivial⟩
     case measure=>simp [intOf] <;> omega
    | true =>
     have HXB:=hide (hxb.1 rfl);clear hxb;go_wp2_with fail
     refine HHC.out.mono ?_;rintro e w9 ⟨⟨x9,rfl,hxc⟩,hw9⟩;obtain rfl:=hw9.symm;obtain rfl:x9=true:=hxc.2 (HOC.out.2 _ HXA.out HXB.out);clear hxc HHC;go_wp2;go_roundw
     case rel=>exact ⟨n + 1,by go_num,by omega,by first | rfl | trivial⟩
     case measure=>simp [intOf] <;> omega
  ·
   have hltI:¬ ((n:Int) < 512):=by omega
   go_wp2;go_ret
   exact ⟨rfl,HB8.out⟩
end Sat
end Go.Proofs.YtbmkkhpoaicclaaGreat
