/- The contracts of Holds, All and Models; it proves no statement of the seat. -/
import Derived.Test.YtbmkkhpoaicclabGreatSatLs2JGrows
import Derived.Laws.Shifts
namespace Go.Proofs.YtbmkkhpoaicclabGreat
open Go Go.RowKit
set_option linter.unusedVariables false
namespace Sat
open Euf (OL App)
def bM (n v:Nat):Bool:=decide (n / 2 ^ (v - 1) % 2=1)
theorem ofInt64 (x:Nat) (h:x<18446744073709551616):(BitVec.ofInt 64 (x:Int)).toNat=x:=by
 rw[BitVec.ofInt_natCast,BitVec.toNat_ofNat];exact Nat.mod_eq_of_lt (by omega)
theorem and1_i64 (x:Nat) (h:x<20000):bits .and .i64 (x:Int) 1=((x % 2:Nat):Int):=by
 show IntKind.i64.wrap ((BitVec.ofInt 64 (x:Int) &&& BitVec.ofInt 64 ((1:Nat):Int)).toNat:Int)=_
 rw[BitVec.toNat_and,ofInt64 x (by omega),ofInt64 1 (by omega),Nat.and_one_is_mod]
 rw[IntWalk.i64_left,IntWalk.wrap64_in _ (by omega)]
theorem tru_pos (n k:Nat):tru (bM n) (lit ((k:Int)+1))↔n / 2 ^ k % 2=1:=by
 have e:lit ((k:Int)+1)=2*(k+1):=by unfold lit;rw[if_neg (by omega)];omega
 unfold tru bM;rw[e,if_pos (by omega)]
 have e2:2*(k+1) / 2 - 1=k:=by omega
 rw[e2];simp
theorem tru_negl (n k:Nat):tru (bM n) (lit (-((k:Int)+1)))↔n / 2 ^ k % 2=0:=by
 have e:lit (-((k:Int)+1))=2*(k+1)+1:=by unfold lit;rw[if_pos (by omega)];omega
 unfold tru bM;rw[e,if_neg (by omega)]
 have e2:(2*(k+1)+1) / 2 - 1=k:=by omega
 rw[e2];simp
def Hl (M:Nat→Bool) (c:List Int):Prop:=∃z∈c,tru M (lit z)
set_option maxRecDepth 20000 in
set_option maxHeartbeats 8000000 in
theorem holds_any04 (q:Option Addr) (n cap:Nat) (zs:List Int) (B:Nat) (w:World) (h:IL w q n cap zs) (hok:∀z∈zs,Okl 9 z) (hB:B<20000) :
  Calls Tryz.prog 43 #[.slice q n cap,.int .i64 (B:Nat)] w fun e w'=>BoolE e (Hl (bM B) zs)∧w'=w:=by
 have hnI:(n:Int)≤9223372036854775807:=by have h1:=h.le;have h2:=h.mx;unfold maxLen at h2;omega
 have H:=hide (And.intro h hok);clear h hok;go_enter Tryz.func43,Tryz.ntmps43;go_wp2;go_loopw [5] (fun v5 wr=>∃(i:Nat),v5=.int .i64 (i:Nat)∧i≤n∧Hid (w=wr∧∀j,j<i→¬ tru (bM B) (lit (zs.getD j 0)))) (fun v _=>n - (intOf v).toNat)
 case atStart=>exact⟨0,rfl,Nat.zero_le _,rfl,fun j hj=>absurd hj (Nat.not_lt_zero _)⟩
 case round =>
  rename World=>wl
  obtain⟨i,rfl,hi,HJ⟩:=hrel;obtain rfl:=HJ.out.1;by_cases hlt:i<n
  ·
   have hltI:(i:Int)<(n:Int):=by omega
   have hl:=H.out.1.len;rcases H.out.1.at_ with h0|⟨b,off,rfl,lb,hc⟩
   · rw[h0]at hl;simp at hl;omega
   ·
    have ci:=hc i hlt;obtain⟨z,hz⟩:∃z,zs.getD i 0=z:=⟨_,rfl⟩;have hzm:z∈zs:=by rw[← hz];exact getD_of (by omega)
    obtain⟨z0,z1,z2⟩:=H.out.2 z hzm;have good:Hid (tru (bM B) (lit z)→BoolE (.returned (.bool true)) (Hl (bM B) zs)):=fun h9=>BoolE.t ⟨z,hzm,h9⟩
    have next:Hid (¬ tru (bM B) (lit z)→∀j,j<i+1→¬ tru (bM B) (lit (zs.getD j 0))):=fun h9 j hj=>by
     by_cases e:j=i
     · subst e;rw[hz];exact h9
     · exact HJ.out.2 j (by omega)
    rw[hz]at ci;clear hc hl hz hzm;by_cases hp:0<z
    ·
     obtain⟨k,rfl⟩:∃k:Nat,z=(k:Int)+1:=⟨(z - 1).toNat,by omega⟩
     have hk9:k<9:=by omega
     have hk9I:(k:Int)<9:=by omega
     have hq:B / 2 ^ k<20000:=Nat.lt_of_le_of_lt (Nat.div_le_self _ _) hB;obtain⟨qq,hqq⟩:∃qq,B / 2 ^ k=qq:=⟨_,rfl⟩;have hand:bits .and .i64 ((B:Int) / 2 ^ k) 1=((qq % 2:Nat):Int):=by
      have h9:=and1_i64 qq (by omega)
      rw[← hqq]at h9 ⊢;rw[Int.natCast_ediv,Int.natCast_pow]at h9;exact h9
     have T:=tru_pos B k;rw[hqq]at T;clear hqq hq z0 z1 z2;by_cases hb:qq % 2=1
     ·
      have HG:=hide (good.out (T.2 hb));rw[hb]at hand;clear T good next hb;go_wp2;go_ret
      exact⟨HG.out,rfl⟩
     ·
      have hb0:qq % 2=0:=by omega
      have HN:=hide (next.out (fun h9=>hb (T.1 h9)))
      rw[hb0]at hand;have hneg:¬ ((k:Int)+1<0):=by omega
      clear T good next hb hb0;go_wp2;go_roundw
      case rel=>exact⟨i+1,by go_num,by omega,by first|rfl|trivial,HN.out⟩
      case measure=>simp[intOf]<;>omega
    ·
     obtain⟨k,rfl⟩:∃k:Nat,z=-((k:Int)+1):=⟨(-z - 1).toNat,by omega⟩
     have hk9:k<9:=by omega
     have hk9I:(k:Int)<9:=by omega
     have hq:B / 2 ^ k<20000:=Nat.lt_of_le_of_lt (Nat.div_le_self _ _) hB;obtain⟨qq,hqq⟩:∃qq,B / 2 ^ k=qq:=⟨_,rfl⟩;have hand:bits .and .i64 ((B:Int) / 2 ^ k) 1=((qq % 2:Nat):Int):=by
      have h9:=and1_i64 qq (by omega)
      rw[← hqq]at h9 ⊢;rw[Int.natCast_ediv,Int.natCast_pow]at h9;exact h9
     have T:=tru_negl B k;rw[hqq]at T;have hp':¬ (0 < -((k:Int)+1)):=by omega
     have hneg:-((k:Int)+1)<0:=by omega
     clear hqq hq z0 z1 z2 hp;by_cases hb:qq % 2=0
     ·
      have HG:=hide (good.out (T.2 hb));rw[hb]at hand;clear T good next hb;go_wp2;go_ret
      exact⟨HG.out,rfl⟩
     ·
      have hb1:qq % 2=1:=by omega
      have HN:=hide (next.out (fun h9=>hb (T.1 h9)))
      rw[hb1]at hand;clear T good next hb hb1;go_wp2;go_roundw
      case rel=>exact⟨i+1,by go_num,by omega,by first|rfl|trivial,HN.out⟩
      case measure=>simp[intOf]<;>omega
  ·
   have hltI:¬ ((i:Int)<(n:Int)):=by omega
   obtain rfl:i=n:=by omega
   have HE:Hid (BoolE (.returned (.bool false)) (Hl (bM B) zs)):=BoolE.f (fun⟨z,hz,ht⟩=>by
    obtain⟨j,hj,rfl⟩:=List.mem_iff_getElem.1 hz;have h9:=HJ.out.2 j (by rw[← H.out.1.len];exact hj)
    rw[List.getD_eq_getElem?_getD,List.getElem?_eq_getElem hj]at h9;exact h9 ht)
   go_wp2;go_ret
   exact⟨HE.out,rfl⟩
set_option maxRecDepth 20000 in
set_option maxHeartbeats 8000000 in
theorem all_any (N:Nat) (q:Option Addr) (n cap:Nat) (ls:List (List Int)) (B:Nat) (w:World) (h:LL w N q n cap ls) (hf:∀c∈ls,Few1 c) (hB:B<20000) :
  Calls Tryz.prog 40 #[.slice q n cap,.int .i64 (B:Nat)] w fun e w'=>BoolE e (∀c∈ls,Hl (bM B) c)∧w'=w:=by
 have hnI:(n:Int)≤9223372036854775807:=by have h1:=h.le;have h2:=h.mx;unfold maxLen at h2;omega
 have H:=hide (And.intro h hf);clear h hf;go_enter Tryz.func40,Tryz.ntmps40;go_wp2;go_loopw [5] (fun v5 wr=>∃(i:Nat),v5=.int .i64 (i:Nat)∧i≤n∧Hid (w=wr∧∀j c,j<i→ls[j]?=some c→Hl (bM B) c)) (fun v _=>n - (intOf v).toNat)
 case atStart=>exact⟨0,rfl,Nat.zero_le _,rfl,fun j c hj=>absurd hj (Nat.not_lt_zero _)⟩
 case round =>
  rename World=>wl
  obtain⟨i,rfl,hi,HJ⟩:=hrel;obtain rfl:=HJ.out.1;by_cases hlt:i<n
  ·
   have hltI:(i:Int)<(n:Int):=by omega
   obtain⟨b,off,qi,ci,zi,rfl,lb,hmem,hget,hcell,il,lo⟩:=H.out.1.get hlt;have HH:=hide (holds_any04 qi zi.length ci zi B w il (H.out.2 zi hmem).2 hB);have HI:=hide (And.intro hmem hget);generalize zi.length=ni at *;clear hmem hget il lo;go_wp2_with fail
   refine HH.out.mono ?_;rintro e w9 ⟨⟨b9,rfl,hb9⟩,hw9⟩;obtain rfl:=hw9.symm;cases b9 with
   | true =>
    have HE:Hid (∀j c,j<i+1→ls[j]?=some c→Hl (bM B) c):=fun j c hj hc=>by
     by_cases e:j=i
     · subst e;have hh:=HI.out.2;rw[hh]at hc;injection hc with hc;subst hc;exact hb9.1 rfl
     · exact HJ.out.2 j c (by omega) hc
    clear hb9 HH;go_wp2;go_roundw
    case rel=>exact⟨i+1,by go_num,by omega,by first|rfl|trivial,HE.out⟩
    case measure=>simp[intOf]<;>omega
   | false =>
    have HE:Hid (BoolE (.returned (.bool false)) (∀c∈ls,Hl (bM B) c)):=BoolE.f (fun h9=>by have:=hb9.2 (h9 zi HI.out.1);cases this)
    clear hb9 HH;go_wp2;go_ret
    exact⟨HE.out,rfl⟩
  ·
   have hltI:¬ ((i:Int)<(n:Int)):=by omega
   obtain rfl:i=n:=by omega
   have HE:Hid (BoolE (.returned (.bool true)) (∀c∈ls,Hl (bM B) c)):=BoolE.t (fun c hc=>by
    obtain⟨j,hj,rfl⟩:=List.mem_iff_getElem.1 hc;exact HJ.out.2 j _ (by rw[← H.out.1.len];exact hj) (List.getElem?_eq_getElem hj))
   go_wp2;go_ret
   exact⟨HE.out,rfl⟩
def Mdl (ls:List (List Int)):Prop:=∃B,B<512∧∀c∈ls,Hl (bM B) c
set_option maxRecDepth 20000 in
set_option maxHeartbeats 8000000 in
theorem models_any (N:Nat) (q:Option Addr) (n cap:Nat) (ls:List (List Int)) (w:World) (h:LL w N q n cap ls) (hf:∀c∈ls,Few1 c) :
  Calls Tryz.prog 17 #[.int .i64 9,.slice q n cap] w fun e w'=>(∃m:Nat,e=.returned (.int .i64 (m:Nat))∧(0<m↔Mdl ls))∧w'=w:=by
 have H:=hide (And.intro h hf);clear h hf;go_enter Tryz.func17,Tryz.ntmps17;go_wp2;go_loopw [5,6] (fun v5 v6 wr=>∃(m:Nat) (i:Nat),v5=.int .i64 (m:Nat)∧v6=.int .i64 (i:Nat)∧i≤512∧m≤i∧Hid (w=wr∧(0<m↔∃B,B<i∧∀c∈ls,Hl (bM B) c))) (fun _ v _=>512 - (intOf v).toNat)
 case atStart=>exact⟨0,0,rfl,rfl,by omega,by omega,rfl,⟨fun h=>by omega,fun⟨B,h,_⟩=>by omega⟩⟩
 case round =>
  rename World=>wl
  obtain⟨m,i,rfl,rfl,hi,hm,HJ⟩:=hrel;obtain rfl:=HJ.out.1;by_cases hlt:i<512
  ·
   have hltI:(i:Int)<512:=by omega
   have hmI:(m:Int)≤512:=by omega
   have HA:=hide (all_any N q n cap ls i w H.out.1 H.out.2 (by omega))
   go_wp2_with fail
   refine HA.out.mono ?_;rintro e w9 ⟨⟨b9,rfl,hb9⟩,hw9⟩;obtain rfl:=hw9.symm;cases b9 with
   | true =>
    have HE:Hid (0<m+1↔∃B,B<i+1∧∀c∈ls,Hl (bM B) c):=⟨fun _=>⟨i,by omega,hb9.1 rfl⟩,fun _=>by omega⟩
    clear hb9 HA;go_wp2;go_roundw
    case rel=>exact⟨m+1,i+1,by go_num,by go_num,by omega,by omega,by first|rfl|trivial,HE.out⟩
    case measure=>simp[intOf]<;>omega
   | false =>
    have HE:Hid (0<m↔∃B,B<i+1∧∀c∈ls,Hl (bM B) c):=by
     refine HJ.out.2.trans ⟨fun⟨B,h1,h2⟩=>⟨B,by omega,h2⟩,fun⟨B,h1,h2⟩=>?_⟩
     by_cases e:B=i
     · subst e;have:=hb9.2 h2;cases this
     · exact⟨B,by omega,h2⟩
    clear hb9 HA;go_wp2;go_roundw
    case rel=>exact⟨m,i+1,rfl,by go_num,by omega,by omega,by first|rfl|trivial,HE.out⟩
    case measure=>simp[intOf]<;>omega
  ·
   have hltI:¬ ((i:Int)<512):=by omega
   obtain rfl:i=512:=by omega
   have HE:=hide (show 0<m↔Mdl ls from HJ.out.2)
   clear HJ;go_wp2;go_ret
   exact⟨⟨m,rfl,HE.out⟩,rfl⟩
end Sat
end Go.Proofs.YtbmkkhpoaicclabGreat
