/- Lists of clauses as they are handed in, and the contracts of few and solver; it proves no statement of the seat. -/
import Derived.Test.YtbmkkhpoaicclabGreatJoin23Grows
import Derived.Test.YtbmkkhpoaicclabGreatJoin25Grows
import Derived.Test.YtbmkkhpoaicclabGreatSatSvJGrows
namespace Go.Proofs.YtbmkkhpoaicclabGreat
open Go Go.RowKit
set_option linter.unusedVariables false
namespace Sat
open Euf (OL App)
def Lo (N:Nat) (q:Option Addr) (zs:List Int):Prop:=zs≠[]→∀b off,q=some ⟨b,off,none⟩→b<N
theorem IL.belowN {w w':World} {N:Nat} {q:Option Addr} {n cap:Nat} {zs:List Int} (h:IL w q n cap zs) (hl:Lo N q zs) (hb:Below N w w'):IL w' q n cap zs:=h.keep hb.size (fun e b off hq _=>hb.block b (hl e b off hq))
structure LL (w:World) (N:Nat) (q:Option Addr) (n cap:Nat) (ls:List (List Int)):Prop where
  len:ls.length=n
  le:n≤cap
  mx:cap≤maxLen
  nl:q=none→cap=0
  at_:ls=[]∨∃b off,q=some ⟨b,off,none⟩∧b<N∧b<w.heap.size∧∀i,i<n→∃qi ci,w.cell? ⟨b,off+i,none⟩=some (.slice qi (ls.getD i []).length ci)∧IL w qi (ls.getD i []).length ci (ls.getD i [])∧Lo N qi (ls.getD i [])
theorem LL.nil (w:World) (N:Nat):LL w N none 0 0 []:=⟨rfl,Nat.le_refl _,Nat.zero_le _,fun _=>rfl,Or.inl rfl⟩
theorem LL.below {w w':World} {N:Nat} {q:Option Addr} {n cap:Nat} {ls:List (List Int)} (h:LL w N q n cap ls) (hb:Below N w w'):LL w' N q n cap ls:=by
 refine⟨h.len,h.le,h.mx,h.nl,?_⟩;rcases h.at_ with e|⟨b,off,h1,h2,h3,h4⟩
 · exact Or.inl e
 ·
  refine Or.inr ⟨b,off,h1,h2,Nat.lt_of_lt_of_le h3 hb.size,fun i hi=>?_⟩
  obtain⟨qi,ci,k1,k2,k3⟩:=h4 i hi;exact⟨qi,ci,(World.cell?_of_block (a:=⟨b,off+i,none⟩) (hb.block b h2)).trans k1,k2.belowN k3 hb,k3⟩
theorem LL.take {w:World} {N:Nat} {q:Option Addr} {n cap:Nat} {ls:List (List Int)} (h:LL w N q n cap ls) (m:Nat) (hm:m≤n):LL w N q m cap (ls.take m):=by
 refine⟨by rw[List.length_take,h.len];omega,by have:=h.le;omega,h.mx,h.nl,?_⟩
 rcases h.at_ with e|⟨b,off,h1,h2,h3,h4⟩
 · exact Or.inl (by rw[e];simp)
 ·
  refine Or.inr ⟨b,off,h1,h2,h3,fun i hi=>?_⟩
  have e9:(ls.take m).getD i []=ls.getD i []:=by rw[List.getD_eq_getElem?_getD,List.getD_eq_getElem?_getD,List.getElem?_take,if_pos hi]
  rw[e9];exact h4 i (by omega)
theorem LL.get {w:World} {N:Nat} {q:Option Addr} {n cap:Nat} {ls:List (List Int)} (h:LL w N q n cap ls) {i:Nat} (hi:i<n):∃b off qi ci zi,q=some ⟨b,off,none⟩∧b<w.heap.size∧zi∈ls∧ls[i]?=some zi∧w.cell? ⟨b,off+i,none⟩=some (.slice qi zi.length ci)∧IL w qi zi.length ci zi∧Lo N qi zi:=by
 have hl:=h.len;rcases h.at_ with e|⟨b,off,h1,h2,h3,h4⟩
 · rw[e]at hl;simp at hl;omega
 ·
  obtain⟨qi,ci,k1,k2,k3⟩:=h4 i hi;have hi':i<ls.length:=by omega
  have e9:ls.getD i []=ls[i]:=by rw[List.getD_eq_getElem?_getD,List.getElem?_eq_getElem hi'];rfl
  rw[e9]at k1 k2 k3;exact⟨b,off,qi,ci,ls[i],h1,h3,List.getElem_mem hi',List.getElem?_eq_getElem hi',k1,k2,k3⟩
def Few1 (c:List Int):Prop:=c.length≤40∧∀z∈c,Okl 9 z
def Few (ls:List (List Int)):Prop:=ls.length≤80∧∀c∈ls,Few1 c
def FwEnd (q:Option Addr) (n cap:Nat) (ls:List (List Int)) (e:Ending):Prop:=(e=.returned (.tuple #[.slice q n cap,.bool true])∧Few ls)∨(e=.returned (.tuple #[.slice none 0 0,.bool false])∧¬ Few ls)
set_option maxRecDepth 20000 in
set_option maxHeartbeats 8000000 in
theorem few_any (N:Nat) (q:Option Addr) (n cap:Nat) (ls:List (List Int)) (w:World) (h:LL w N q n cap ls) :
  Calls Tryz.prog 10 #[.slice q n cap] w fun e w'=>FwEnd q n cap ls e∧w'=w:=by
 have hnI:(n:Int)≤9223372036854775807:=by have h1:=h.le;have h2:=h.mx;unfold maxLen at h2;omega
 have bad:Hid (¬ Few ls→FwEnd q n cap ls (.returned (.tuple #[.slice none 0 0,.bool false]))):=fun h=>Or.inr ⟨rfl,h⟩
 have H:=hide h;by_cases h80:80<n
 ·
  have h80I:(80:Int)<(n:Int):=by omega
  have HB:=hide (bad.out (fun h9=>by have:=h9.1;rw[h.len]at this;omega))
  clear h bad;go_enter Tryz.func10,Tryz.ntmps10;go_wp2;go_ret2
  exact⟨HB.out,rfl⟩
 ·
  have h80I:¬ ((80:Int)<(n:Int)):=by omega
  clear h;go_enter Tryz.func10,Tryz.ntmps10;go_wp2;go_loopw [4] (fun v4 wr=>∃(i:Nat),v4=.int .i64 (i:Nat)∧i≤n∧Hid (w=wr∧∀j c,j<i→ls[j]?=some c→Few1 c)) (fun v _=>n - (intOf v).toNat)
  case atStart=>exact⟨0,rfl,Nat.zero_le _,rfl,fun j c hj=>absurd hj (Nat.not_lt_zero _)⟩
  case round =>
   rename World=>wl
   obtain⟨i,rfl,hi,HJ⟩:=hrel;obtain rfl:=HJ.out.1;by_cases hlt:i<n
   ·
    have hltI:(i:Int)<(n:Int):=by omega
    obtain⟨b,off,qi,ci,zi,rfl,lb,hmem,hget,hcell,il,lo⟩:=H.out.get hlt;obtain⟨ni,hni⟩:∃ni,zi.length=ni:=⟨_,rfl⟩;rw[hni]at hcell il;have hciI:(ni:Int)≤9223372036854775807:=by have h1:=il.le;have h2:=il.mx;unfold maxLen at h2;omega
    have HI:=hide (And.intro hmem (And.intro hget (And.intro hni il)));clear hmem hget hni il lo;by_cases h40:40<ni
    ·
     have h40I:(40:Int)<(ni:Int):=by omega
     have HB:=hide (bad.out (fun h9=>by have:=(h9.2 zi HI.out.1).1;rw[HI.out.2.2.1]at this;omega))
     clear bad;go_wp2;go_ret2
     exact⟨HB.out,rfl⟩
    ·
     have h40I:¬ ((40:Int)<(ni:Int)):=by omega
     go_wp2;go_loopw [5] (fun v5 wr=>∃(k:Nat),v5=.int .i64 (k:Nat)∧k≤ni∧Hid (w=wr∧∀j,j<k→Okl 9 (zi.getD j 0))) (fun v _=>ni - (intOf v).toNat)
     case atStart=>exact⟨0,rfl,Nat.zero_le _,rfl,fun j hj=>absurd hj (Nat.not_lt_zero _)⟩
     case round =>
      rename World=>wm
      obtain⟨k,rfl,hk,HK⟩:=hrel;obtain rfl:=HK.out.1;by_cases hlk:k<ni
      ·
       have hlkI:(k:Int)<(ni:Int):=by omega
       have hlz:zi.length=ni:=HI.out.2.2.1;rcases HI.out.2.2.2.at_ with h0|⟨bi,oi,rfl,lbi,hc⟩
       · rw[h0]at hlz;simp at hlz;omega
       ·
        have ck:=hc k hlk;obtain⟨z,hz⟩:∃z,zi.getD k 0=z:=⟨_,rfl⟩;have hzm:z∈zi:=by rw[← hz];exact getD_of (by omega)
        obtain⟨z1,z2⟩:=HI.out.2.2.2.ok z hzm;rw[hz]at ck;have HZ:=hide (And.intro hz hzm);have badz:Hid (¬ Okl 9 z→FwEnd (some ⟨b,off,none⟩) n cap ls (.returned (.tuple #[.slice none 0 0,.bool false]))):=fun hb=>bad.out (fun h9=>hb ((h9.2 zi HI.out.1).2 z HZ.out.2))
        clear hc hlz hz hzm;by_cases k1:z=0
        ·
         have HB:=hide (badz.out (fun h=>h.1 k1))
         subst k1;clear bad badz;go_wp2;go_ret2
         exact⟨HB.out,rfl⟩
        ·
         have k1B:(z == 0)=false:=by simpa using k1
         by_cases k3:9<z
         ·
          have HB:=hide (badz.out (fun h=>by have:=h.2.2;omega))
          clear bad badz;go_wp2;go_ret2
          exact⟨HB.out,rfl⟩
         ·
          by_cases k2:z < -9
          ·
           have HB:=hide (badz.out (fun h=>by have:=h.2.1;omega))
           clear bad badz;go_wp2;go_ret2
           exact⟨HB.out,rfl⟩
          ·
           have HE:Hid (∀j,j<k+1→Okl 9 (zi.getD j 0)):=fun j hj=>by
            by_cases e:j=k
            · subst e;rw[HZ.out.1];exact⟨k1,by omega,by omega⟩
            · exact HK.out.2 j (by omega)
           clear badz;go_wp2;go_roundw
           case rel=>exact⟨k+1,by go_num,by omega,by first|rfl|trivial,HE.out⟩
           case measure=>simp[intOf]<;>omega
      ·
       have hlkI:¬ ((k:Int)<(ni:Int)):=by omega
       obtain rfl:k=ni:=by omega
       have HE:Hid (∀j c,j<i+1→ls[j]?=some c→Few1 c):=fun j c hj hc=>by
        by_cases e:j=i
        ·
         subst e;have hh:=HI.out.2.1;rw[hh]at hc;injection hc with hc;subst hc;refine⟨by rw[HI.out.2.2.1];omega,fun z hz=>?_⟩
         obtain⟨p,hp,rfl⟩:=List.mem_iff_getElem.1 hz;have h9:=HK.out.2 p (by rw[← HI.out.2.2.1];exact hp)
         rwa [List.getD_eq_getElem?_getD,List.getElem?_eq_getElem hp]at h9
        · exact HJ.out.2 j c (by omega) hc
       go_wp2;go_roundw
       case rel=>exact⟨i+1,by go_num,by omega,by first|rfl|trivial,HE.out⟩
       case measure=>simp[intOf]<;>omega
   ·
    have hltI:¬ ((i:Int)<(n:Int)):=by omega
    obtain rfl:i=n:=by omega
    have HE:Hid (FwEnd q i cap ls (.returned (.tuple #[.slice q i cap,.bool true]))):=Or.inl ⟨rfl,by rw[H.out.len];omega,fun c hc=>by
     obtain⟨j,hj,rfl⟩:=List.mem_iff_getElem.1 hc;exact HJ.out.2 j _ (by rw[← H.out.len];exact hj) (List.getElem?_eq_getElem hj)⟩
    clear bad;go_wp2;go_ret2
    exact⟨HE.out,rfl⟩
end Sat
end Go.Proofs.YtbmkkhpoaicclabGreat
