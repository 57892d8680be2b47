/- The contracts of the document's Has, Same, size and ahead; it proves no statement of the seat. -/
import Derived.Test.YtbmkkhpoaicclabGreatJoin14Grows
namespace Go.Proofs.YtbmkkhpoaicclabGreat
open Go Go.RowKit
set_option linter.unusedVariables false
namespace Sat
open Euf (OL App)
set_option maxRecDepth 20000 in
set_option maxHeartbeats 4000000 in
theorem rhas_any (q:Option Addr) (n cap:Nat) (zs:List Int) (l:Int) (w:World) (h:IL w q n cap zs) :
  Calls Tryz.prog 83 #[.slice q n cap,.int .i64 l] w fun e w'=>BoolE e (l∈zs)∧w'=w:=by
 have hnI:(n:Int)≤9223372036854775807:=by have h1:=h.le;have h2:=h.mx;unfold maxLen at h2;omega
 have H:=hide h;clear h;go_enter Tryz.func83,Tryz.ntmps83;go_wp2;go_loopw [5] (fun v5 wr=>∃(i:Nat),v5=.int .i64 (i:Nat)∧i≤n∧Hid (w=wr∧∀j,j<i→zs.getD j 0≠l)) (fun v _=>n - (intOf v).toNat)
 case atStart=>exact⟨0,rfl,Nat.zero_le _,rfl,fun j hj=>absurd hj (Nat.not_lt_zero _)⟩
 case round =>
  rename World=>wl
  obtain⟨i,rfl,hi,HJ⟩:=hrel;obtain rfl:=HJ.out.1;by_cases hlt:i<n
  ·
   have hltI:(i:Int)<(n:Int):=by omega
   have hl:=H.out.len;rcases H.out.at_ with h0|⟨b,off,rfl,lb,hc⟩
   · rw[h0]at hl;simp at hl;omega
   ·
    have ci:=hc i hlt;obtain⟨z,hz⟩:∃z,zs.getD i 0=z:=⟨_,rfl⟩;have hzm:z∈zs:=by rw[← hz];exact getD_of (by omega)
    rw[hz]at ci;by_cases hzl:z=l
    ·
     have HE:Hid (BoolE (.returned (.bool true)) (l∈zs)):=BoolE.t (by rw[← hzl];exact hzm)
     have hB:(z == l)=true:=by simpa using hzl
     clear hc hl hz hzm hzl;go_wp2;go_ret
     exact⟨HE.out,rfl⟩
    ·
     have HE:Hid (∀j,j<i+1→zs.getD j 0≠l):=fun j hj=>by
      by_cases e:j=i
      · subst e;rw[hz];exact hzl
      · exact HJ.out.2 j (by omega)
     have hB:(z == l)=false:=by simpa using hzl
     clear hc hl hz hzm;go_wp2;go_roundw
     case rel=>exact⟨i+1,by go_num,by omega,by first|rfl|trivial,HE.out⟩
     case measure=>simp[intOf]<;>omega
  ·
   have hltI:¬ ((i:Int)<(n:Int)):=by omega
   obtain rfl:i=n:=by omega
   have HE:Hid (BoolE (.returned (.bool false)) (l∈zs)):=BoolE.f (fun hm=>by
    obtain⟨j,hj,e⟩:=List.mem_iff_getElem.1 hm;have h9:=HJ.out.2 j (by rw[← H.out.len];exact hj)
    rw[List.getD_eq_getElem?_getD,List.getElem?_eq_getElem hj]at h9;exact h9 e)
   go_wp2;go_ret
   exact⟨HE.out,rfl⟩
set_option maxRecDepth 20000 in
set_option maxHeartbeats 4000000 in
theorem rsame_any (qa:Option Addr) (na ca:Nat) (a:List Int) (qb:Option Addr) (nb cb:Nat) (b:List Int) (w:World) (ha:IL w qa na ca a) (hb:IL w qb nb cb b) :
  Calls Tryz.prog 20 #[.slice qa na ca,.slice qb nb cb] w fun e w'=>BoolE e (a=b)∧∃k,w'=w.drewN k:=by
 have hnI:(na:Int)≤9223372036854775807:=by have h1:=ha.le;have h2:=ha.mx;unfold maxLen at h2;omega
 have hnJ:(nb:Int)≤9223372036854775807:=by have h1:=hb.le;have h2:=hb.mx;unfold maxLen at h2;omega
 have H:=hide (And.intro ha hb);by_cases hne:na=nb
 ·
  subst hne;clear ha hb;go_enter Tryz.func20,Tryz.ntmps20;go_wp2;go_loopw [5] (fun v5 wr=>∃(i:Nat),v5=.int .i64 (i:Nat)∧i≤na∧Hid ((∃k,wr=w.drewN k)∧∀j,j<i→a.getD j 0=b.getD j 0)) (fun v _=>na - (intOf v).toNat)
  case atStart=>exact⟨0,rfl,Nat.zero_le _,⟨0,rfl⟩,fun j hj=>absurd hj (Nat.not_lt_zero _)⟩
  case round =>
   rename World=>wl
   obtain⟨i,rfl,hi,HJ⟩:=hrel;by_cases hlt:i<na
   ·
    have hltI:(i:Int)<(na:Int):=by omega
    have hla:=H.out.1.len;have hlb:=H.out.2.len;rcases H.out.1.at_ with h0|⟨ba,oa,rfl,lba,hca⟩
    · rw[h0]at hla;simp at hla;omega
    ·
     rcases H.out.2.at_ with h0|⟨bb,ob,rfl,lbb,hcb⟩
     · rw[h0]at hlb;simp at hlb;omega
     ·
      have cx:wl.cell? ⟨ba,oa+i,none⟩=some (.int .i64 (a.getD i 0)):=by obtain⟨k,hk⟩:=HJ.out.1;rw[hk];exact hca i hlt
      have cy:wl.cell? ⟨bb,ob+i,none⟩=some (.int .i64 (b.getD i 0)):=by obtain⟨k,hk⟩:=HJ.out.1;rw[hk];exact hcb i hlt
      have la:ba<wl.heap.size:=by obtain⟨k,hk⟩:=HJ.out.1;rw[hk];exact lba
      have lb:bb<wl.heap.size:=by obtain⟨k,hk⟩:=HJ.out.1;rw[hk];exact lbb
      obtain⟨x,hx⟩:∃x,a.getD i 0=x:=⟨_,rfl⟩;obtain⟨y,hy⟩:∃y,b.getD i 0=y:=⟨_,rfl⟩;rw[hx]at cx;rw[hy]at cy;have HXY:=hide (And.intro hx hy);clear hx hy hca hcb lba lbb;by_cases hxy:x=y
      ·
       subst hxy;have HE:Hid (∀nq,(∃k,wl.drewN nq=w.drewN k)∧∀j,j<i+1→a.getD j 0=b.getD j 0):=fun nq=>by
        obtain⟨k,hk⟩:=HJ.out.1;refine⟨⟨k+nq,by rw[hk,World.drewN_drewN]⟩,fun j hj=>?_⟩
        by_cases e:j=i
        · subst e;rw[HXY.out.1,HXY.out.2]
        · exact HJ.out.2 j (by omega)
       clear hla hlb;go_wp2_with fail
       go_quiet (fail)
       go_wp2;go_roundw
       case rel=>exact⟨i+1,by go_num,by omega,HE.out _⟩
       case measure=>simp[intOf]<;>omega
      ·
       have hB:(x != y)=true:=by simpa using hxy
       have HE:Hid (∀nq,BoolE (.returned (.bool false)) (a=b)∧∃k,wl.drewN nq=w.drewN k):=fun nq=>by
        obtain⟨k,hk⟩:=HJ.out.1;refine⟨BoolE.f (fun e=>hxy ?_),k+nq,by rw[hk,World.drewN_drewN]⟩
        rw[← HXY.out.1,← HXY.out.2,e]
       clear hla hlb hxy;go_wp2_with fail
       go_quiet (fail)
       go_wp2;go_ret
       exact HE.out _
   ·
    have hltI:¬ ((i:Int)<(na:Int)):=by omega
    obtain rfl:i=na:=by omega
    have HE:Hid (BoolE (.returned (.bool true)) (a=b)∧∃k,wl=w.drewN k):=by
     refine⟨BoolE.t (List.ext_getElem (by rw[H.out.1.len,H.out.2.len]) (fun j h1 h2=>?_)),HJ.out.1⟩
     have h9:=HJ.out.2 j (by rw[← H.out.1.len];exact h1)
     rw[List.getD_eq_getElem?_getD,List.getD_eq_getElem?_getD,List.getElem?_eq_getElem h1,List.getElem?_eq_getElem h2]at h9;exact h9
    go_wp2;go_ret
    exact HE.out
 ·
  have HE:Hid (BoolE (.returned (.bool false)) (a=b)):=BoolE.f (fun e=>hne (by rw[← ha.len,← hb.len,e]))
  have hI:¬ ((na:Int)=(nb:Int)):=by omega
  have hB:((na:Int) != (nb:Int))=true:=by simpa using hI
  clear ha hb hne;go_enter Tryz.func20,Tryz.ntmps20;go_wp2;go_ret
  exact⟨HE.out,0,rfl⟩
def rz (x:Int):Int:=if x=-9223372036854775808 then x else (x.natAbs:Int)
theorem rsize_any (x:Int) (w:World) (hx:InI x):Calls Tryz.prog 74 #[.int .i64 x] w fun e w'=>e=.returned (.int .i64 (rz x))∧w'=w:=by
 obtain⟨h1,h2⟩:=hx;by_cases h0:x<0
 ·
  have HE:Hid (IntKind.i64.wrap (-x)=rz x):=by
   show _=_
   unfold rz;by_cases he:x=-9223372036854775808
   · rw[if_pos he,he];decide
   · rw[if_neg he,IntWalk.i64_left,IntWalk.wrap64_in _ (by omega)];omega
  have hw:=HE.out;generalize rz x=r at *;have hw2:wrap64 (-x)=r:=by rw[← IntWalk.i64_left];exact hw
  go_enter Tryz.func74,Tryz.ntmps74;go_wp2;go_ret
  exact⟨rfl,rfl⟩
 ·
  have HE:Hid (rz x=x):=by show _=_;unfold rz;rw[if_neg (by omega)];omega
  go_enter Tryz.func74,Tryz.ntmps74;go_wp2;go_ret
  exact⟨by rw[HE.out];rfl,rfl⟩
def bw (a b:Int):Prop:=rz a<rz b∨(rz a=rz b∧a<b)
set_option maxRecDepth 20000 in
theorem rahead_any (x y:Int) (w:World) (hx:InI x) (hy:InI y):Calls Tryz.prog 42 #[.int .i64 x,.int .i64 y] w fun e w'=>BoolE e (bw x y)∧w'=w:=by
 have HX:=hide (rsize_any x · hx);have HY:=hide (rsize_any y · hy);obtain⟨rx,hrx⟩:∃rx,rz x=rx:=⟨_,rfl⟩;obtain⟨ry,hry⟩:∃ry,rz y=ry:=⟨_,rfl⟩;have HBW:Hid (bw x y↔rx<ry∨(rx=ry∧x<y)):=by show _↔_;unfold bw;rw[hrx,hry]
 rw[hrx]at HX;rw[hry]at HY;clear hrx hry hx hy;by_cases h1:rx<ry
 ·
  have HE:Hid (BoolE (.returned (.bool true)) (bw x y)):=BoolE.t (HBW.out.2 (Or.inl h1));go_enter Tryz.func42,Tryz.ntmps42;go_wp2_with fail
  refine (HX.out _).mono ?_;rintro e w9 ⟨rfl,hw9⟩;obtain rfl:=hw9.symm;go_wp2_with fail
  refine (HY.out _).mono ?_;rintro e w9 ⟨rfl,hw9⟩;obtain rfl:=hw9.symm;go_wp2;go_ret
  exact⟨HE.out,rfl⟩
 ·
  by_cases h2:rx=ry
  ·
   subst h2;by_cases h3:x<y
   ·
    have HE:Hid (BoolE (.returned (.bool true)) (bw x y)):=BoolE.t (HBW.out.2 (Or.inr ⟨rfl,h3⟩));go_enter Tryz.func42,Tryz.ntmps42;go_wp2_with fail
    refine (HX.out _).mono ?_;rintro e w9 ⟨rfl,hw9⟩;obtain rfl:=hw9.symm;go_wp2_with fail
    refine (HY.out _).mono ?_;rintro e w9 ⟨rfl,hw9⟩;obtain rfl:=hw9.symm;go_wp2_with fail
    refine (HX.out _).mono ?_;rintro e w9 ⟨rfl,hw9⟩;obtain rfl:=hw9.symm;go_wp2_with fail
    refine (HY.out _).mono ?_;rintro e w9 ⟨rfl,hw9⟩;obtain rfl:=hw9.symm;go_wp2;go_ret
    exact⟨HE.out,rfl⟩
   ·
    have HE:Hid (BoolE (.returned (.bool false)) (bw x y)):=BoolE.f (fun h=>by rcases HBW.out.1 h with h|h<;>omega)
    have h3D:decide (x<y)=false:=by simpa using h3
    go_enter Tryz.func42,Tryz.ntmps42;go_wp2_with fail
    refine (HX.out _).mono ?_;rintro e w9 ⟨rfl,hw9⟩;obtain rfl:=hw9.symm;go_wp2_with fail
    refine (HY.out _).mono ?_;rintro e w9 ⟨rfl,hw9⟩;obtain rfl:=hw9.symm;go_wp2_with fail
    refine (HX.out _).mono ?_;rintro e w9 ⟨rfl,hw9⟩;obtain rfl:=hw9.symm;go_wp2_with fail
    refine (HY.out _).mono ?_;rintro e w9 ⟨rfl,hw9⟩;obtain rfl:=hw9.symm;go_wp2;go_ret
    exact⟨HE.out,rfl⟩
  ·
   have HE:Hid (BoolE (.returned (.bool false)) (bw x y)):=BoolE.f (fun h=>by rcases HBW.out.1 h with h|h<;>omega)
   have h2B:(rx == ry)=false:=by simpa using h2
   have h1D:decide (rx<ry)=false:=by simpa using h1
   go_enter Tryz.func42,Tryz.ntmps42;go_wp2_with fail
   refine (HX.out _).mono ?_;rintro e w9 ⟨rfl,hw9⟩;obtain rfl:=hw9.symm;go_wp2_with fail
   refine (HY.out _).mono ?_;rintro e w9 ⟨rfl,hw9⟩;obtain rfl:=hw9.symm;go_wp2_with fail
   refine (HX.out _).mono ?_;rintro e w9 ⟨rfl,hw9⟩;obtain rfl:=hw9.symm;go_wp2_with fail
   refine (HY.out _).mono ?_;rintro e w9 ⟨rfl,hw9⟩;obtain rfl:=hw9.symm;go_wp2;go_ret
   exact⟨HE.out,rfl⟩
end Sat
end Go.Proofs.YtbmkkhpoaicclabGreat
