/- The contract of slices.Equal; it proves no statement of the seat. -/
import Derived.Test.YtbmkkhpoaicclabGreatSatLlJGrows
import Derived.Test.YtbmkkhpoaicclabGreatSatRhJGrows
namespace Go.Proofs.YtbmkkhpoaicclabGreat
open Go Go.RowKit
set_option linter.unusedVariables false
namespace Sat
open Euf (OL App)
set_option maxRecDepth 20000 in
set_option maxHeartbeats 4000000 in
theorem equal_any (qa:Option Addr) (na ca:Nat) (a:List Int) (qb:Option Addr) (nb cb:Nat) (b:List Int) (w:World) (ha:IL w qa na ca a) (hb:IL w qb nb cb b) :
  Calls Tryz.prog 57 #[.slice qa na ca,.slice qb nb cb] w fun e w'=>BoolE e (a=b)∧∃k,w'=w.drewN k:=by
 have hnI:(na:Int)≤9223372036854775807:=by have h1:=ha.le;have h2:=ha.mx;unfold maxLen at h2;omega
 have hnJ:(nb:Int)≤9223372036854775807:=by have h1:=hb.le;have h2:=hb.mx;unfold maxLen at h2;omega
 have H:=hide (And.intro ha hb);by_cases hne:na=nb
 ·
  subst hne;clear ha hb;go_enter Tryz.func57,Tryz.ntmps57;go_wp2;go_loopw [13] (fun v13 wr=>∃(i:Nat),v13=.int .i64 (i:Nat)∧i≤na∧Hid ((∃k,wr=w.drewN k)∧∀j,j<i→a.getD j 0=b.getD j 0)) (fun v _=>na - (intOf v).toNat)
  case atStart=>exact⟨0,rfl,Nat.zero_le _,⟨0,rfl⟩,fun j hj=>absurd hj (Nat.not_lt_zero _)⟩
  case round =>
   rename World=>wl
   obtain⟨i,rfl,hi,HJ⟩:=hrel;by_cases hlt:i<na
   ·
    have hltI:(i:Int)<(na:Int):=by omega
    have hla:=H.out.1.len;have hlb:=H.out.2.len;rcases H.out.1.at_ with h0|⟨ba,oa,rfl,lba,hca⟩
    · rw[h0]at hla;simp at hla;omega
    ·
     rcases H.out.2.at_ with h0|⟨bb,ob,rfl,lbb,hcb⟩
     · rw[h0]at hlb;simp at hlb;omega
     ·
      have cx:wl.cell? ⟨ba,oa+i,none⟩=some (.int .i64 (a.getD i 0)):=by obtain⟨k,hk⟩:=HJ.out.1;rw[hk];exact hca i hlt
      have cy:wl.cell? ⟨bb,ob+i,none⟩=some (.int .i64 (b.getD i 0)):=by obtain⟨k,hk⟩:=HJ.out.1;rw[hk];exact hcb i hlt
      have la:ba<wl.heap.size:=by obtain⟨k,hk⟩:=HJ.out.1;rw[hk];exact lba
      have lb:bb<wl.heap.size:=by obtain⟨k,hk⟩:=HJ.out.1;rw[hk];exact lbb
      obtain⟨x,hx⟩:∃x,a.getD i 0=x:=⟨_,rfl⟩;obtain⟨y,hy⟩:∃y,b.getD i 0=y:=⟨_,rfl⟩;rw[hx]at cx;rw[hy]at cy;have HXY:=hide (And.intro hx hy);clear hx hy hca hcb lba lbb;by_cases hxy:x=y
      ·
       subst hxy;have HE:Hid (∀nq,(∃k,wl.drewN nq=w.drewN k)∧∀j,j<i+1→a.getD j 0=b.getD j 0):=fun nq=>by
        obtain⟨k,hk⟩:=HJ.out.1;refine⟨⟨k+nq,by rw[hk,World.drewN_drewN]⟩,fun j hj=>?_⟩
        by_cases e:j=i
        · subst e;rw[HXY.out.1,HXY.out.2]
        · exact HJ.out.2 j (by omega)
       clear hla hlb;go_wp2_with fail
       go_quiet (fail)
       go_wp2;go_roundw
       case rel=>exact⟨i+1,by go_num,by omega,HE.out _⟩
       case measure=>simp[intOf]<;>omega
      ·
       have hB:(x != y)=true:=by simpa using hxy
       have HE:Hid (∀nq,BoolE (.returned (.bool false)) (a=b)∧∃k,wl.drewN nq=w.drewN k):=fun nq=>by
        obtain⟨k,hk⟩:=HJ.out.1;refine⟨BoolE.f (fun e=>hxy ?_),k+nq,by rw[hk,World.drewN_drewN]⟩
        rw[← HXY.out.1,← HXY.out.2,e]
       clear hla hlb hxy;go_wp2_with fail
       go_quiet (fail)
       go_wp2;go_ret
       exact HE.out _
   ·
    have hltI:¬ ((i:Int)<(na:Int)):=by omega
    obtain rfl:i=na:=by omega
    have HE:Hid (BoolE (.returned (.bool true)) (a=b)∧∃k,wl=w.drewN k):=by
     refine⟨BoolE.t (List.ext_getElem (by rw[H.out.1.len,H.out.2.len]) (fun j h1 h2=>?_)),HJ.out.1⟩
     have h9:=HJ.out.2 j (by rw[← H.out.1.len];exact h1)
     rw[List.getD_eq_getElem?_getD,List.getD_eq_getElem?_getD,List.getElem?_eq_getElem h1,List.getElem?_eq_getElem h2]at h9;exact h9
    go_wp2;go_ret
    exact HE.out
 ·
  have HE:Hid (BoolE (.returned (.bool false)) (a=b)):=BoolE.f (fun e=>hne (by rw[← ha.len,← hb.len,e]))
  have hI:¬ ((na:Int)=(nb:Int)):=by omega
  have hB:((na:Int) != (nb:Int))=true:=by simpa using hI
  clear ha hb hne;go_enter Tryz.func57,Tryz.ntmps57;go_wp2;go_ret
  exact⟨HE.out,0,rfl⟩
end Sat
end Go.Proofs.YtbmkkhpoaicclabGreat
