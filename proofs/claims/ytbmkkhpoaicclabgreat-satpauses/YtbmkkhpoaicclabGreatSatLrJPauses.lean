/- The document's Luby; SatPauses walked: it answers true; it proves no statement of the seat. -/
import Derived.Test.YtbmkkhpoaicclabGreatSatAkJPauses
import Derived.Test.YtbmkkhpoaicclabGreatJoin20Pauses
import Derived.Test.YtbmkkhpoaicclabGreatSatOqJPauses
namespace Go.Proofs.YtbmkkhpoaicclabGreat
open Go Go.RowKit
set_option linter.unusedVariables false
namespace Sat
open Euf (OL App)
def RlE (n:Nat) (e:Ending):Prop:=(n=0∧e=.returned (.int .i64 0))∨∃ r, Lub n r∧e=.returned (.int .i64 (r:Nat))
theorem pow62 {k n:Nat} (h:2 ^ k≤n) (hn:n < 9223372036854775808):2 ^ k≤4611686018427387904:=by
 have h1:k < 63:=(Nat.pow_lt_pow_iff_right (a:=2) (by decide)).1 (Nat.lt_of_le_of_lt h hn)
 exact Nat.pow_le_pow_right (by decide) (by omega:k≤62)
set_option maxRecDepth 20000 in
set_option maxHeartbeats 4000000 in
theorem rluby_any (n:Nat):∀ (w:World),n < 9223372036854775808→Calls Tryz.prog 26 #[.int .i64 (n:Nat)] w fun e w'=>RlE n e∧w'=w:=by
 induction n using Nat.strongRecOn with
 | _ n ih =>
  intro w hn;by_cases h1:n < 1
  ·
   obtain rfl:n=0:=by omega
   go_enter Tryz.func26,Tryz.ntmps26;go_wp2_with fail
   go_ret
   exact ⟨Or.inl ⟨rfl,rfl⟩,rfl⟩
  ·
   have h1I:¬ ((n:Int) < 1):=by omega
   obtain ⟨m,hm⟩:∃ m,n / 2=m:=⟨_,rfl⟩;have hmI:(n:Int) / 2=(m:Int):=by omega
   have hnI:(n:Int)≤9223372036854775807:=by omega
   have hn0:0≤(n:Int):=by omega
   have HI:=hide (And.intro hm (And.intro hn ih));clear ih hn hm;go_enter Tryz.func26,Tryz.ntmps26;go_wp2_with fail
   go_loopw [3] (fun v3 wr=>∃ (p:Nat),v3=.int .i64 (p:Nat)∧Hid ((∃ k,p=2 ^ k)∧p≤n∧1≤p∧w=wr)) (fun v _=>n - (intOf v).toNat)
   case atStart=>exact ⟨1,rfl,⟨0,rfl⟩,by omega,by omega,rfl⟩
   case round =>
    rename World=>wl
    obtain ⟨p,rfl,HP⟩:=hrel;obtain rfl:=HP.out.2.2.2;have hp0:(1:Int)≤p:=by have:=HP.out.2.2.1;omega
    have hp62:(p:Int)≤4611686018427387904:=by
     obtain ⟨k,hk⟩:=HP.out.1;have h9:=pow62 (k:=k) (n:=n) (by rw [← hk];exact HP.out.2.1) HI.out.2.1
     omega
    by_cases hlt:p≤m
    ·
     have hltI:(p:Int)≤(m:Int):=by omega
     have HE:Hid ((∃ k,2*p=2 ^ k)∧2*p≤n∧1≤2*p):=by
      obtain ⟨k,hk⟩:=HP.out.1;have:=HI.out.1;exact ⟨⟨k + 1,by rw [hk,Nat.pow_succ];omega⟩,by omega,by omega⟩
     go_wp2_with fail
     go_roundw
     case rel=>exact ⟨2*p,by go_num,HE.out.1,HE.out.2.1,HE.out.2.2,by first | rfl | trivial⟩
     case measure =>
      have:=HE.out.2.1;simp [intOf] <;> omega
    ·
     have hltI:¬ ((p:Int)≤(m:Int)):=by omega
     have h2p:n < 2*p:=by have:=HI.out.1;omega
     by_cases he:n=2*p - 1
     ·
      have heI:(p:Int) - 1 + p=(n:Int):=by omega
      have HE:Hid (RlE n (.returned (.int .i64 (p:Nat)))):=by
       obtain ⟨k,hk⟩:=HP.out.1;refine Or.inr ⟨p,?_,rfl⟩;rw [hk];exact Lub.top n k (by rw [Nat.pow_succ,← hk];omega)
      clear he;go_wp2_with fail
      go_ret
      exact ⟨HE.out,rfl⟩
     ·
      have hpn:(p:Int)≤n:=by have:=HP.out.2.1;omega
      have heI:¬ ((n:Int)=(p:Int) - 1 + p):=by omega
      obtain ⟨y,hy⟩:∃ y:Nat,n - p + 1=y:=⟨_,rfl⟩;have hyI:(n:Int) - p + 1=y:=by omega
      have hyn:y < n:=by
       have:=HP.out.2.1;omega
      have HR:=hide (HI.out.2.2 y hyn w (by have:=HI.out.2.1;omega))
      have HE:Hid (∀ e,RlE y e→RlE n e):=by
       intro e h;obtain ⟨k,hk⟩:=HP.out.1;have hle:=HP.out.2.1;rcases h with ⟨h0,-⟩ | ⟨r,hr,rfl⟩
       · omega
       ·
        refine Or.inr ⟨r,Lub.low n k r (by rw [← hk];exact hle) (by rw [Nat.pow_succ,← hk];omega) ?_,rfl⟩
        rw [← hk,show n + 1 - p=y by omega]
        exact hr
      have HN:Hid (RlE y=RlE y):=rfl;clear hy;go_wp2_with fail
      refine HR.out.mono ?_;rintro e w9 ⟨he9,hw9⟩;obtain rfl:=hw9.symm;obtain ⟨z,rfl⟩:∃ z:Int,e=.returned (.int .i64 z):=by
       rcases he9 with ⟨-,rfl⟩ | ⟨r,-,rfl⟩
       · exact ⟨_,rfl⟩
       · exact ⟨_,rfl⟩
      have HZ:=hide (HE.out _ he9);clear he9 HR;go_wp2_with fail
      go_ret
      exact ⟨HZ.out,rfl⟩
theorem rluby_low (n:Int) (w:World) (hn:n < 1):Calls Tryz.prog 26 #[.int .i64 n] w fun e w'=>e=.returned (.int .i64 0)∧w'=w:=by
 go_enter Tryz.func26,Tryz.ntmps26;go_wp2_with fail
 go_ret
 exact ⟨rfl,rfl⟩
theorem luby_low (n:Int) (w:World) (hn:n < 1):Calls Tryz.prog 25 #[.int .i64 n] w fun e w'=>e=.returned (.int .i64 0)∧w'=w:=by
 go_enter Tryz.func25,Tryz.ntmps25;go_wp2_with fail
 go_ret
 exact ⟨rfl,rfl⟩
set_option maxRecDepth 20000 in
theorem satPauses_any (n:Int) (w:World) (hn:InI n):Calls Tryz.prog 6 #[.int .i64 n] w fun e w'=>e=.returned (.bool true)∧Below w.heap.size w w':=by
 by_cases h1:n < 1
 ·
  have HL:=hide (fun w=>luby_low n w h1)
  have HR:=hide (fun w=>rluby_low n w h1)
  clear h1;go_enter Tryz.func6,Tryz.ntmps6;go_wp2_with fail
  refine (awake_any w).mono ?_;rintro e w1 ⟨rfl,b1⟩;have HB1:=hide b1;clear b1;go_wp2_with fail
  refine (HL.out w1).mono ?_;rintro e w9 ⟨rfl,hw9⟩;obtain rfl:=hw9.symm;go_wp2_with fail
  refine (HR.out w1).mono ?_;rintro e w9 ⟨rfl,hw9⟩;obtain rfl:=hw9.symm;go_wp2_with fail
  go_ret
  exact ⟨rfl,HB1.out⟩
 ·
  obtain ⟨m,rfl⟩:∃ m:Nat,n=(m:Int):=⟨n.toNat,by omega⟩
  have hm1:1≤m:=by omega
  have hm2:m < 9223372036854775808:=by have:=hn.2;omega
  have HL:=hide (fun w=>luby_any m w hm1 hm2)
  have HR:=hide (fun w=>rluby_any m w hm2)
  have HM:=hide hm1;clear h1 hn hm1 hm2;go_enter Tryz.func6,Tryz.ntmps6;go_wp2_with fail
  refine (awake_any w).mono ?_;rintro e w1 ⟨rfl,b1⟩;have HB1:=hide b1;clear b1;go_wp2_with fail
  refine (HL.out w1).mono ?_;rintro e w9 ⟨⟨r,hr,-,rfl⟩,hw9⟩;obtain rfl:=hw9.symm;have HLR:=hide hr;clear hr;go_wp2_with fail
  refine (HR.out w1).mono ?_;rintro e w9 ⟨he,hw9⟩;obtain rfl:=hw9.symm;obtain rfl:e=.returned (.int .i64 (r:Nat)):=by
   rcases he with ⟨h0,-⟩ | ⟨s,hs,rfl⟩
   · have:=HM.out;omega
   · rw [HLR.out.one hs]
  clear he;go_wp2_with fail
  go_ret
  exact ⟨rfl,HB1.out⟩
end Sat
end Go.Proofs.YtbmkkhpoaicclabGreat
