/- Grow, on a solver without clauses; it proves no statement of the seat. -/
import Derived.Test.YtbmkkhpoaicclabGreatJoin25Grows
import Derived.Test.YtbmkkhpoaicclabGreatSatLs2JGrows
namespace Go.Proofs.YtbmkkhpoaicclabGreat
open Go Go.RowKit
set_option linter.unusedVariables false
namespace Sat
open Euf (OL App)
theorem FRs.svr {N g:Nat} {w0 w:World} (h:FRs N g 9 w0 w):SvR N g [] 0 w0 w:=by
 obtain⟨v6,v7,v8,v13,v14,f,hg,ow,bl⟩:=h;exact⟨fresh 9,_,[],f.sw,fresh_idl 9,rfl,ow.fo hg,bl⟩
theorem FR.mo_ {w:World} {g c nv:Nat} {v6 v7 v8 v13 v14:Value} (h:FR w g c nv v6 v7 v8 v13 v14):FR (w.setCell ⟨g,18,none⟩ (.slice none 0 0)) g c nv v6 v7 v8 v13 v14:=by
 have hb:(w.setCell ⟨g,18,none⟩ (.slice none 0 0)).heap[g]?=some (.cells (cells0 v6 v7 v8 v13 v14 nv) 78 (0,0)):=heap_setCell_same w g 18 _ 78 _ h.bk;have st:∀{sz:Nat} {e:TypeId} {v:Value} {k:Nat} {f:Nat→List Value},OL sz e w v k f→e≠78→OL sz e (w.setCell ⟨g,18,none⟩ (.slice none 0 0)) v k f:=fun ho he=>ho.stay (fun b hb9=>heap_setCell_other w ⟨g,18,none⟩ b _ (fun e9=>ho.neB h.bk he (by rw[hb9,e9])))
 exact⟨hb,st h.o6 (by decide),st h.o7 (by decide),st h.o8 (by decide),st h.o13 (by decide),st h.o14 (by decide)⟩
set_option maxRecDepth 20000 in
theorem growF_bad {N g nv:Nat} {w0 w:World} (n:Int) (h:FRs N g nv w0 w) (hn:n<(nv:Int)∨4096<n):Calls Tryz.prog 12 #[.pointer (some ⟨g,0,none⟩),.int .i64 n] w fun e w'=>e=.returned (.int .i64 1)∧w'=w:=by
 obtain⟨v6,v7,v8,v13,v14,f,-⟩:=h;have c0:w.cell? ⟨g,0,none⟩=some (.int .i64 (nv:Nat)):=cell_of_row w g 0 _ _ (0,0) f.bk;have hlg:=f.lt;clear f;by_cases h0:n<(nv:Int)
 ·
  clear hn;go_enter Tryz.func12,Tryz.ntmps12;go_wp2;go_ret
  exact⟨rfl,rfl⟩
 ·
  have h4:4096<n:=by omega
  clear hn;go_enter Tryz.func12,Tryz.ntmps12;go_wp2;go_ret
  exact⟨rfl,rfl⟩
set_option maxRecDepth 20000 in
theorem growF_any {N g nv:Nat} {w0 w:World} (n:Nat) (h:FRs N g nv w0 w) (h1:nv≤n) (h2:n≤4096):Calls Tryz.prog 12 #[.pointer (some ⟨g,0,none⟩),.int .i64 (n:Nat)] w fun e w'=>e=.returned (.int .i64 0)∧FRs N g n w0 w':=by
 obtain⟨v6,v7,v8,v13,v14,f,hg,ow,bl⟩:=h;have c0:w.cell? ⟨g,0,none⟩=some (.int .i64 (nv:Nat)):=cell_of_row w g 0 _ _ (0,0) f.bk;have hlg:=f.lt;have HR:=hide (roomF_any N g (nv+1) (n - nv) nv n v6 v7 v8 v13 v14 w f (by omega) (by omega))
 have HK:=hide (And.intro hg (And.intro ow (And.intro bl hlg)));have h1I:¬ ((n:Int)<(nv:Int)):=by omega
 have h2I:¬ (4096<(n:Int)):=by omega
 have HN:=hide (And.intro h1 h2);clear f hg ow bl h1 h2;go_enter Tryz.func12,Tryz.ntmps12;go_wp2_with fail
 refine HR.out.mono ?_;rintro e w1 ⟨rfl,u6,u7,u8,u13,u14,f1,k1⟩;rw[show nv+1+(n - nv)=n+1 by have:=HN.out.1;omega]at f1
 obtain⟨o1,o2⟩:=k1 (Nat.le_trans HK.out.1 (Nat.le_of_lt HK.out.2.2.2)) HK.out.1 HK.out.2.1;have c18:w1.cell? ⟨g,18,none⟩=some (.slice none 0 0):=cell_of_row w1 g 18 _ _ (0,0) f1.bk;have f18:w1.frozen? ⟨g,18,none⟩=false:=frozen_of_row w1 g 18 _ _ f1.bk;have l1:=f1.lt;have HE:Hid (FRs N g n w0 (w1.setCell ⟨g,18,none⟩ (.slice none 0 0))):=⟨u6,u7,u8,u13,u14,f1.mo_,HK.out.1,o1,(HK.out.2.2.1.trans o2).trans ⟨rfl,rfl,rfl,by simp,fun b hb=>heap_setCell_other w1 ⟨g,18,none⟩ b _ (by show b≠g;have:=HK.out.1;omega)⟩⟩
 clear f1 k1 o1 o2 HR;go_wp2;go_ret
 exact⟨rfl,HE.out⟩
theorem varsF_any {N g nv:Nat} {w0 w:World} (h:FRs N g nv w0 w):Calls Tryz.prog 13 #[.pointer (some ⟨g,0,none⟩)] w fun e w'=>e=.returned (.int .i64 (nv:Nat))∧w'=w:=by
 obtain⟨v6,v7,v8,v13,v14,f,-⟩:=h;have c0:w.cell? ⟨g,0,none⟩=some (.int .i64 (nv:Nat)):=cell_of_row w g 0 _ _ (0,0) f.bk;have hlg:=f.lt;clear f;go_enter Tryz.func13,Tryz.ntmps13;go_wp2;go_ret
 exact⟨rfl,rfl⟩
end Sat
end Go.Proofs.YtbmkkhpoaicclabGreat
