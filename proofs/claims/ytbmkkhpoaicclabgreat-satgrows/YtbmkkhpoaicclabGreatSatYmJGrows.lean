/- The page's example asked, in the law's words; it proves no statement of the seat. -/
import Derived.Test.YtbmkkhpoaicclabGreatSatYlJGrows
import Derived.Test.YtbmkkhpoaicclabGreatSatLs2JGrows
namespace Go.Proofs.YtbmkkhpoaicclabGreat
open Go Go.RowKit
set_option linter.unusedVariables false
namespace Sat
def SvM (N g:Nat) (A:Nat) (w0 w:World):Prop:=∃d a U A',SW w g d a∧Idl d ex3 A' U∧d.nv=9∧(∀b,Fo g d a b→N≤b)∧Below N w0 w∧A'≤A∧d.mo.length=9∧d.mo.getD 0 false=true∧d.mo.getD 1 false=true
def SvU (N g A:Nat) (w0 w:World):Prop:=∃d a,SW w g d a∧Rfd d ex4∧d.nc≤A+120∧d.nv=9∧(∀b,Fo g d a b→N≤b)∧Below N w0 w
theorem SvR.solve3 {N g A:Nat} {w0 w:World} (h:SvR N g ex3 A w0 w) (hA:A≤80000000) :
  Calls Tryz.prog 15 #[.pointer (some ⟨g,0,none⟩),.int .i64 100] w fun e w'=>e=.returned (.int .i64 1)∧SvM N g (A+100) w0 w':=by
 obtain⟨d,a,U,s,i,hn,hf,bl⟩:=h;refine (solve_ex3 g d a A U w s i.w hn hA).mono ?_;rintro e w' ⟨rfl,d',a',U',A',h1,h2,h3,h4,h5,h6,h7⟩;obtain⟨k1,k2⟩:=h2.low (Nat.le_trans (hf g (Or.inl rfl)) (Nat.le_of_lt s.lt)) hf;exact⟨rfl,d',a',U',A',h1,h6,h3,k2,bl.trans k1,h5,h7⟩
theorem SvR.solve4 {N g A:Nat} {w0 w:World} (h:SvR N g ex4 A w0 w) (hA:A≤80000000) :
  Calls Tryz.prog 15 #[.pointer (some ⟨g,0,none⟩),.int .i64 100] w fun e w'=>e=.returned (.int .i64 2)∧SvU N g A w0 w':=by
 obtain⟨d,a,U,s,i,hn,hf,bl⟩:=h;refine (solve_ex4 g d a A U w s i.w hn hA).mono ?_;rintro e w' ⟨rfl,d',a',h1,h2,h3,h4,h5,h6⟩;obtain⟨k1,k2⟩:=h2.low (Nat.le_trans (hf g (Or.inl rfl)) (Nat.le_of_lt s.lt)) hf;exact⟨rfl,d',a',h1,h5,h6,h3,k2,bl.trans k1⟩
theorem SvM.svr {N g A:Nat} {w0 w:World} (h:SvM N g A w0 w):∃A',A'≤A∧SvR N g ex3 A' w0 w:=by
 obtain⟨d,a,U,A',h1,h2,h3,h4,h5,h6,_⟩:=h;exact⟨A',h6,d,a,U,h1,h2,h3,h4,h5⟩
theorem SvM.below {N g A:Nat} {w0 w w':World} (h:SvM N g A w0 w) (hb:Below w.heap.size w w'):SvM N g A w0 w':=by
 obtain⟨d,a,U,A',h1,h2,h3,h4,h5,h6⟩:=h;exact⟨d,a,U,A',h1.below hb,h2,h3,h4,h5.trans (hb.mono (Nat.le_trans (h4 g (Or.inl rfl)) (Nat.le_of_lt h1.lt))),h6⟩
theorem SvM.model {N g A:Nat} {w0 w:World} (h:SvM N g A w0 w) :
  Calls Tryz.prog 24 #[.pointer (some ⟨g,0,none⟩)] w fun e w'=>∃b c,e=.returned (.slice (some ⟨b,0,none⟩) 9 c)∧9≤c∧w'.cell? ⟨b,0,none⟩=some (.bool true)∧w'.cell? ⟨b,1,none⟩=some (.bool true)∧b<w'.heap.size∧SvM N g A w0 w':=by
 obtain⟨d,a,U,A',h1,h2,h3,h4,h5,h6,h7,h8,h9⟩:=h;refine (model_any g d a w h1 (by omega)).mono ?_
 rintro e w' ⟨v,rfl,k1,k2,k3⟩;have hm:SvM N g A w0 w':=SvM.below ⟨d,a,U,A',h1,h2,h3,h4,h5,h6,h7,h8,h9⟩ k3;rw[h7]at k1;obtain⟨b,c,rfl,q1,q2⟩:=k1.open 0 (by decide)
 have c0:=k1.cell (i:=0) (j:=0) (by decide) (by decide)
 have c1:=k1.cell (i:=1) (j:=0) (by decide) (by decide)
 rw[h8]at c0;rw[h9]at c1;exact⟨b,c,rfl,q1,c0,c1,k1.lt rfl,hm⟩
end Sat
end Go.Proofs.YtbmkkhpoaicclabGreat
