/- A model as bits; a solver asked, in the law's words; it proves no statement of the seat. -/
import Derived.Test.YtbmkkhpoaicclacGreatSatHdJStays
import Derived.Test.YtbmkkhpoaicclacGreatSatPnJStays
namespace Go.Proofs.YtbmkkhpoaicclacGreat
open Go Go.RowKit
set_option linter.unusedVariables false
namespace Sat
open Euf (OL App)
/-! ## A model as bits -/
/-! ## A solver asked -/
def SvQ (N g:Nat) (I:List (List Nat)) (A:Nat) (w0 w:World):Prop:=∃ d a U, SW w g d a∧Idw d I A U∧d.nv=9∧(∀ b, Fo g d a b→N≤b)∧Below N w0 w
theorem SvR.q {N g A:Nat} {I:List (List Nat)} {w0 w:World} (h:SvR N g I A w0 w):SvQ N g I A w0 w:=by
 obtain ⟨d,a,U,s,i,k⟩:=h;exact ⟨d,a,U,s,i.w,k⟩
def SqEnd (N g:Nat) (I:List (List Nat)) (A:Nat) (bu:Int) (w0:World) (e:Ending) (w':World):Prop :=
  ∃ (d:Dt) (a:Key→Value) (U:List Nat) (A':Nat), SW w' g d a∧d.nv=9∧(∀ b, Fo g d a b→N≤b)∧Below N w0 w'∧A'≤A + bu.toNat∧0≤d.steps∧(d.steps≤bu∨d.steps=0) ∧
    ((e=.returned (.int .i64 0)∧Idw d I A' U∧d.mo=[]∧bu≤d.steps∧d.steps≤196839) ∨
     (e=.returned (.int .i64 1)∧Idl d I A' U∧∃ M:Nat→Bool, d.mo=mdl 9 M∧∀ L∈I, ∃ m∈L, tru M m) ∨
     (e=.returned (.int .i64 2)∧Rfd d I∧d.nc≤A' + 11))
theorem Idw.lenU {d:Dt} {I:List (List Nat)} {A:Nat} {U:List Nat} (h:Idw d I A U):U.length≤d.nv:=by
 rcases h.ai with k | ⟨_,_,k,_⟩
 · exact k.ov.lenU
 · exact k.lenU
theorem SvQ.solve {N g A:Nat} {I:List (List Nat)} {w0 w:World} (h:SvQ N g I A w0 w) (bu:Int) (hA:A + bu.toNat≤90000000) :
  Calls Tryz.prog 8 #[.pointer (some ⟨g,0,none⟩),.int .i64 bu] w fun e w'=>SqEnd N g I A bu w0 e w':=by
 obtain ⟨d,a,U,s,i,hn,hf,bl⟩:=h;refine (solve_any g d a I A U bu w s i (by omega) hA).mono ?_
 rintro e w' ⟨d',a',U',A',h1,h2,h3,h4,h5,h6,h7,h8⟩;obtain ⟨k1,k2⟩:=h2.low (Nat.le_trans (hf g (Or.inl rfl)) (Nat.le_of_lt s.lt)) hf;have hn9:d'.nv=9:=h3.trans hn;refine ⟨d',a',U',A',h1,hn9,k2,bl.trans k1,h5,h6,h7,?_⟩;rcases h8 with ⟨he,q1,q2,q3,q4⟩ | ⟨he,q1,M,q2,q3⟩ | ⟨he,q1,q2⟩
 ·
  refine Or.inl ⟨he,q1,q2,q3,Int.le_trans q4 ?_⟩;have hU:U'.length≤9:=by have:=q1.lenU;omega
  have hp:3 ^ U'.length≤3 ^ 9:=Nat.pow_le_pow_right (by decide) hU
  have h9:3 ^ U'.length*(U'.length + 1)≤3 ^ 9*10:=Nat.mul_le_mul hp (by omega)
  have e9:3 ^ 9*10=196830:=by decide
  omega
 · exact Or.inr (Or.inl ⟨he,q1,M,by rw [q2,hn9],q3⟩)
 · exact Or.inr (Or.inr ⟨he,q1,by omega⟩)
theorem SvQ.solveE {N g A:Nat} {I:List (List Nat)} {w0 w:World} (h:SvQ N g I A w0 w) (hA:A≤80000000) :
    Calls Tryz.prog 8 #[.pointer (some ⟨g,0,none⟩),.int .i64 373996] w fun e w' =>
      ∃ (d:Dt) (a:Key→Value) (U:List Nat) (A':Nat),SW w' g d a∧d.nv=9∧(∀ b,Fo g d a b→N≤b)∧Below N w0 w'∧A'≤A + 373996 ∧
      ((e=.returned (.int .i64 1)∧Idl d I A' U∧∃ M:Nat→Bool,d.mo=mdl 9 M∧∀ L∈I,∃ m∈L,tru M m) ∨
       (e=.returned (.int .i64 2)∧Rfd d I∧d.nc≤A' + 11)):=by
  have e9:(373996:Int).toNat=373996:=rfl;refine (h.solve 373996 (by rw [e9];omega)).mono ?_
  rintro e w' ⟨d,a,U,A',h1,h2,h3,h4,h5,h6,h7,h8⟩;refine ⟨d,a,U,A',h1,h2,h3,h4,by rw [e9] at h5;exact h5,?_⟩
  rcases h8 with ⟨-,-,-,q3,q4⟩ | h8 | h8
  · omega
  · exact Or.inl h8
  · exact Or.inr h8
end Sat
end Go.Proofs.YtbmkkhpoaicclacGreat
