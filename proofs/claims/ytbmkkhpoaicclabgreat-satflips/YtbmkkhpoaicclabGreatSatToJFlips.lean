/- Two solvers beside each other: what one does leaves the other; it proves no statement of the seat. -/
import Derived.Test.YtbmkkhpoaicclabGreatSatBiJFlips
import Derived.Test.YtbmkkhpoaicclabGreatSatXrJFlips
namespace Go.Proofs.YtbmkkhpoaicclabGreat
open Go Go.RowKit
set_option linter.unusedVariables false
namespace Sat
open Euf (OL App)
theorem Mq.stay {g g2:Nat} {d d' d2:Dt} {a a' a2:Key→Value} {w w':World} (m:Mq g d a w d' a' w') (s2:SW w g2 d2 a2) (sep:∀ b, Fo g d a b→¬ Fo g2 d2 a2 b):SW w' g2 d2 a2∧∀ b, Fo g d' a' b→¬ Fo g2 d2 a2 b :=
  ⟨s2.keep (fun b hb=>m.mv.other b (s2.foLt hb) (fun h=>sep b h hb)), fun b hb h2=>by
    rcases m.fo b hb with h | h
    · exact sep b h h2
    · have:=s2.foLt h2; omega⟩
def HasM (I:List (List Nat)):Prop:=∃ M:Nat→Bool, ∀ L∈I, ∃ m∈L, tru M m
def VdE (I:List (List Nat)) (x:Int):Prop:=(x=1∧HasM I)∨(x=2∧¬ HasM I)
theorem solve_raw (g:Nat) (d:Dt) (a:Key→Value) (I:List (List Nat)) (A:Nat) (U:List Nat) (w:World) (s:SW w g d a) (i:Idw d I A U) (hn:d.nv=9) (hA:A≤80000000) :
  Calls Tryz.prog 15 #[.pointer (some ⟨g,0,none⟩),.int .i64 373996] w fun e w'=>∃ (x:Int) (d':Dt) (a':Key→Value),e=.returned (.int .i64 x)∧VdE I x∧Mq g d a w d' a' w':=by
 have h:=SvQ.solveE (N:=0) (w0:=w) ⟨d,a,U,s,i,hn,fun b _=>Nat.zero_le b,Below.refl _ _⟩ hA
 have e9:(373996:Int).toNat=373996:=rfl;refine (solve_any g d a I A U 373996 w s i (by omega) (by omega)).mono ?_
 rintro e w' ⟨d',a',U',A',h1,h2,h3,h4,h5,h6,h7,h8⟩;rcases h8 with ⟨-,q1,-,q3,q4⟩ | ⟨rfl,-,M,-,q3⟩ | ⟨rfl,q1,-⟩
 ·
  have hU:U'.length≤9:=by have:=q1.lenU;omega
  have hp:3 ^ U'.length≤3 ^ 9:=Nat.pow_le_pow_right (by decide) hU
  have h9:3 ^ U'.length*(U'.length + 1)≤3 ^ 9*10:=Nat.mul_le_mul hp (by omega)
  have e9:3 ^ 9*10=196830:=by decide
  omega
 · exact ⟨1,d',a',rfl,Or.inl ⟨rfl,M,q3⟩,h2⟩
 · exact ⟨2,d',a',rfl,Or.inr ⟨rfl,fun ⟨M,hM⟩=>q1.none M hM⟩,h2⟩
theorem lit_neg2 {v:Int} (h0:v≠0):lit (-v)=ng (lit v):=by
 rcases Int.lt_or_gt_of_ne h0 with h | h
 ·
  have e1:lit (-v)=2*v.natAbs:=by unfold lit;rw [if_neg (by omega),Int.natAbs_neg]
  have e2:lit v=2*v.natAbs + 1:=by unfold lit;rw [if_pos h]
  rw [e1,e2];unfold ng;rw [if_neg (by omega)];omega
 ·
  have e1:lit (-v)=2*v.natAbs + 1:=by unfold lit;rw [if_pos (by omega),Int.natAbs_neg]
  have e2:lit v=2*v.natAbs:=by unfold lit;rw [if_neg (by omega)]
  rw [e1,e2];unfold ng;rw [if_pos (by omega)]
theorem VdE.one {I:List (List Nat)} {x:Int} (h:VdE I x):x=1∨x=2:=h.elim (fun h=>Or.inl h.1) (fun h=>Or.inr h.1)
theorem VdE.two {I:List (List Nat)} {x:Int} (h:VdE I x):x=2↔¬ HasM I:=by
 rcases h with ⟨rfl,h⟩ | ⟨rfl,h⟩
 · exact ⟨fun h9=>absurd h9 (by decide),fun h9=>absurd h h9⟩
 · exact ⟨fun _=>h,fun _=>rfl⟩
end Sat
end Go.Proofs.YtbmkkhpoaicclabGreat
