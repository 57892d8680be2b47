/- A model as bits; a solver asked, in the law's words; it proves no statement of the seat. -/
import Derived.Test.YtbmkkhpoaicclabGreatSatHdJGrows
import Derived.Test.YtbmkkhpoaicclabGreatSatPnJGrows
namespace Go.Proofs.YtbmkkhpoaicclabGreat
open Go Go.RowKit
set_option linter.unusedVariables false
namespace Sat
open Euf (OL App)
/-! ## A model as bits -/
def bt (M:Nat→Bool):Nat→Nat
  | 0=>0
  | k+1=>bt M k ||| (if M (k+1)=true then 2 ^ k else 0)
theorem bt_lt (M:Nat→Bool):∀k,bt M k<2 ^ k
  | 0=>Nat.pow_pos (by decide)
  | k+1=>by
    refine Nat.or_lt_two_pow (Nat.lt_trans (bt_lt M k) (Nat.pow_lt_pow_right (by decide) (Nat.lt_succ_self k))) ?_
    split
    · exact Nat.pow_lt_pow_right (by decide) (Nat.lt_succ_self k)
    · exact Nat.pow_pos (by decide)
theorem bt_bit (M:Nat→Bool):∀k i,(bt M k).testBit i=(decide (i<k) && M (i+1))
 | 0,i=>by simp[bt]
 | k+1,i=>by
  show (bt M k ||| _).testBit i=_
  rw[Nat.testBit_or,bt_bit M k i];by_cases h:M (k+1)=true
  ·
   rw[if_pos h,Nat.testBit_two_pow];by_cases e:k=i
   · subst e;simp[h]
   ·
    have e1:(decide (i<k):Bool)=decide (i<k+1):=by
     by_cases h1:i<k<;>simp[h1]<;>omega
    simp[e,e1]
  ·
   rw[if_neg h];by_cases e:k=i
   · subst e;simp[h]
   ·
    have e1:(decide (i<k):Bool)=decide (i<k+1):=by
     by_cases h1:i<k<;>simp[h1]<;>omega
    simp[e1]
theorem bt_bM {M:Nat→Bool} {v:Nat} (h1:1≤v) (h9:v≤9):bM (bt M 9) v=M v:=by
 unfold bM;rw[← Nat.testBit_eq_decide_div_mod_eq,bt_bit];have e:v - 1+1=v:=by omega
 rw[e];simp;omega
theorem lit_half {z:Int} (h:Okl 9 z):1≤lit z / 2∧lit z / 2≤9:=by
 obtain⟨h0,h1,h2⟩:=h;unfold lit;split<;>omega
theorem tru_bt {M:Nat→Bool} {z:Int} (h:Okl 9 z):tru (bM (bt M 9)) (lit z)↔tru M (lit z):=by
 obtain⟨h1,h2⟩:=lit_half h;unfold tru;rw[bt_bM h1 h2]
theorem hl_bt {M:Nat→Bool} {c:List Int} (h:∀z∈c,Okl 9 z):Hl (bM (bt M 9)) c↔Hl M c:=by
 constructor
 · rintro⟨z,h1,h2⟩;exact⟨z,h1,(tru_bt (h z h1)).1 h2⟩
 · rintro⟨z,h1,h2⟩;exact⟨z,h1,(tru_bt (h z h1)).2 h2⟩
theorem all_hl {ls:List (List Int)} {M:Nat→Bool}:(∀L∈ls.map (·.map lit),∃m∈L,tru M m)↔∀c∈ls,Hl M c:=by
 constructor
 · intro h c hc;obtain⟨m,h1,h2⟩:=h _ (List.mem_map.2 ⟨c,hc,rfl⟩);obtain⟨z,h3,rfl⟩:=List.mem_map.1 h1;exact⟨z,h3,h2⟩
 · intro h L hL;obtain⟨c,hc,rfl⟩:=List.mem_map.1 hL;obtain⟨z,h1,h2⟩:=h c hc;exact⟨_,List.mem_map.2 ⟨z,h1,rfl⟩,h2⟩
theorem mdl_of {ls:List (List Int)} (hf:∀c∈ls,Few1 c) {M:Nat→Bool} (h:∀L∈ls.map (·.map lit),∃m∈L,tru M m):Mdl ls :=
  ⟨bt M 9,bt_lt M 9,fun c hc=>(hl_bt (hf c hc).2).2 (all_hl.1 h c hc)⟩
theorem not_mdl {ls:List (List Int)} {d:Dt} (r:Rfd d (ls.map (·.map lit))):¬ Mdl ls:=by
 rintro⟨B,-,hB⟩;exact r.none (bM B) (all_hl.2 hB)
/-! ## A solver asked -/
def SvQ (N g:Nat) (I:List (List Nat)) (A:Nat) (w0 w:World):Prop:=∃d a U,SW w g d a∧Idw d I A U∧d.nv=9∧(∀b,Fo g d a b→N≤b)∧Below N w0 w
theorem SvR.q {N g A:Nat} {I:List (List Nat)} {w0 w:World} (h:SvR N g I A w0 w):SvQ N g I A w0 w:=by
 obtain⟨d,a,U,s,i,k⟩:=h;exact⟨d,a,U,s,i.w,k⟩
def SqEnd (N g:Nat) (I:List (List Nat)) (A:Nat) (bu:Int) (w0:World) (e:Ending) (w':World):Prop :=
  ∃(d:Dt) (a:Key→Value) (U:List Nat) (A':Nat),SW w' g d a∧d.nv=9∧(∀b,Fo g d a b→N≤b)∧Below N w0 w'∧A'≤A+bu.toNat∧0≤d.steps∧(d.steps≤bu∨d.steps=0) ∧
    ((e=.returned (.int .i64 0)∧Idw d I A' U∧d.mo=[]∧bu≤d.steps∧d.steps≤196839) ∨
     (e=.returned (.int .i64 1)∧Idl d I A' U∧∃M:Nat→Bool,d.mo=mdl 9 M∧∀L∈I,∃m∈L,tru M m) ∨
     (e=.returned (.int .i64 2)∧Rfd d I∧d.nc≤A'+11))
theorem Idw.lenU {d:Dt} {I:List (List Nat)} {A:Nat} {U:List Nat} (h:Idw d I A U):U.length≤d.nv:=by
 rcases h.ai with k|⟨_,_,k,_⟩
 · exact k.ov.lenU
 · exact k.lenU
theorem SvQ.solve {N g A:Nat} {I:List (List Nat)} {w0 w:World} (h:SvQ N g I A w0 w) (bu:Int) (hA:A+bu.toNat≤90000000) :
  Calls Tryz.prog 15 #[.pointer (some ⟨g,0,none⟩),.int .i64 bu] w fun e w'=>SqEnd N g I A bu w0 e w':=by
 obtain⟨d,a,U,s,i,hn,hf,bl⟩:=h;refine (solve_any g d a I A U bu w s i (by omega) hA).mono ?_
 rintro e w' ⟨d',a',U',A',h1,h2,h3,h4,h5,h6,h7,h8⟩;obtain⟨k1,k2⟩:=h2.low (Nat.le_trans (hf g (Or.inl rfl)) (Nat.le_of_lt s.lt)) hf;have hn9:d'.nv=9:=h3.trans hn;refine⟨d',a',U',A',h1,hn9,k2,bl.trans k1,h5,h6,h7,?_⟩;rcases h8 with⟨he,q1,q2,q3,q4⟩|⟨he,q1,M,q2,q3⟩|⟨he,q1,q2⟩
 ·
  refine Or.inl ⟨he,q1,q2,q3,Int.le_trans q4 ?_⟩;have hU:U'.length≤9:=by have:=q1.lenU;omega
  have hp:3 ^ U'.length≤3 ^ 9:=Nat.pow_le_pow_right (by decide) hU
  have h9:3 ^ U'.length*(U'.length+1)≤3 ^ 9*10:=Nat.mul_le_mul hp (by omega)
  have e9:3 ^ 9*10=196830:=by decide
  omega
 · exact Or.inr (Or.inl ⟨he,q1,M,by rw[q2,hn9],q3⟩)
 · exact Or.inr (Or.inr ⟨he,q1,by omega⟩)
theorem SvQ.solveE {N g A:Nat} {I:List (List Nat)} {w0 w:World} (h:SvQ N g I A w0 w) (hA:A≤80000000) :
    Calls Tryz.prog 15 #[.pointer (some ⟨g,0,none⟩),.int .i64 373996] w fun e w' =>
      ∃(d:Dt) (a:Key→Value) (U:List Nat) (A':Nat),SW w' g d a∧d.nv=9∧(∀b,Fo g d a b→N≤b)∧Below N w0 w'∧A'≤A+373996 ∧
      ((e=.returned (.int .i64 1)∧Idl d I A' U∧∃M:Nat→Bool,d.mo=mdl 9 M∧∀L∈I,∃m∈L,tru M m) ∨
       (e=.returned (.int .i64 2)∧Rfd d I∧d.nc≤A'+11)):=by
  have e9:(373996:Int).toNat=373996:=rfl;refine (h.solve 373996 (by rw[e9];omega)).mono ?_
  rintro e w' ⟨d,a,U,A',h1,h2,h3,h4,h5,h6,h7,h8⟩;refine⟨d,a,U,A',h1,h2,h3,h4,by rw[e9]at h5;exact h5,?_⟩
  rcases h8 with⟨-,-,-,q3,q4⟩|h8|h8
  · omega
  · exact Or.inl h8
  · exact Or.inr h8
end Sat
end Go.Proofs.YtbmkkhpoaicclabGreat
