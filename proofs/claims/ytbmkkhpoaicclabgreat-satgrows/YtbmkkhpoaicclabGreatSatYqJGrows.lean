/- The solver at the page's example: with three clauses it answers Sat, with the fourth Unsat. It proves no statement of the seat. -/
import Derived.Test.YtbmkkhpoaicclabGreatSatYpJGrows
import Derived.Test.YtbmkkhpoaicclabGreatSatSvJGrows
namespace Go.Proofs.YtbmkkhpoaicclabGreat
open Go Go.RowKit
set_option linter.unusedVariables false
namespace Sat
def ex3:List (List Nat):=([[1,2],[-1,2],[1,-2]]:List (List Int)).map (·.map lit)
def ex4:List (List Nat):=([[1,2],[-1,2],[1,-2],[-1,-2]]:List (List Int)).map (·.map lit)
theorem ex_vars {I:List (List Nat)} (hI:I=ex3∨I=ex4) {u:Nat} (h:∃L∈I,∃m∈L,m / 2=u):u=1∨u=2:=by
 obtain⟨L,h1,m,h2,rfl⟩:=h;have k3:∀L∈ex3,∀m∈L,m / 2=1∨m / 2=2:=by decide
 have k4:∀L∈ex4,∀m∈L,m / 2=1∨m / 2=2:=by decide
 rcases hI with rfl|rfl
 · exact k3 L h1 m h2
 · exact k4 L h1 m h2
theorem two_len {U:List Nat} (hn:U.Nodup) (h:∀u∈U,u=1∨u=2):U.length≤2:=by
 have h1:(U.map (fun n:Nat=>(n:Int))).Nodup:=by
  rw[List.nodup_iff_pairwise_ne]at hn ⊢;rw[List.pairwise_map];exact hn.imp (fun h e=>h (by omega))
 have h2:=nodup_subI [1,2] _ h1 (fun x hx=>by
  obtain⟨u,hu,rfl⟩:=List.mem_map.1 hx;rcases h u hu with rfl|rfl<;>simp)
 simpa using h2
theorem Idw.two {d:Dt} {I:List (List Nat)} {A:Nat} {U:List Nat} (h:Idw d I A U) (hI:I=ex3∨I=ex4):U.length≤2:=by
 refine two_len ?_ (fun u hu=>ex_vars hI (h.ic.ui u hu))
 rcases h.ai with k|⟨_,_,k,_⟩
 · exact k.ov.un
 · exact k.un
theorem enough_two {U:List Nat} {st:Int} (h:U.length≤2) (h1:(100:Int)≤st) (h2:st≤((3 ^ U.length*(U.length+1)+U.length:Nat):Int)):False:=by
 have:U.length=0∨U.length=1∨U.length=2:=by omega
 rcases this with e|e|e<;>rw[e]at h2<;>simp at h2<;>omega
theorem solve_ex3 (g:Nat) (d0:Dt) (a0:Key→Value) (A:Nat) (U:List Nat) (w:World) (hw:SW w g d0 a0) (hi:Idw d0 ex3 A U) (hn:d0.nv=9) (hA:A≤80000000) :
  Calls Tryz.prog 15 #[.pointer (some ⟨g,0,none⟩),.int .i64 100] w fun e w'=>e=.returned (.int .i64 1)∧∃(d:Dt) (a:Key→Value) (U:List Nat) (A':Nat),SW w' g d a∧Mq g d0 a0 w d a w'∧d.nv=9∧d.added=d0.added∧A'≤A+100∧Idl d ex3 A' U∧d.mo.length=9∧d.mo.getD 0 false=true∧d.mo.getD 1 false=true:=by
 refine (solve_any g d0 a0 ex3 A U 100 w hw hi (by omega) (by simp;omega)).mono ?_
 rintro e w' ⟨d,a,U',A',h1,h2,h3,h4,h5,h6,h7,h8⟩;rcases h8 with⟨-,k1,-,k3,k4⟩|⟨rfl,k1,M,k2,k3⟩|⟨-,k1,-⟩
 · exact absurd (enough_two (k1.two (Or.inl rfl)) k3 k4) id
 ·
  obtain⟨m1,m2⟩:=ex3_model k3;refine⟨rfl,d,a,U',A',h1,h2,by omega,h4,by simpa using h5,k1,?_,?_,?_⟩
  · rw[k2,h3,hn];simp[mdl]
  · rw[k2,h3,hn];simp[mdl,m1]
  · rw[k2,h3,hn];simp[mdl,m2]
 ·
  exact absurd (fun L hL=>by
   have key:∀L∈ex3,∃m∈L,m % 2=0:=by decide
   obtain⟨m,q1,q2⟩:=key L hL;exact⟨m,q1,by unfold tru;rw[if_pos q2]⟩) (k1.none (fun _=>true))
theorem solve_ex4 (g:Nat) (d0:Dt) (a0:Key→Value) (A:Nat) (U:List Nat) (w:World) (hw:SW w g d0 a0) (hi:Idw d0 ex4 A U) (hn:d0.nv=9) (hA:A≤80000000) :
  Calls Tryz.prog 15 #[.pointer (some ⟨g,0,none⟩),.int .i64 100] w fun e w'=>e=.returned (.int .i64 2)∧∃(d:Dt) (a:Key→Value),SW w' g d a∧Mq g d0 a0 w d a w'∧d.nv=9∧d.added=d0.added∧Rfd d ex4∧d.nc≤A+120:=by
 refine (solve_any g d0 a0 ex4 A U 100 w hw hi (by omega) (by simp;omega)).mono ?_
 rintro e w' ⟨d,a,U',A',h1,h2,h3,h4,h5,h6,h7,h8⟩;rcases h8 with⟨-,k1,-,k3,k4⟩|⟨-,k1,M,k2,k3⟩|⟨rfl,k1⟩
 · exact absurd (enough_two (k1.two (Or.inr rfl)) k3 k4) id
 ·
  obtain⟨m1,m2⟩:=ex3_model (M:=M) (fun L hL=>k3 L (by
   have key:∀L∈ex3,L∈ex4:=by decide
   exact key L hL))
  obtain⟨m,q1,q2⟩:=k3 [3,5] (by decide)
  simp[tru]at q1 q2;rcases q1 with rfl|rfl
  · simp[m1]at q2
  · simp[m2]at q2
 · exact⟨rfl,d,a,h1,h2,by omega,h4,k1.1,by have:=k1.2;have:(100:Int).toNat=100:=rfl;omega⟩
end Sat
end Go.Proofs.YtbmkkhpoaicclabGreat
