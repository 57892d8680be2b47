/- SatGrows answers true for every input, and leaves it as it was: the given statement SatGrowsSaid, with no condition. -/
import Derived.Test.YtbmkkhpoaicclabGreatRows
import Derived.Test.YtbmkkhpoaicclabGreatSatWgJGrows
import Derived.WalkKit
import Derived.ProofKit
import Derived.OpenShut
import Derived.ShutString
import Derived.Carry
namespace Go.Proofs.YtbmkkhpoaicclabGreat
open Go.ChangeShapes Go.WideShapes Go.ChangeAt Go.RowKit
open Go.ChangeMaps (open_string shut_string)
set_option linter.unusedVariables false

theorem satGrows_knob:ownKnob Tryz.prog.godebug=none:=by kernel_rfl

theorem satGrows_laid:laidOutB Tryz.prog=true:=by kernel_rfl

set_option maxRecDepth 100000 in
theorem satGrows_lifted (os:Os) (started:os.Started) (H:Type) (enc:TypeId × Value→H) :
  ReturnsInHanded {} Tryz.checked os 3 .any (Rows.satGrowsSpec.pre6 enc Tryz.prog Tryz.f3 Rows.satGrowsRow.domain false) (Rows.satGrowsSpec.post enc Tryz.prog Tryz.f3 false true false false):=by
 refine returnsInHanded_of_change (C:=Tryz.checked) satGrows_knob started (by kernel_rfl) Tryz.func3
  (ChangeSpec.witness6 (enc:=enc) (C:=Tryz.checked) false ⟨#[],#[.slice none 0 0,.slice none 0 0,.int .i64 0],[]⟩ 8 (by kernel_rfl) (by kernel_rfl) (by kernel_rfl) (by kernel_rfl)) ?_
 intro W base args ds gs before hval0 hW hcnd _;have hval:∀(j:Nat) t v,Tryz.f3.params[j]?=some t→args[j]?=some v→Value.okWide Tryz.prog W .any base t v:=hval0;have hW':=hW;obtain⟨p,q,hA0,hV,rfl,hfz,hnd⟩:=hW;have hA:DataW.TrodAll enc Tryz.prog W 0 (fun _=>true) true Tryz.f3.params.toList args.toList ds p:=hA0
 rw[Tryz.params3]at hA hval;obtain⟨v0,vs0,d0,ds0,p0,q0,hargs,rfl,rfl,h0,r0⟩:=trodAll_cons hA;obtain⟨v1,vs1,d1,ds1,p1,q1,rfl,rfl,rfl,h1,r1⟩:=trodAll_cons r0;obtain⟨v2,vs2,d2,ds2,p2,q2,rfl,rfl,rfl,h2,r2⟩:=trodAll_cons r1;obtain⟨rfl,rfl,rfl⟩:=trodAll_nil r2;obtain rfl:args=#[v0,v1,v2]:=by cases args;simp_all
 obtain⟨rfl,rfl⟩:=trodVars_none hV;have h0k:=h0;obtain⟨b0,l0,c0,rfl⟩:=okWide_slice Sat.uRowsQ (hval 0 22 v0 rfl rfl);obtain⟨fuel0,hf0⟩:=h0;obtain⟨bS0,cS0,a0,eq0,w0⟩:=Sat.open_ll hf0;injection eq0 with eq0 er0 es0;subst eq0 er0 es0;clear hf0;have h1k:=h1;obtain⟨b1,l1,c1,rfl⟩:=okWide_slice Sat.uBoolsQ (hval 1 23 v1 rfl rfl);obtain⟨fuel1,hf1⟩:=h1;obtain⟨bS1,cS1,a1,eq1,w1⟩:=Sat.open_bl hf1;injection eq1 with eq1 er1 es1;subst eq1 er1 es1;clear hf1;obtain⟨a2,rfl,rfl,rfl,w2⟩:=open_int Tryz.underlying3 (hval 2 3 v2 rfl rfl) h2;clear hA0 hval0;simp only[List.append_nil]at hW';have hlt0:∀x∈p0,x.block<W.heap.size:=fun x hx=>by simpa using hW'.lt x (by simp[hx])
 have hlt1:∀x∈p1,x.block<W.heap.size:=fun x hx=>by simpa using hW'.lt x (by simp[hx])
 refine (Sat.satGrows_any b0 c0 a0 b1 c1 a1 a2 W w0 w1 (Sat.wf_in w2)).mono fun e W' ⟨he,bel⟩=>?_
 subst he;exact⟨_,rfl,_,_,_,[],p0++p1,[],hW',trodAll_mk1 (shut_bool Tryz.underlying4 _),(by have h9:=(trodAll_cons_mk (Below.trod satGrows_laid (by kernel_rfl) (of_decide_eq_true (by kernel_rfl)) h0k bel hlt0) (trodAll_cons_mk (Below.trod satGrows_laid (by kernel_rfl) (of_decide_eq_true (by kernel_rfl)) h1k bel hlt1) (trodAll_cons_mk (shut_int (enc:=enc) Tryz.underlying3 w2) trodAll_mk0)));simp only[List.append_nil]at h9;exact h9),rfl,bel.frame _,fun h=>by cases h⟩

/-- The given statement. -/
theorem satGrows_holds:Rows.SatGrowsSaid :=
  OpenClaim.holds_of_wide 3 Tryz.f3 rfl rfl rfl rfl rfl rfl rfl ⟨rfl,rfl,rfl,rfl,rfl⟩ rfl rfl rfl rfl rfl (by kernel_rfl) Tryz.func3 (by kernel_rfl)
    (of_decide_eq_true (by kernel_rfl)) (by unfold Func.isWrapper;first|(rw[if_pos (by decide +kernel)];kernel_rfl)|(rw[if_neg (by decide +kernel)];exact⟨rfl,rfl⟩))
    (fun os started H enc _=>satGrows_lifted os started H enc)
#print axioms satGrows_holds
end Go.Proofs.YtbmkkhpoaicclabGreat
