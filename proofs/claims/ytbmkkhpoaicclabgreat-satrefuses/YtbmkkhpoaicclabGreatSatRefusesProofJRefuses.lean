/- SatRefuses answers true for every input, and leaves it as it was: the given statement SatRefusesSaid, with no condition. -/
import Derived.Test.YtbmkkhpoaicclabGreatRows
import Derived.Test.YtbmkkhpoaicclabGreatSatWrJRefuses
import Derived.WalkKit
import Derived.ProofKit
import Derived.OpenShut
import Derived.ShutString
import Derived.Carry
namespace Go.Proofs.YtbmkkhpoaicclabGreat
open Go.ChangeShapes Go.WideShapes Go.ChangeAt Go.RowKit
open Go.ChangeMaps (open_string shut_string)
set_option linter.unusedVariables false

theorem satRefuses_knob:ownKnob Tryz.prog.godebug=none:=by kernel_rfl

theorem satRefuses_laid:laidOutB Tryz.prog=true:=by kernel_rfl

set_option maxRecDepth 100000 in
theorem satRefuses_lifted (os:Os) (started:os.Started) (H:Type) (enc:TypeId × Value→H) :
  ReturnsInHanded {} Tryz.checked os 5 .any (Rows.satRefusesSpec.pre6 enc Tryz.prog Tryz.f5 Rows.satRefusesRow.domain false) (Rows.satRefusesSpec.post enc Tryz.prog Tryz.f5 false true false false):=by
 refine returnsInHanded_of_change (C:=Tryz.checked) satRefuses_knob started (by kernel_rfl) Tryz.func5
  (ChangeSpec.witness6 (enc:=enc) (C:=Tryz.checked) false ⟨#[],#[.int .i64 0,.slice none 0 0,.slice none 0 0],[]⟩ 8 (by kernel_rfl) (by kernel_rfl) (by kernel_rfl) (by kernel_rfl)) ?_
 intro W base args ds gs before hval0 hW hcnd _;have hval:∀ (j:Nat) t v,Tryz.f5.params[j]?=some t→args[j]?=some v→Value.okWide Tryz.prog W .any base t v:=hval0;have hW':=hW;obtain ⟨p,q,hA0,hV,rfl,hfz,hnd⟩:=hW;have hA:DataW.TrodAll enc Tryz.prog W 0 (fun _=>true) true Tryz.f5.params.toList args.toList ds p:=hA0
 rw [Tryz.params5] at hA hval;obtain ⟨v0,vs0,d0,ds0,p0,q0,hargs,rfl,rfl,h0,r0⟩:=trodAll_cons hA;obtain ⟨v1,vs1,d1,ds1,p1,q1,rfl,rfl,rfl,h1,r1⟩:=trodAll_cons r0;obtain ⟨v2,vs2,d2,ds2,p2,q2,rfl,rfl,rfl,h2,r2⟩:=trodAll_cons r1;obtain ⟨rfl,rfl,rfl⟩:=trodAll_nil r2;obtain rfl:args=#[v0,v1,v2]:=by cases args;simp_all
 obtain ⟨rfl,rfl⟩:=trodVars_none hV;obtain ⟨a0,rfl,rfl,rfl,w0⟩:=open_int Tryz.underlying3 (hval 0 3 v0 rfl rfl) h0;have h1k:=h1;obtain ⟨b1,l1,c1,rfl⟩:=okWide_slice Sat.uIntsQ (hval 1 35 v1 rfl rfl);obtain ⟨fuel1,hf1⟩:=h1;obtain ⟨bS1,cS1,a1,eq1,w1⟩:=Sat.open_il hf1;injection eq1 with eq1 er1 es1;subst eq1 er1 es1;clear hf1;have h2k:=h2;obtain ⟨b2,l2,c2,rfl⟩:=okWide_slice Sat.uRowsQ (hval 2 22 v2 rfl rfl);obtain ⟨fuel2,hf2⟩:=h2;obtain ⟨bS2,cS2,a2,eq2,w2⟩:=Sat.open_ll hf2;injection eq2 with eq2 er2 es2;subst eq2 er2 es2;clear hf2;clear hA0 hval0;simp only [List.append_nil] at hW';have hlt1:∀ x∈p1,x.block < W.heap.size:=fun x hx=>by simpa using hW'.lt x (by simp [hx])
 have hlt2:∀ x∈p2,x.block < W.heap.size:=fun x hx=>by simpa using hW'.lt x (by simp [hx])
 refine (Sat.satRefuses_any a0 b1 c1 a1 b2 c2 a2 W (Sat.wf_in w0) w1 w2).mono fun e W' ⟨he,bel⟩=>?_
 subst he;exact ⟨_,rfl,_,_,_,[],p1 ++ p2,[],hW',trodAll_mk1 (shut_bool Tryz.underlying4 _),(by have h9:=(trodAll_cons_mk (shut_int (enc:=enc) Tryz.underlying3 w0) (trodAll_cons_mk (Below.trod satRefuses_laid (by kernel_rfl) (of_decide_eq_true (by kernel_rfl)) h1k bel hlt1) (trodAll_cons_mk (Below.trod satRefuses_laid (by kernel_rfl) (of_decide_eq_true (by kernel_rfl)) h2k bel hlt2) trodAll_mk0)));simp only [List.append_nil] at h9;exact h9),rfl,bel.frame _,fun h=>by cases h⟩

/-- The given statement. -/
theorem satRefuses_holds:Rows.SatRefusesSaid :=
  OpenClaim.holds_of_wide 5 Tryz.f5 rfl rfl rfl rfl rfl rfl rfl ⟨rfl, rfl, rfl, rfl, rfl⟩ rfl rfl rfl rfl rfl (by kernel_rfl) Tryz.func5 (by kernel_rfl)
    (of_decide_eq_true (by kernel_rfl)) (by unfold Func.isWrapper; first | (rw [if_pos (by decide +kernel)]; kernel_rfl) | (rw [if_neg (by decide +kernel)]; exact ⟨rfl, rfl⟩))
    (fun os started H enc _=>satRefuses_lifted os started H enc)
#print axioms satRefuses_holds
end Go.Proofs.YtbmkkhpoaicclabGreat
