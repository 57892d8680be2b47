/- What Solve leaves; it proves no statement of the seat. -/
import Derived.Test.YtbmkkhpoaicclacGreatJoin21Stays
namespace Go.Proofs.YtbmkkhpoaicclacGreat
open Go.RowKit
set_option linter.unusedVariables false
namespace Sat
open Euf (OL App)
def SvEnd (g:Nat) (d0:Dt) (a0:Key→Value) (I:List (List Nat)) (A:Nat) (bu:Int) (w:World) (e:Ending) (w':World):Prop :=
  ∃ (d:Dt) (a:Key→Value) (U:List Nat) (A':Nat), SW w' g d a∧Mq g d0 a0 w d a w'∧d.nv=d0.nv∧d.added=d0.added∧A'≤A + bu.toNat∧0≤d.steps∧(d.steps≤bu∨d.steps=0) ∧
    ((e=.returned (.int .i64 0)∧Idw d I A' U∧d.mo=[]∧bu≤d.steps∧d.steps≤((3 ^ U.length*(U.length + 1) + U.length:Nat):Int)) ∨
     (e=.returned (.int .i64 1)∧Idl d I A' U∧∃ M:Nat→Bool, d.mo=mdl d.nv M∧∀ L∈I, ∃ m∈L, tru M m) ∨
     (e=.returned (.int .i64 2)∧Rfd d I∧d.nc≤A' + d.nv + 2))
section
variable {d0 d d1:Dt} {I:List (List Nat)} {A:Nat} {U K:List Nat} {bu:Int}
theorem SC.idc (c:SC d0 d I A U K bu) (i:Idc d0 I U) (hq:d0.Q=[]):Idc d I U :=
  ⟨c.m0, c.ms, i.rp.ol c.ol, by rw [c.sx.q, hq]; exact List.nodup_nil, fun x hx=>(by rw [c.sx.q, hq] at hx; cases hx), fun x hx=>(by rw [c.sx.q, hq] at hx; cases hx), i.ui, c.sx.rf.trans i.rf, c.sx.ad.trans i.ad⟩
theorem SC.few (c:SC d0 d I A U K bu):A + K.length≤A + bu.toNat:=by have h1:=c.s3;have h2:=c.s1;omega
theorem SC.idw0 (c:SC d0 d I A U K bu) (i:Idc d0 I U) (hq:d0.Q=[]) (f:FJ d U) (hS:d.S=[]):Idw d I (A + K.length) U:=by
 refine ⟨c.idc i hq,Or.inr ⟨c.sx.q.trans hq,c.bs,c.ov,hS,?_⟩⟩;rcases f with f | ⟨-,h,-⟩
 · exact f
 · exact absurd hS h
theorem SC.idl0 (c:SC d0 d I A U K bu) (i:Idc d0 I U) (hq:d0.Q=[]) (hc:d.clash=-1) (s:SI d.nv d.V d.T d.S d.F d.nc d.C d.W d.head [] U) (hS:d.S=[]) (M:List Bool):Idl { d with mo:=M } I (A + K.length) U:=by
 have j:=c.idc i hq;refine ⟨⟨j.m0,j.ms,j.rp,j.qn,j.ql,j.qi,j.ui,j.rf,j.ad⟩,?_⟩;show AtI { d with mo:=M } I (A + K.length) d.Q U
 rw [c.sx.q,hq];exact ⟨c.bs.same rfl rfl rfl rfl rfl rfl rfl,s.wi,fun l hl p hp h=>(by cases h),⟨c.ov.oi,c.ov.hu,c.ov.uo,c.ov.cv,c.ov.un⟩,hS,Or.inl ⟨hc,s⟩⟩
theorem SC.undoI (c:SC d0 d I A U K bu) (i:Idc d0 I U) (hq:d0.Q=[]) (f:FJ d U) (hk:0 < d.S.length) {F':Nat→Fc} {hp':List Nat} {at':Nat→Nat} (hF:Lst d.F F') (oi:OI d.nv hp' at') (hu:∀ u,u∈hp'↔u∈d.hp∨∃ l∈d.T.drop d.S[0],l / 2=u) (M:List Bool) :
  Idl { d.u0 d.S[0] F' hp' at' with mo:=M } I (A + K.length) U:=by
 obtain ⟨p1,p2,p3,p4,p5⟩:=undo_parts c.bs c.ov c.m0 f hk hF oi hu;have j:=c.idc i hq;refine ⟨⟨p3,j.ms,j.rp,j.qn,j.ql,j.qi,j.ui,j.rf,j.ad⟩,?_⟩;show AtI { d.u0 d.S[0] F' hp' at' with mo:=M } I (A + K.length) d.Q U
 rw [c.sx.q,hq];exact ⟨p1.same rfl rfl rfl rfl rfl rfl rfl,p5.wi,fun l hl p hp h=>(by cases h),⟨p2.oi,p2.hu,p2.uo,p2.cv,p2.un⟩,rfl,Or.inl ⟨p4,p5⟩⟩
theorem Rp.model (r:Rp d I) {M:Nat→Bool} (h:∀ x, x < d.nc→∃ m∈(d.C x).lits, tru M m):∀ L∈I, ∃ m∈L, tru M m:=fun L hL=>by
  rcases r L hL with ⟨m, h1, h2⟩ | ⟨c, h1, h2⟩
  · by_cases e:tru M m
    · exact ⟨m, h1, e⟩
    · exact ⟨ng m, h2, (tru_ng M m).2 e⟩
  · obtain ⟨m, h3, h4⟩:=h c h1
    exact ⟨m, (h2 m).1 h3, h4⟩
theorem SC.rfd (c:SC d0 d1 I A U K bu) (i:Idc d0 I U) (hmo:d0.mo=[]) {X:Cl} (h1:X.lits=[]) (h2:X.num=-1) (dv:Dv (d1.nc + 1) (upd d1.C d1.nc X) I) (e:d={ ({ d1 with steps:=d.steps }:Dt).more X with refuted:=true }):Rfd d I:=by
 refine ⟨by rw [e],by rw [e];exact c.sx.ad.trans i.ad,by rw [e];exact dv,?_,by rw [e];exact c.sx.mo.trans hmo,d1.nc,by rw [e],?_,?_⟩
 · rw [e];exact c.bs.ci.addC (by rw [h1];intro m hm;cases hm) (by rw [h1];exact List.nodup_nil)
 ·
  rw [e];show (upd d1.C d1.nc X d1.nc).lits=[]
  rw [upd_same];exact h1
 ·
  rw [e];show (upd d1.C d1.nc X d1.nc).num=-1
  rw [upd_same];exact h2
theorem SC.rfdn (c:SC d0 d1 I A U K bu) {X:Cl} (e:d={ ({ d1 with steps:=d.steps }:Dt).more X with refuted:=true }):d.nc≤A + K.length + d.nv + 2:=by
 have h3:=c.bs.cn;have h4:=c.bs.ti.len;have h5:fixd d1.T d1.S≤d1.T.length:=by
  unfold fixd;cases hS:d1.S with
  | nil=>exact Nat.le_refl _
  | cons s r=>exact Nat.le_of_lt (c.bs.ti.st s (by rw [hS];exact List.mem_cons_self ..))
 have e1:d.nc=d1.nc + 1:=by rw [e]
 have e2:d.nv=d1.nv:=by rw [e]
 omega
end
end Sat
end Go.Proofs.YtbmkkhpoaicclacGreat
