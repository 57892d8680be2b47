/- Joined: SatLe, SatLf, SatLn, SatSt: words and contracts; no statement of the seat is proved here. -/
import Derived.Test.YtbmkkhpoaicclabGreatJoin18Grows
import Derived.Test.YtbmkkhpoaicclabGreatJoin4Grows
import Derived.Laws.LoneSync
namespace Go.Proofs.YtbmkkhpoaicclabGreat
open Go.RowKit
set_option linter.unusedVariables false
namespace Sat
open Euf (OL App)
theorem mk_zero (f:Fc) (h:f.mark=0):f.mk_ 0=f:=by
 cases f
 simp at h;subst h;rfl
theorem FM.un {d0 d:Dt} (h:FM d0 d) (k:MK d) (h0:∀v,(d0.F v).mark=0) (hm:d0.mks=[]):({ d with F:=unF d.F d.mks,mks:=[] }:Dt)=d0:=by
 have e:unF d.F d.mks=d0.F:=by
  funext v
  have h1:=h.fm v;unfold unF;by_cases hv:v∈d.mks
  · rw[if_pos hv,h1];exact mk_zero _ (h0 v)
  ·
   rw[if_neg hv];have h2:(d.F v).mark=0:=by
    apply Classical.byContradiction
    intro h9;exact hv ((k.iff_ v).2 h9)
   rw[h1,h2];exact mk_zero _ (h0 v)
 rw[e];have e2:({ d with F:=d0.F,mks:=[] }:Dt)={ d0 with F:=d0.F,mks:=[] }:=by rw[h.eq]
 rw[e2,← hm]
section
variable {nv:Nat} {V:Nat→Int} {T S:List Nat} {F:Nat→Fc} {nc:Nat} {C:Nat→Cl}
theorem TI.unV (t:TI nv V T S F nc C) {s l:Nat} (hl:l<2*(nv+1)):Sat.unV V (T.drop s) l=vl (T.take s) l:=by
 have hTs:∀m,m∈T↔m∈T.take s∨m∈T.drop s:=fun m=>by
  conv=>lhs;rw[← List.take_append_drop s T]
  exact List.mem_append
 have nd:((T.take s++T.drop s).map (· / 2)).Nodup:=by rw[List.take_append_drop];exact t.nd
 have dis:∀a b,a∈T.take s→b∈T.drop s→a / 2≠b / 2:=fun a b ha hb=>by
  rw[List.map_append,List.nodup_append]at nd;exact nd.2.2 _ (List.mem_map_of_mem ha) _ (List.mem_map_of_mem hb)
 unfold Sat.unV;split
 ·
  rename_i h
  symm
  refine vl_zero.2 ⟨fun h9=>?_,fun h9=>?_⟩
  ·
   rcases h with h|h
   · exact dis l l h9 h rfl
   · exact dis l (ng l) h9 h (by rw[ng_var])
  ·
   rcases h with h|h
   · exact dis (ng l) l h9 h (by rw[ng_var])
   · exact dis (ng l) (ng l) h9 h rfl
 ·
  rename_i h
  rw[t.va l hl];unfold vl;have e1:l∈T↔l∈T.take s:=by rw[hTs];exact⟨fun h9=>h9.resolve_right (fun h8=>h (Or.inl h8)),Or.inl⟩
  have e2:ng l∈T↔ng l∈T.take s:=by rw[hTs];exact⟨fun h9=>h9.resolve_right (fun h8=>h (Or.inr h8)),Or.inl⟩
  simp only[e1,e2]
end
section
variable {d d':Dt} {U:List Nat}
theorem Ov.undo (o:Ov d U) (ti:TI d.nv d.V d.T d.S d.F d.nc d.C) (ut:∀t∈d.T,t / 2∈U) {s:Nat} {hp':List Nat} {at':Nat→Nat} (oi:OI d.nv hp' at') (hu:∀u,u∈hp'↔u∈d.hp∨∃l∈d.T.drop s,l / 2=u) (h1:d'.nv=d.nv) (h2:d'.hp=hp') (h3:d'.at_=at') (h4:d'.V=unV d.V (d.T.drop s)):Ov d' U:=by
 refine⟨by rw[h1,h2,h3];exact oi,fun v hv=>?_,by rw[h1];exact o.uo,fun u hU=>?_,o.un⟩
 ·
  rw[h2]at hv;rcases (hu v).1 hv with h|⟨l,hl,rfl⟩
  · exact o.hu v h
  · exact ut l (List.mem_of_mem_drop hl)
 ·
  rw[h2,h4];rcases o.cv u hU with h|h
  · exact Or.inl ((hu u).2 (Or.inl h))
  ·
   by_cases e:2*u∈d.T.drop s∨ng (2*u)∈d.T.drop s
   ·
    left
    rcases e with e|e
    · exact (hu u).2 (Or.inr ⟨2*u,e,by omega⟩)
    · exact (hu u).2 (Or.inr ⟨ng (2*u),e,by rw[ng_var];omega⟩)
   ·
    right
    unfold unV;rw[if_neg e];exact h
end
structure LnE (d d':Dt) (I:List (List Nat)) (A:Nat) (U L:List Nat):Prop where
  eq:d'={ d with nc:=d'.nc,C:=d'.C,V:=d'.V,W:=d'.W,F:=d'.F,T:=d'.T,S:=d'.S,head:=d'.head,hp:=d'.hp,at_:=d'.at_,bz:=d'.bz,wt:=d'.wt }
  bs:Bs d' I (A+1) [] U
  si:SI d'.nv d'.V d'.T d'.S d'.F d'.nc d'.C d'.W d'.head [] U
  ov:Ov d' U
  m0:∀v,(d'.F v).mark=0
  ls:d'.S.length<d.S.length
  nw:d.nc<d'.nc∧∀m,m∈(d'.C d.nc).lits↔m∈L
  lu:∀m∈L,m / 2∈U∧ng m ∉ L
  fr:∀c,c<d.nc→¬ ∀m,m∈(d.C c).lits↔m∈L
  ol:∀c,c<d.nc→∀m,m∈(d'.C c).lits↔m∈(d.C c).lits
section
variable {d:Dt} {I:List (List Nat)} {A:Nat} {U:List Nat} {h clash:Nat}
structure LC (d:Dt) (clash x:Nat) (o:List Nat) (K:List (Nat × Nat)):Prop where
  ti:TI d.nv d.V d.T d.S d.F d.nc d.C
  hf:∀m∈x::o,ng m∈d.T
  nd:((x::o).map (· / 2)).Nodup
  hx:(d.F (x / 2)).level=(d.S.length:Int)
  ho:∀m∈o,(d.F (m / 2)).level≠(d.S.length:Int)∧0<(d.F (m / 2)).level
  cl:clash<d.nc
  rs:Rsl d.C (·∈(d.C clash).lits) K (·∈x::o)
  kn:(∀p∈K,p.1<d.nc)∧K.length≤30000
abbrev lrC (x:Nat) (o:List Nat) (clash:Nat) (K:List (Nat × Nat)):Cl:={ lits:=x::o,num:=-1,first:=(clash:Int),links:=K }
section
variable {x:Nat} {o:List Nat} {K:List (Nat × Nat)}
theorem LC.ok (l:LC d clash x o K):∀m∈x::o,2≤m∧m<2*(d.nv+1):=fun m hm=>by
  have h9:=l.ti.ok _ (l.hf m hm)
  have h1:=ng_lt h9.2
  have h2:=ng_ge h9.1
  rw[ng_ng]at h1 h2
  exact⟨h2,h1⟩
theorem LC.lu (l:LC d clash x o K) (ut:∀t∈d.T,t / 2∈U):∀m∈x::o,m / 2∈U∧ng m ∉ x::o:=fun m hm=>⟨by
  have:=ut _ (l.hf m hm)
  rwa [ng_var]at this,fun h9=>by
  have h8:=l.hf _ h9
  rw[ng_ng]at h8
  exact nd_ng l.ti.nd h8 (l.hf m hm)⟩
theorem LC.from_ (l:LC d clash x o K) {L:List Nat} (hL:L.Perm (x::o)):From d.C I d.nc { lrC x o clash K with lits:=L } :=
  Or.inr ⟨rfl,clash,rfl,l.cl,l.kn.1,l.rs.congr (fun _=>Iff.rfl) (fun m=>hL.mem_iff.symm) (fun _ _ _=>Iff.rfl),[],List.nodup_nil,fun v hv=>(by cases hv),by simpa using l.kn.2⟩
theorem fixd_take {T S:List Nat} {k:Nat} (hk:0<k) (hS:S≠[]) (x:Nat) (T':List Nat):fixd T' (S.take k)=fixd T S:=by
 cases S with
 | nil=>exact absurd rfl hS
 | cons s S =>
  cases k with
  | zero=>omega
  | succ k=>rfl
end
end
end Sat
namespace Sat
section
variable {d:Dt} {I:List (List Nat)} {A:Nat} {U:List Nat} {h clash x:Nat} {o:List Nat} {K:List (Nat × Nat)}
theorem Lst.four {F F':Nat→Fc} {T:List Nat} (hF:Lst F F'):∀i (hi:i<T.length),(F' (T[i] / 2)).level=(F (T[i] / 2)).level∧(F' (T[i] / 2)).place=(F (T[i] / 2)).place∧(F' (T[i] / 2)).reason=(F (T[i] / 2)).reason∧(F' (T[i] / 2)).unit=(F (T[i] / 2)).unit :=
  fun i hi=>⟨(hF _).1,(hF _).2.1,(hF _).2.2.1,(hF _).2.2.2.1⟩
theorem learnt_old {X:Cl}:∀c,c<d.nc→∀m,m∈(upd d.C d.nc X c).lits↔m∈(d.C c).lits:=fun c hc m=>by rw[upd_other _ _ (by omega)]
theorem fixd_le {T S:List Nat} (hS:0<S.length):fixd T S=S[0]:=by
 cases S with
 | nil=>simp at hS
 | cons s S=>rfl
theorem learnt1 (b:Bs d I A [] U) (s:SI d.nv d.V d.T d.S d.F d.nc d.C d.W h [] U) (ov:Ov d U) (m0:∀v,(d.F v).mark=0) (hk:0<d.S.length) (l:LC d clash x [] K) {hp1 hp':List Nat} {at':Nat→Nat} {bz1:Nat→Int} {wt1:Int} (pm:hp1.Perm d.hp) {F':Nat→Fc} (hF:Lst d.F F') (oi:OI d.nv hp' at') (hu:∀u,u∈hp'↔u∈hp1∨∃l∈d.T.drop d.S[0],l / 2=u) :
  LnE d (Dt.asg0 { d with nc:=d.nc+1,C:=upd d.C d.nc (lrC x [] clash K),V:=unV d.V (d.T.drop d.S[0]),F:=F',T:=d.T.take d.S[0],S:=d.S.take 0,head:=d.S[0],hp:=hp',at_:=at',bz:=bz1,wt:=wt1 } x d.nc d.nc) I A U [x]:=by
 have hxm:ng x∈d.T:=l.hf x (by simp)
 have hok:=l.ok x (by simp)
 have hlu:=l.lu b.ut;have si0:=s.cut hk (V':=unV d.V (d.T.drop d.S[0])) (F':=F') (fun l hl=>b.ti.unV hl) hF.four
 have hlen:(d.T.take d.S[0]).length=d.S[0]:=by rw[List.length_take];have:=b.ti.st _ (List.getElem_mem hk);omega
 have si1:SI d.nv (unV d.V (d.T.drop d.S[0])) (d.T.take d.S[0]) [] F' d.nc d.C d.W (d.T.take d.S[0]).length [] U:=by rw[hlen];exact si0
 have h0:vl (d.T.take d.S[0]) x=0:=b.ti.goes hk hxm (by rw[l.hx];omega)
 have si2:=si1.learn1 (x:=lrC x [] clash K) rfl hok h0 (hlu x (by simp)).1 (lst:=(F' (x / 2)).last) (mk:=(F' (x / 2)).mark) (V':=upd (upd (unV d.V (d.T.drop d.S[0])) x 1) (ng x) (-1)) (fun k _=>asg_V _ x k)
 have si3:=si2;rw[hlen]at si3;refine { eq:=rfl,bs:=?_,si:=?_,ov:=?_,m0:=?_,ls:=?_,nw:=⟨Nat.lt_succ_self _,fun m=>?_⟩,lu:=hlu,fr:=fun c hc=>s.fresh (fun e=>by rw[e]at hk;simp at hk) l.hf (fun m hm=>by cases hm) hc (by simp),ol:=learnt_old }
 ·
  refine⟨si2.ti,si2.ci,si2.uc,si2.ut,b.dv.more (l.from_ (List.Perm.refl _)),?_⟩;have h9:=b.cn;rw[fixd_le hk]at h9;show d.nc+1≤A+1+((d.T.take d.S[0])++[x]).length
  rw[List.length_append,hlen];simp;omega
 ·
  have h9:=si3;have e:d.S[0]=(d.T.take d.S[0]).length:=hlen.symm;show SI d.nv (upd (upd (unV d.V (d.T.drop d.S[0])) x 1) (ng x) (-1)) (d.T.take d.S[0]++[x]) [] (upd F' (x / 2) { level:=((([]:List Nat).length:Nat):Int),place:=((d.T.take d.S[0]).length:Nat),reason:=(d.nc:Nat),unit:=(d.nc:Nat),last:=(F' (x / 2)).last,mark:=(F' (x / 2)).mark }) (d.nc+1) (upd d.C d.nc (lrC x [] clash K)) d.W d.S[0] [] U
  rw[hlen];exact h9
 ·
  have ov1:Ov { d with hp:=hp',at_:=at',V:=unV d.V (d.T.drop d.S[0]) } U:=by
   have h9:=ov.undo (d':={ d with hp:=hp',at_:=at',V:=unV d.V (d.T.drop d.S[0]) }) (s:=d.S[0]) b.ti b.ut oi (fun u=>by rw[hu u,pm.mem_iff]) rfl rfl rfl rfl
   exact h9
  exact Ov.asg ov1 (l:=x) (z:=0) _ rfl rfl rfl rfl
 ·
  intro v;show (upd F' (x / 2) _ v).mark=0
  have hm:∀v,(F' v).mark=0:=fun v=>((hF v).2.2.2.2).trans (m0 v)
  by_cases e:v=x / 2
  · rw[e,upd_same];exact hm _
  · rw[upd_other _ _ e];exact hm v
 ·
  show (d.S.take 0).length<d.S.length
  simp;omega
 ·
  show m∈(upd d.C d.nc _ d.nc).lits↔_
  rw[upd_same]
theorem learnt2 (b:Bs d I A [] U) (s:SI d.nv d.V d.T d.S d.F d.nc d.C d.W h [] U) (ov:Ov d U) (m0:∀v,(d.F v).mark=0) (l:LC d clash x o K) {y:Nat} {r:List Nat} (hL:(x::y::r).Perm (x::o)) (hmx:∀m∈r,(d.F (m / 2)).level≤(d.F (y / 2)).level) {k:Nat} (hky:(d.F (y / 2)).level=(k:Int)) (hk:k<d.S.length) {hp1 hp':List Nat} {at':Nat→Nat} {bz1:Nat→Int} {wt1:Int} (pm:hp1.Perm d.hp) {F':Nat→Fc} (hF:Lst d.F F') (oi:OI d.nv hp' at') (hu:∀u,u∈hp'↔u∈hp1∨∃l∈d.T.drop d.S[k],l / 2=u) :
  LnE d (Dt.asg { d with nc:=d.nc+1,C:=upd d.C d.nc { lrC x o clash K with lits:=x::y::r },V:=unV d.V (d.T.drop d.S[k]),W:=upd (upd d.W x (d.W x++[(d.nc,y)])) y (d.W y++[(d.nc,x)]),F:=F',T:=d.T.take d.S[k],S:=d.S.take k,head:=d.S[k],hp:=hp',at_:=at',bz:=bz1,wt:=wt1 } x (d.nc:Nat)) I A U (x::o):=by
 have hlu:=l.lu b.ut;have hm:∀m,m∈x::y::r↔m∈x::o:=fun m=>hL.mem_iff
 have hfy:∀m∈x::y::r,ng m∈d.T:=fun m h9=>l.hf m ((hm m).1 h9)
 have hnd:((x::y::r).map (· / 2)).Nodup:=((hL.map _).nodup_iff).2 l.nd;have hyo:y∈o:=by
  rcases List.mem_cons.1 ((hm y).1 (by simp)) with e|e
  · rw[e]at hnd;simp at hnd
  · exact e
 have hk0:0<k:=by have:=(l.ho y hyo).2;omega
 have si0:=s.cut hk (V':=unV d.V (d.T.drop d.S[k])) (F':=F') (fun l hl=>b.ti.unV hl) hF.four
 have hlen:(d.T.take d.S[k]).length=d.S[k]:=by rw[List.length_take];have:=b.ti.st _ (List.getElem_mem hk);omega
 have si1:SI d.nv (unV d.V (d.T.drop d.S[k])) (d.T.take d.S[k]) (d.S.take k) F' d.nc d.C d.W (d.T.take d.S[k]).length [] U:=by rw[hlen];exact si0
 obtain⟨j1,j2,j3,j4⟩:=b.ti.jump hk hk0 hfy (by rw[l.hx];omega) hky (fun m h9=>by have:=hmx m h9;omega)
 have si2:=si1.learn2 (x:={ lrC x o clash K with lits:=x::y::r }) rfl (fun m h9=>l.ok m ((hm m).1 h9)) hnd j1 j2 j3 (fun m h9=>(hlu m ((hm m).1 h9)).1) j4 (u:=(F' (x / 2)).unit) (lst:=(F' (x / 2)).last) (mk:=(F' (x / 2)).mark) (V':=upd (upd (unV d.V (d.T.drop d.S[k])) x 1) (ng x) (-1)) (fun k _=>asg_V _ x k)
 have hSn:d.S≠[]:=fun e=>by rw[e]at hk;simp at hk
 refine { eq:=rfl,bs:=?_,si:=?_,ov:=?_,m0:=?_,ls:=?_,nw:=⟨Nat.lt_succ_self _,fun m=>?_⟩,lu:=hlu,fr:=fun c hc=>s.fresh hSn l.hf (fun m h9=>(l.ho m h9).1) hc (by simp),ol:=learnt_old }
 ·
  refine⟨si2.ti,si2.ci,si2.uc,si2.ut,b.dv.more (l.from_ hL),?_⟩;have h9:=b.cn;show d.nc+1≤A+1+fixd (d.T.take d.S[k]++[x]) (d.S.take k)
  rw[fixd_take (T:=d.T) hk0 hSn x];omega
 ·
  have h9:=si2;rw[hlen]at h9;show SI d.nv (upd (upd (unV d.V (d.T.drop d.S[k])) x 1) (ng x) (-1)) (d.T.take d.S[k]++[x]) (d.S.take k) (upd F' (x / 2) { level:=((d.S.take k).length:Nat),place:=((d.T.take d.S[k]).length:Nat),reason:=(d.nc:Nat),unit:=(F' (x / 2)).unit,last:=(F' (x / 2)).last,mark:=(F' (x / 2)).mark }) (d.nc+1) _ _ d.S[k] [] U
  rw[hlen];exact h9
 ·
  have ov1:Ov { d with hp:=hp',at_:=at',V:=unV d.V (d.T.drop d.S[k]) } U:=ov.undo (d':={ d with hp:=hp',at_:=at',V:=unV d.V (d.T.drop d.S[k]) }) (s:=d.S[k]) b.ti b.ut oi (fun u=>by rw[hu u,pm.mem_iff]) rfl rfl rfl rfl
  exact Ov.asg ov1 (l:=x) (z:=0) _ rfl rfl rfl rfl
 ·
  intro v;show (upd F' (x / 2) _ v).mark=0
  have hm:∀v,(F' v).mark=0:=fun v=>((hF v).2.2.2.2).trans (m0 v)
  by_cases e:v=x / 2
  · rw[e,upd_same];exact hm _
  · rw[upd_other _ _ e];exact hm v
 ·
  show (d.S.take k).length<d.S.length
  rw[List.length_take];omega
 ·
  show m∈(upd d.C d.nc _ d.nc).lits↔_
  rw[upd_same];exact hm m
end
end Sat
namespace Sat
open Euf (OL App)
def LnEnd (g:Nat) (d:Dt) (a:Key→Value) (I:List (List Nat)) (A:Nat) (U:List Nat) (w w':World):Prop:=∃d' a' L,SW w' g d' a'∧Mo g d a w d' a' w'∧LnE d d' I A U L
abbrev Dt.od (d d2:Dt):Dt:={ d with hp:=d2.hp,at_:=d2.at_,bz:=d2.bz,wt:=d2.wt }
set_option maxRecDepth 20000 in
set_option maxHeartbeats 16000000 in
theorem learn_any (g:Nat) (d:Dt) (a:Key→Value) (clash:Nat) (I:List (List Nat)) (A:Nat) (U:List Nat) (h:Nat) (w:World) (hw:SW w g d a) (b:Bs d I A [] U) (s:SI d.nv d.V d.T d.S d.F d.nc d.C d.W h [] U) (ov:Ov d U) (m0:∀v,(d.F v).mark=0) (hmk:d.mks=[]) (hS:d.S≠[]) (hcl:clash<d.nc) (hf:∀m∈(d.C clash).lits,ng m∈d.T) (hn:d.nv≤5000) (hA:A≤90000000) :
  Calls Tryz.prog 68 #[.pointer (some ⟨g,0,none⟩),.int .i64 (clash:Nat)] w fun e w'=>e=.returned (.tuple #[])∧LnEnd g d a I A U w w':=by
 have hnc:d.nc≤99999998:=by have:=b.num;omega
 have hSl:=b.ti.lenS;have hS0:0<d.S.length:=by
  rcases Nat.eq_zero_or_pos d.S.length with e|e
  · exact absurd (List.length_eq_zero_iff.1 e) hS
  · exact e
 have HBL:=hide (blame_any g d a clash w hw b.ti b.ci ov.oi m0 hmk hS hcl hf (s.two hS hcl (by simp) hf) hn (by omega))
 have HX:=hide (And.intro b (And.intro s (And.intro ov (And.intro m0 (And.intro hmk hf)))));clear hw b s ov m0 hmk hf hS;go_enter Tryz.func68,Tryz.ntmps68;go_wp2_with fail
 refine HBL.out.mono ?_;rintro e w1 ⟨d2,a2,x,out,bb,cap,rfl,sl1,bm,mk1,bp⟩;have hol:out.length≤d.nv+1:=by
  have h9:=nodup_le (d.nv+1) ((x::out).map (· / 2)) bp.nd (fun u hu=>by
   obtain⟨m,hm,rfl⟩:=List.mem_map.1 hu;have h8:=ng_lt (HX.out.1.ti.ok _ (bp.li m hm).1).2;rw[ng_ng]at h8;omega)
  simp at h9;omega
 have HSH:=hide (shorten_any g d a w (d.od d2) d2 a2 x out bb cap w1 sl1 ⟨sl1.sw,bm.base,mk1,bp.jm⟩ HX.out.1.ti HX.out.1.ci hn (by show d.nc≤100000000;omega) (fun m hm=>(bp.li m (List.mem_cons_of_mem _ hm)).1) (by omega))
 have HB:=hide (And.intro bm bp);clear sl1 bm mk1 bp HBL;go_wp2_with fail
 refine HSH.out.mono ?_;rintro e w2 ⟨d3,a3,o,rfl,sl2,ji3,ex3,sub3,fol3⟩;have cut3:=HB.out.2.cut HX.out.1.ti HX.out.2.2.2.2.2 ji3.jm ex3 sub3 fol3;have holo:o.length≤d.nv+1:=by have:=sub3.length_le;omega
 have e4:=ji3.fm.un ji3.mk_ HX.out.2.2.2.1 HX.out.2.2.2.2.1;have hUM:=unmark_any g d3 a3 w2 ji3.sw ji3.mk_.le (by have:=ji3.mk_.len;have:=ji3.fm.nv;have e9:(d.od d2).nv=d.nv:=rfl;omega)
 rw[e4]at hUM;have HUM:=hide hUM;have HC3:=hide (And.intro cut3 (And.intro sub3 sl2));clear sl2 ji3 ex3 sub3 fol3 cut3 e4 hUM HSH;go_wp2_with fail
 refine HUM.out.mono ?_;rintro e w3 ⟨rfl,a4,s4,m4⟩;have sl4:=HC3.out.2.2.call s4 m4;have HTA:=hide (trace_any g d a w (d.od d2) a4 clash bb cap (x::o) _ w3 sl4 HX.out.1.ti HX.out.1.ci HX.out.2.2.2.1 HX.out.2.2.2.2.1 hcl HC3.out.1 hn (by show d.nc≤99999999;omega))
 clear s4 m4 sl4 HUM;go_wp2_with fail
 refine HTA.out.mono ?_;rintro e w4 ⟨d5,a5,vk,K,rfl,fm5,mk5,sl5,ok5,nk5,rs5,kn5⟩;have e5:=fm5.un mk5 HX.out.2.2.2.1 HX.out.2.2.2.2.1;have hUM:=unmark_any g d5 a5 w4 sl5.sw mk5.le (by have:=mk5.len;have:=fm5.nv;have e9:(d.od d2).nv=d.nv:=rfl;omega)
 rw[e5]at hUM;have HUM:=hide hUM;have H5:=hide (And.intro sl5 (And.intro ok5 nk5));have HRS:=hide (And.intro rs5 kn5);obtain⟨qk,ck,evk,-,-,-,-⟩:=ok5.shape;subst evk;clear fm5 mk5 sl5 ok5 nk5 rs5 kn5 e5 hUM HTA;go_wp2_with fail
 refine HUM.out.mono ?_;rintro e w5 ⟨rfl,a6,s6,m6⟩;have sl6:=H5.out.1.call s6 m6;have ok6:OL 2 127 w5 (.slice qk K.length ck) K.length (prC K):=H5.out.2.1.stay (fun b9 hb9=>m6.mv.other b9 (H5.out.2.1.lt hb9) (H5.out.2.2 b9 hb9).1)
 have nk6:∀b9,(Value.slice qk K.length ck).ownBlock=some b9→¬ Fo g (d.od d2) a6 b9∧w.heap.size≤b9:=fun b9 hb9=>⟨fun hf9=>by
  rcases m6.fo b9 hf9 with h9|h9
  · exact (H5.out.2.2 b9 hb9).1 h9
  · have:=H5.out.2.1.lt hb9;omega,(H5.out.2.2 b9 hb9).2⟩
 have HKE:=hide (keep_any g (d.od d2) a6 (lrC x o clash K) (.slice (some ⟨bb,0,none⟩) (o.length+1) cap) (.slice qk K.length ck) w5 sl6.sw sl6.ol ok6 (fun b9 hb9=>(sl6.nb b9 hb9).1) (fun b9 hb9=>(nk6 b9 hb9).1) (by show d.nc≤100000000;omega))
 have H6:=hide (And.intro sl6 nk6);clear s6 m6 sl6 ok6 nk6 HUM H5;go_wp2_with fail
 refine HKE.out.mono ?_;rintro e w6 ⟨rfl,vc,s7,mv7,fo7⟩;have m7:Mo g d a w ((d.od d2).more (lrC x o clash K)) (aMore a6 d.nc (.slice (some ⟨bb,0,none⟩) (o.length+1) cap) (.slice qk K.length ck) vc) w6:=by
  refine⟨H6.out.1.mo.mv.trans mv7 H6.out.1.mo.fo,fun b9 hb9=>?_,fun k9 hk9=>?_,Nat.le_succ _⟩
  ·
   rcases fo7 b9 hb9 with h9|h9|h9|h9
   · exact H6.out.1.mo.fo b9 h9
   · exact Or.inr (H6.out.1.nb b9 h9).2
   · exact Or.inr (H6.out.2 b9 h9).2
   · exact Or.inr (Nat.le_trans H6.out.1.mo.mv.size h9)
  · exact (aMore_stab (d:=d.od d2) a6 _ _ _ k9 hk9).trans (H6.out.1.mo.ad k9 hk9)
 have hak:aMore a6 d.nc (.slice (some ⟨bb,0,none⟩) (o.length+1) cap) (.slice qk K.length ck) vc (kLit d.nc)=.slice (some ⟨bb,0,none⟩) (o.length+1) cap:=aMore_lit _ _ _ _ _;obtain⟨a7,ha7⟩:∃a7,aMore a6 d.nc (.slice (some ⟨bb,0,none⟩) (o.length+1) cap) (.slice qk K.length ck) vc=a7:=⟨_,rfl⟩;have s7:SW w6 g ((d.od d2).more (lrC x o clash K)) (aMore a6 d.nc (.slice (some ⟨bb,0,none⟩) (o.length+1) cap) (.slice qk K.length ck) vc):=s7;rw[ha7]at s7 m7 hak;have H7:=hide (And.intro m7 hak);have HLC:Hid (LC d clash x o K):=by
  have cut3:=HC3.out.1;exact⟨HX.out.1.ti,fun m hm=>(cut3.li m hm).1,cut3.nd,HB.out.2.ha,fun m hm=>⟨HB.out.2.ho m (HC3.out.2.1.subset hm),(cut3.go _ (cut3.li m (List.mem_cons_of_mem _ hm)).2.1).1⟩,hcl,HRS.out.1,HRS.out.2⟩
 have HAG:=hide (age_any g _ a7 w6 s7);have hlg6:=s7.lt;have HPM:=hide HB.out.1;clear s7 m7 mv7 fo7 hak ha7 HKE H6 HC3 HB HRS;go_wp2_with fail
 refine HAG.out.mono ?_;rintro e w7 ⟨rfl,wt',s8,m8⟩;have H8:=hide (And.intro s8 m8);have hoiD:OI d.nv d2.hp d2.at_:=HPM.out.oi;clear s8 m8 HAG;cases o with
 | nil =>
  have HUD:=hide (undo_any g _ a7 0 w7 H8.out.1 hoiD (fun l hl=>(HX.out.1.ti.ok l hl).2) HX.out.1.ti.st hn (by have:=HX.out.1.ti.len;show d.T.length≤10000;omega) (by show d.S.length≤10000;omega) (by omega))
  go_wp2_with fail
  refine HUD.out.mono ?_;rintro e w8 ⟨rfl,hud⟩;rcases hud with⟨h9,-⟩|⟨hk,F',hp',at',a9,s9,m9,hF,oi9,hu9⟩
  · exact absurd h9 (by show ¬ d.S.length≤0;omega)
  have hE:=learnt1 HX.out.1 HX.out.2.1 HX.out.2.2.1 HX.out.2.2.2.1 hS0 HLC.out (bz1:=d2.bz) (wt1:=wt') HPM.out.pm hF oi9 hu9;have hak9:a9 (kLit d.nc)=.slice (some ⟨bb,0,none⟩) 1 cap:=(m9.ad (kLit d.nc) (by show d.nc<d.nc+1;omega)).trans H7.out.2
  have lx:((upd d.C d.nc (lrC x [] clash K)) d.nc).lits=[x]:=by rw[upd_same]
  obtain⟨b',cap',hv',lb,-,-,qb,-⟩:=s9.litR (c:=d.nc) (by show d.nc<d.nc+1;omega) (by show 0<((upd d.C d.nc (lrC x [] clash K)) d.nc).lits.length;rw[lx];simp)
  have e1:=hak9.symm.trans hv';simp only[Value.slice.injEq,Option.some.injEq,Addr.mk.injEq]at e1;obtain⟨⟨rfl,-,-⟩,-,-⟩:=e1;have q0:w8.cell? ⟨bb,0,none⟩=some (.int .i32 (x:Nat)):=by
   have h9:=qb 0 (by show 0<((upd d.C d.nc (lrC x [] clash K)) d.nc).lits.length;rw[lx];simp)
   rw[h9];simp[upd_same]
  have hxo:=HLC.out.ok x (by simp)
  have hvr:vrs ((upd d.C d.nc (lrC x [] clash K)) d.nc).lits (x:Int)=[]:=by rw[lx];simp[vrs]
  have HAS:=hide (assign_any g _ a9 x (d.nc:Int) (fun _=>0) w8 s9 hxo.2 hn (by show (d.T.take _).length≤10000;rw[List.length_take];have:=HX.out.1.ti.len;omega) (by simp) (fun _=>⟨d.nc,rfl,by show d.nc<d.nc+1;omega,by show d.nc+1≤99999999;omega,by show ((upd d.C d.nc (lrC x [] clash K)) d.nc).lits.length≤10000;rw[lx];simp,fun m hm=>by
   have hm:m∈((upd d.C d.nc (lrC x [] clash K)) d.nc).lits:=hm;rw[lx]at hm;simp at hm;omega,fun v hv=>by
   have hv:v∈vrs ((upd d.C d.nc (lrC x [] clash K)) d.nc).lits (x:Int):=hv;rw[hvr]at hv;cases hv⟩))
  have HM:=hide ((H7.out.1.trans H8.out.2).trans m9);have HE:=hide hE;have HVR:=hide hvr;clear s9 m9 hF oi9 hu9 hE hak9 hv' qb HUD hvr lx;go_wp2_with fail
  refine HAS.out.mono ?_;rintro e w9 ⟨rfl,hend⟩;have HF:Hid (LnEnd g d a I A U w w9):=by
   rcases hend with⟨h9,-⟩|⟨-,r,hr,a10,-,h9⟩
   · exact absurd rfl h9
   ·
    obtain rfl:d.nc=r:=by omega
    rcases h9 with⟨-,s10,m10⟩|⟨h8,-⟩
    · exact⟨_,a10,[x],s10,HM.out.trans m10,HE.out⟩
    · exact absurd HVR.out h8
  clear hend HAS HE;go_wp2;go_end0
  exact⟨rfl,HF.out⟩
 | cons y0 o0 =>
  obtain⟨o,ho⟩:∃o,y0::o0=o:=⟨_,rfl⟩;have ho1:1≤o.length:=by rw[← ho];simp
  rw[ho]at H7 H8 HLC holo ⊢;clear ho;obtain⟨nn,hnn⟩:∃nn,o.length+1=nn:=⟨_,rfl⟩;have lx:((upd d.C d.nc (lrC x o clash K)) d.nc).lits=x::o:=by rw[upd_same]
  have LL:((upd d.C d.nc (lrC x o clash K)) d.nc).lits.length=nn:=by rw[lx];exact hnn
  have hLS:=latestSecond_any g _ a7 d.nc bb cap w7 H8.out.1 (by show d.nc<d.nc+1;omega) (by
   show a7 (kLit d.nc)=.slice (some ⟨bb,0,none⟩) ((upd d.C d.nc (lrC x o clash K)) d.nc).lits.length cap
   rw[lx];exact H7.out.2) (fun m hm=>by
   have hm:m∈((upd d.C d.nc (lrC x o clash K)) d.nc).lits:=hm;rw[lx]at hm;exact (HLC.out.ok m hm).2) hn (by show ((upd d.C d.nc (lrC x o clash K)) d.nc).lits.length≤10000;rw[LL];omega) (by show 2≤((upd d.C d.nc (lrC x o clash K)) d.nc).lits.length;rw[LL];omega)
  have hLS:Calls Tryz.prog 100 #[.pointer (some ⟨g,0,none⟩),.slice (some ⟨bb,0,none⟩) ((upd d.C d.nc (lrC x o clash K)) d.nc).lits.length cap] w7 _:=hLS;rw[LL]at hLS;have HLS:=hide hLS;have HLL:=hide (And.intro lx LL);rw[hnn];have HNN:=hide hnn;have hn2:2≤nn:=by omega
  have hn1I:¬ ((nn:Int)=1):=by omega
  have hn1B:((nn:Int) == 1)=false:=by simpa using hn1I
  clear hLS lx LL hnn;go_wp2_with fail
  refine HLS.out.mono ?_;rintro e w8 ⟨rfl,L',cl,pm',hL0,hmx⟩;have pm':L'.Perm ((upd d.C d.nc (lrC x o clash K)) d.nc).lits:=pm';have hL0:L'[0]?=((upd d.C d.nc (lrC x o clash K)) d.nc).lits[0]?:=hL0;rw[HLL.out.1]at pm' hL0;obtain⟨y,r,rfl⟩:∃y r,L'=x::y::r:=by
   have hl9:=pm'.length_eq;match L',hl9,hL0 with
   | [],h9,_=>simp at h9
   | [_],h9,_=>have h8:1=o.length+1:=h9;omega
   | x'::y::r,_,h9=>simp at h9;exact⟨y,r,by rw[h9]⟩
  have hmr:∀m∈r,(d.F (m / 2)).level≤(d.F (y / 2)).level:=fun m hm=>by
   obtain⟨q,hq,rfl⟩:=List.mem_iff_getElem.1 hm;exact hmx (q+2) (by simp;omega) (by simp) (by omega)
  have hyo:y∈o:=by
   rcases List.mem_cons.1 (pm'.mem_iff.1 (show y∈x::y::r by simp)) with e9|e9
   · have hnd:((x::y::r).map (· / 2)).Nodup:=((pm'.map _).nodup_iff).2 HLC.out.nd;rw[e9]at hnd;simp at hnd
   · exact e9
  obtain⟨k,hk,hky⟩:∃k:Nat,k<d.S.length∧(d.F (y / 2)).level=(k:Int):=by
   have h1:=HLC.out.ho y hyo;obtain⟨q,hq,eq⟩:=List.mem_iff_getElem.1 (HLC.out.hf y (List.mem_cons_of_mem _ hyo));have h2:=(HX.out.1.ti.pl q hq).2;rw[eq,ng_var]at h2;have h3:=lvl_le d.S q;exact⟨lvl d.S q,by omega,h2⟩
  have hyk:=HLC.out.ok y (List.mem_cons_of_mem _ hyo);have hxk:=HLC.out.ok x (by simp)
  have eD:(({ (d.od d2).more (lrC x o clash K) with wt:=wt' }:Dt).lits d.nc (x::y::r))={ d with nc:=d.nc+1,C:=upd d.C d.nc { lrC x o clash K with lits:=x::y::r },hp:=d2.hp,at_:=d2.at_,bz:=d2.bz,wt:=wt' }:=by
   show ({ d with nc:=d.nc+1,C:=upd (upd d.C d.nc (lrC x o clash K)) d.nc { (upd d.C d.nc (lrC x o clash K)) d.nc with lits:=x::y::r },hp:=d2.hp,at_:=d2.at_,bz:=d2.bz,wt:=wt' }:Dt)=_
   rw[upd_same,upd_upd]
  have s9:=cl.sw;have m9:=cl.mo;rw[eD]at s9 m9;have H9:=hide (And.intro s9 ((H7.out.1.trans H8.out.2).trans m9));have HPL:=hide (And.intro pm' (And.intro hmr hky));have hav:=cl.av;have hav:a7 (kLit d.nc)=.slice (some ⟨bb,0,none⟩) ((upd d.C d.nc (lrC x o clash K)) d.nc).lits.length cap:=hav;rw[HLL.out.2]at hav;obtain⟨lb,qb,-⟩:=cl.get (by show d.nc<d.nc+1;omega) (by show 0<((upd d.C d.nc (lrC x o clash K)) d.nc).lits.length;rw[HLL.out.2];omega)
  have q1:w8.cell? ⟨bb,1,none⟩=some (.int .i32 (y:Nat)):=qb 1 (by simp)
  have h1n:(1:Int)<(nn:Int):=by omega
  have hy2:y<20000:=by omega
  have HVC:=hide (fun w9=>variable_any y w9 hy2)
  obtain⟨uy,hu⟩:∃uy,y / 2=uy:=⟨_,rfl⟩;rw[hu]at HVC hky;have hul:uy<d.nv+1:=by omega
  have huI:(uy:Int)<(d.nv:Int)+1:=by omega
  obtain⟨bF,cF,hF,lF,r0,-,-⟩:=s9.wh (v:=uy) (by show uy<d.nv+1;omega)
  have r0:w8.cell? ⟨bF,uy*6,none⟩=some (.int .i64 (d.F uy).level):=r0;rw[hky]at r0;have c8:w8.cell? ⟨g,8,none⟩=some (.slice (some ⟨bF,0,none⟩) (d.nv+1) cF):=(s9.cell 8).trans (congrArg some hF);have hlg:=s9.lt;have HUDN0:Hid (∀n9,Calls Tryz.prog 39 #[.pointer (some ⟨g,0,none⟩),.int .i64 (k:Nat)] (w8.drewN n9) fun e w'=>e=.returned (.tuple #[])∧UdEnd g { d with nc:=d.nc+1,C:=upd d.C d.nc { lrC x o clash K with lits:=x::y::r },hp:=d2.hp,at_:=d2.at_,bz:=d2.bz,wt:=wt' } a7 k (w8.drewN n9) w'):=fun n9=>(undo_any g _ a7 k (w8.drewN n9) (s9.drewN n9) hoiD (fun l hl=>(HX.out.1.ti.ok l hl).2) HX.out.1.ti.st hn (by have:=HX.out.1.ti.len;show d.T.length≤10000;omega) (by show d.S.length≤10000;omega) (by omega))
  have HAV:=hide hav;have HKS:=hide hk;clear cl pm' hL0 hmx hmr hyo eD s9 m9 hav qb hu hF hky HLS H8 hk;go_wp2_with fail
  obtain⟨E5,hE5⟩:∃E5:World→Prop,E5=fun wr=>∃n9,UdEnd g { d with nc:=d.nc+1,C:=upd d.C d.nc { lrC x o clash K with lits:=x::y::r },hp:=d2.hp,at_:=d2.at_,bz:=d2.bz,wt:=wt' } a7 k (w8.drewN n9) wr:=⟨_,rfl⟩
  have HUDN:Hid (∀wr n9,wr=w8.drewN n9→Calls Tryz.prog 39 #[.pointer (some ⟨g,0,none⟩),.int .i64 (k:Nat)] wr fun e w'=>e=.returned (.tuple #[])∧E5 w'):=fun wr n9 e9=>by
   rw[e9];exact (HUDN0.out n9).mono fun e w' ⟨h1,h2⟩=>⟨h1,by rw[hE5];exact⟨n9,h2⟩⟩
  refine wp_region_E (by kernel_rfl) [some 39,some 40,some 41,some 42,some 43,some 44,some 45,some 46,some 47,some 48,some 49,some 50,some 51] [none,none,none,none,none,none,none,none,none,none,none,none,none,none,none,none,none,none,none,none,none,none,none,none,none,none,none,none,none,none,none,none,none,none,none,none,none,none,none,some 39,some 40,some 41,some 42,some 43,some 44,some 45,some 46,some 47,some 48,some 49,some 50,some 51] (fun U=>by kernel_rfl) [fun u=>u=(.pointer (some ⟨g,0,none⟩)),fun u=>u=(.pointer (some ⟨g,0,none⟩)),fun u=>u=(.pointer (some ⟨g,0,none⟩)),fun u=>u=(.pointer (some ⟨g,8,none⟩)),fun u=>u=(.slice (some ⟨bF,0,none⟩) (d.nv+1) cF),fun u=>u=(.slice (some ⟨bb,0,none⟩) nn cap),fun u=>u=(.pointer (some ⟨bb,1,none⟩)),fun u=>u=(.int .i32 (y:Nat)),fun u9=>u9=(.int .i64 (uy:Nat)),fun u=>u=(.pointer (some ⟨bF,uy*6,none⟩)),fun u=>u=(.pointer (some ⟨bF,uy*6,none⟩)),fun u=>u=(.int .i64 (k:Nat)),fun _=>True] (fun L U wr=>(L 12=false→∃n9,wr=w8.drewN n9)∧(L 12=true→(L 0=true∧L 1=true∧L 2=true∧L 3=true∧L 4=true∧L 5=true∧L 6=true∧L 7=true∧L 8=true∧L 9=true∧L 10=true∧L 11=true)∧E5 wr)) (by kernel_rfl) (by decide) (by kernel_rfl) (by kernel_rfl) ?_ ?_ ?_
  · exact fun U=>⟨fun _=>⟨1,rfl⟩,(fun h=>by cases h)⟩
  ·
   refine StepsE.run rfl ?_ ?_
   ·
    intro L U wr hC hP hlk hcl haf A K hFm hK;simp[Aft,Region.binds]at haf;have e0:A.tmps[0]?=some (.pointer (some ⟨g,0,none⟩)):=(hFm.old 0 (by decide)).trans (by kernel_rfl)
    have HC:Hid _:=hC;clear hC;refine⟨?_⟩;go_simp;refine hK _ _ rfl ?_;obtain⟨c0,cS⟩:=HC.out;refine⟨fun h=>c0 (by simpa using h),fun h=>?_⟩
    have h9:=cS (by simpa using h)
    exact⟨by simp[h9.1],h9.2⟩
   refine StepsE.run rfl ?_ ?_
   ·
    intro L U wr hC hP hlk hcl haf A K hFm hK;simp[Aft,Region.binds]at haf;have e0:A.tmps[0]?=some (.pointer (some ⟨g,0,none⟩)):=(hFm.old 0 (by decide)).trans (by kernel_rfl)
    have HC:Hid _:=hC;clear hC;refine⟨?_⟩;go_simp;refine hK _ _ rfl ?_;obtain⟨c0,cS⟩:=HC.out;refine⟨fun h=>c0 (by simpa using h),fun h=>?_⟩
    have h9:=cS (by simpa using h)
    exact⟨by simp[h9.1],h9.2⟩
   refine StepsE.run rfl ?_ ?_
   ·
    intro L U wr hC hP hlk hcl haf A K hFm hK;simp[Aft,Region.binds]at haf;have g1:U 40=(.pointer (some ⟨g,0,none⟩)):=hP 1 40 (by simp[haf]) rfl
    have e40:A.tmps[40]?=some (.pointer (some ⟨g,0,none⟩)):=hFm.is 1 40 rfl g1;have hs:L 12=false:=by cases h:L 12 with|false=>rfl|true=>exact absurd (hC.2 h).1 (by simp[hlk])
    obtain⟨n9,hn9⟩:=hC.1 hs;have m8:wr.cell? ⟨g,8,none⟩=some (.slice (some ⟨bF,0,none⟩) (d.nv+1) cF):=by rw[hn9];exact c8
    have m1:wr.cell? ⟨bb,1,none⟩=some (.int .i32 (y:Nat)):=by rw[hn9];exact q1
    have m0:wr.cell? ⟨bF,uy*6,none⟩=some (.int .i64 (k:Nat)):=by rw[hn9];exact r0
    have mg:g<wr.heap.size:=by rw[hn9];exact hlg
    have mb:bb<wr.heap.size:=by rw[hn9];exact lb
    have mF:bF<wr.heap.size:=by rw[hn9];exact lF
    clear hn9;have HC:Hid _:=hC;clear hC;refine⟨?_⟩;go_simp;refine hK _ _ rfl ?_;obtain⟨c0,cS⟩:=HC.out;refine⟨fun h=>c0 (by simpa using h),fun h=>?_⟩
    have h9:=cS (by simpa using h)
    exact⟨by simp[h9.1],h9.2⟩
   refine StepsE.run rfl ?_ ?_
   ·
    intro L U wr hC hP hlk hcl haf A K hFm hK;simp[Aft,Region.binds]at haf;have g2:U 41=(.pointer (some ⟨g,0,none⟩)):=hP 2 41 (by simp[haf]) rfl
    have e41:A.tmps[41]?=some (.pointer (some ⟨g,0,none⟩)):=hFm.is 2 41 rfl g2;have hs:L 12=false:=by cases h:L 12 with|false=>rfl|true=>exact absurd (hC.2 h).1 (by simp[hlk])
    obtain⟨n9,hn9⟩:=hC.1 hs;have m8:wr.cell? ⟨g,8,none⟩=some (.slice (some ⟨bF,0,none⟩) (d.nv+1) cF):=by rw[hn9];exact c8
    have m1:wr.cell? ⟨bb,1,none⟩=some (.int .i32 (y:Nat)):=by rw[hn9];exact q1
    have m0:wr.cell? ⟨bF,uy*6,none⟩=some (.int .i64 (k:Nat)):=by rw[hn9];exact r0
    have mg:g<wr.heap.size:=by rw[hn9];exact hlg
    have mb:bb<wr.heap.size:=by rw[hn9];exact lb
    have mF:bF<wr.heap.size:=by rw[hn9];exact lF
    clear hn9;have HC:Hid _:=hC;clear hC;refine⟨?_⟩;go_simp;refine hK _ _ rfl ?_;obtain⟨c0,cS⟩:=HC.out;refine⟨fun h=>c0 (by simpa using h),fun h=>?_⟩
    have h9:=cS (by simpa using h)
    exact⟨by simp[h9.1],h9.2⟩
   refine StepsE.run rfl ?_ ?_
   ·
    intro L U wr hC hP hlk hcl haf A K hFm hK;simp[Aft,Region.binds]at haf;have g3:U 42=(.pointer (some ⟨g,8,none⟩)):=hP 3 42 (by simp[haf]) rfl
    have e42:A.tmps[42]?=some (.pointer (some ⟨g,8,none⟩)):=hFm.is 3 42 rfl g3;have hs:L 12=false:=by cases h:L 12 with|false=>rfl|true=>exact absurd (hC.2 h).1 (by simp[hlk])
    obtain⟨n9,hn9⟩:=hC.1 hs;have m8:wr.cell? ⟨g,8,none⟩=some (.slice (some ⟨bF,0,none⟩) (d.nv+1) cF):=by rw[hn9];exact c8
    have m1:wr.cell? ⟨bb,1,none⟩=some (.int .i32 (y:Nat)):=by rw[hn9];exact q1
    have m0:wr.cell? ⟨bF,uy*6,none⟩=some (.int .i64 (k:Nat)):=by rw[hn9];exact r0
    have mg:g<wr.heap.size:=by rw[hn9];exact hlg
    have mb:bb<wr.heap.size:=by rw[hn9];exact lb
    have mF:bF<wr.heap.size:=by rw[hn9];exact lF
    clear hn9;have HC:Hid _:=hC;clear hC;refine⟨?_⟩;go_simp;refine hK _ _ rfl ?_;obtain⟨c0,cS⟩:=HC.out;refine⟨fun h=>c0 (by simpa using h),fun h=>?_⟩
    have h9:=cS (by simpa using h)
    exact⟨by simp[h9.1],h9.2⟩
   refine StepsE.run rfl ?_ ?_
   ·
    intro L U wr hC hP hlk hcl haf A K hFm hK;simp[Aft,Region.binds]at haf;have e4:A.tmps[4]?=some (.slice (some ⟨bb,0,none⟩) nn cap):=(hFm.old 4 (by decide)).trans (by kernel_rfl)
    have HC:Hid _:=hC;clear hC;refine⟨?_⟩;go_simp;refine hK _ _ rfl ?_;obtain⟨c0,cS⟩:=HC.out;refine⟨fun h=>c0 (by simpa using h),fun h=>?_⟩
    have h9:=cS (by simpa using h)
    exact⟨by simp[h9.1],h9.2⟩
   refine StepsE.run rfl ?_ ?_
   ·
    intro L U wr hC hP hlk hcl haf A K hFm hK;simp[Aft,Region.binds]at haf;have g5:U 44=(.slice (some ⟨bb,0,none⟩) nn cap):=hP 5 44 (by simp[haf]) rfl
    have e44:A.tmps[44]?=some (.slice (some ⟨bb,0,none⟩) nn cap):=hFm.is 5 44 rfl g5;have hs:L 12=false:=by cases h:L 12 with|false=>rfl|true=>exact absurd (hC.2 h).1 (by simp[hlk])
    obtain⟨n9,hn9⟩:=hC.1 hs;have m8:wr.cell? ⟨g,8,none⟩=some (.slice (some ⟨bF,0,none⟩) (d.nv+1) cF):=by rw[hn9];exact c8
    have m1:wr.cell? ⟨bb,1,none⟩=some (.int .i32 (y:Nat)):=by rw[hn9];exact q1
    have m0:wr.cell? ⟨bF,uy*6,none⟩=some (.int .i64 (k:Nat)):=by rw[hn9];exact r0
    have mg:g<wr.heap.size:=by rw[hn9];exact hlg
    have mb:bb<wr.heap.size:=by rw[hn9];exact lb
    have mF:bF<wr.heap.size:=by rw[hn9];exact lF
    clear hn9;have HC:Hid _:=hC;clear hC;refine⟨?_⟩;go_simp;refine hK _ _ rfl ?_;obtain⟨c0,cS⟩:=HC.out;refine⟨fun h=>c0 (by simpa using h),fun h=>?_⟩
    have h9:=cS (by simpa using h)
    exact⟨by simp[h9.1],h9.2⟩
   refine StepsE.run rfl ?_ ?_
   ·
    intro L U wr hC hP hlk hcl haf A K hFm hK;simp[Aft,Region.binds]at haf;have g6:U 45=(.pointer (some ⟨bb,1,none⟩)):=hP 6 45 (by simp[haf]) rfl
    have e45:A.tmps[45]?=some (.pointer (some ⟨bb,1,none⟩)):=hFm.is 6 45 rfl g6;have hs:L 12=false:=by cases h:L 12 with|false=>rfl|true=>exact absurd (hC.2 h).1 (by simp[hlk])
    obtain⟨n9,hn9⟩:=hC.1 hs;have m8:wr.cell? ⟨g,8,none⟩=some (.slice (some ⟨bF,0,none⟩) (d.nv+1) cF):=by rw[hn9];exact c8
    have m1:wr.cell? ⟨bb,1,none⟩=some (.int .i32 (y:Nat)):=by rw[hn9];exact q1
    have m0:wr.cell? ⟨bF,uy*6,none⟩=some (.int .i64 (k:Nat)):=by rw[hn9];exact r0
    have mg:g<wr.heap.size:=by rw[hn9];exact hlg
    have mb:bb<wr.heap.size:=by rw[hn9];exact lb
    have mF:bF<wr.heap.size:=by rw[hn9];exact lF
    clear hn9;have HC:Hid _:=hC;clear hC;refine⟨?_⟩;go_simp;refine hK _ _ rfl ?_;obtain⟨c0,cS⟩:=HC.out;refine⟨fun h=>c0 (by simpa using h),fun h=>?_⟩
    have h9:=cS (by simpa using h)
    exact⟨by simp[h9.1],h9.2⟩
   refine StepsE.run rfl ?_ ?_
   ·
    intro L U wr hC hP hlk hcl haf A K hFm hK;simp[Aft,Region.binds]at haf;have g7:U 46=(.int .i32 (y:Nat)):=hP 7 46 (by simp[haf]) rfl
    have e46:A.tmps[46]?=some (.int .i32 (y:Nat)):=hFm.is 7 46 rfl g7;refine⟨?_⟩;have hs:L 12=false:=by cases h:L 12 with|false=>rfl|true=>exact absurd (hC.2 h).1 (by simp[hlk])
    obtain⟨n9,hn9⟩:=hC.1 hs;have HN9:=hide hn9;clear hC hn9;go_simp;refine (HVC.out wr).mono ?_;rintro e w9 ⟨rfl,hw9⟩;subst hw9;go_simp;exact hK _ _ rfl ⟨fun _=>⟨n9,HN9.out⟩,fun h=>absurd (show L 12=true by simpa using h) (by rw[hs];decide)⟩
   refine StepsE.run rfl ?_ ?_
   ·
    intro L U wr hC hP hlk hcl haf A K hFm hK;simp[Aft,Region.binds]at haf;have g4:U 43=(.slice (some ⟨bF,0,none⟩) (d.nv+1) cF):=hP 4 43 (by simp[haf]) rfl
    have e43:A.tmps[43]?=some (.slice (some ⟨bF,0,none⟩) (d.nv+1) cF):=hFm.is 4 43 rfl g4;have g8:U 47=(.int .i64 (uy:Nat)):=hP 8 47 (by simp[haf]) rfl
    have e47:A.tmps[47]?=some (.int .i64 (uy:Nat)):=hFm.is 8 47 rfl g8;have hs:L 12=false:=by cases h:L 12 with|false=>rfl|true=>exact absurd (hC.2 h).1 (by simp[hlk])
    obtain⟨n9,hn9⟩:=hC.1 hs;have m8:wr.cell? ⟨g,8,none⟩=some (.slice (some ⟨bF,0,none⟩) (d.nv+1) cF):=by rw[hn9];exact c8
    have m1:wr.cell? ⟨bb,1,none⟩=some (.int .i32 (y:Nat)):=by rw[hn9];exact q1
    have m0:wr.cell? ⟨bF,uy*6,none⟩=some (.int .i64 (k:Nat)):=by rw[hn9];exact r0
    have mg:g<wr.heap.size:=by rw[hn9];exact hlg
    have mb:bb<wr.heap.size:=by rw[hn9];exact lb
    have mF:bF<wr.heap.size:=by rw[hn9];exact lF
    clear hn9;have HC:Hid _:=hC;clear hC;refine⟨?_⟩;go_simp;refine hK _ _ rfl ?_;obtain⟨c0,cS⟩:=HC.out;refine⟨fun h=>c0 (by simpa using h),fun h=>?_⟩
    have h9:=cS (by simpa using h)
    exact⟨by simp[h9.1],h9.2⟩
   refine StepsE.run rfl ?_ ?_
   ·
    intro L U wr hC hP hlk hcl haf A K hFm hK;simp[Aft,Region.binds]at haf;have g9:U 48=(.pointer (some ⟨bF,uy*6,none⟩)):=hP 9 48 (by simp[haf]) rfl
    have e48:A.tmps[48]?=some (.pointer (some ⟨bF,uy*6,none⟩)):=hFm.is 9 48 rfl g9;have hs:L 12=false:=by cases h:L 12 with|false=>rfl|true=>exact absurd (hC.2 h).1 (by simp[hlk])
    obtain⟨n9,hn9⟩:=hC.1 hs;have m8:wr.cell? ⟨g,8,none⟩=some (.slice (some ⟨bF,0,none⟩) (d.nv+1) cF):=by rw[hn9];exact c8
    have m1:wr.cell? ⟨bb,1,none⟩=some (.int .i32 (y:Nat)):=by rw[hn9];exact q1
    have m0:wr.cell? ⟨bF,uy*6,none⟩=some (.int .i64 (k:Nat)):=by rw[hn9];exact r0
    have mg:g<wr.heap.size:=by rw[hn9];exact hlg
    have mb:bb<wr.heap.size:=by rw[hn9];exact lb
    have mF:bF<wr.heap.size:=by rw[hn9];exact lF
    clear hn9;have HC:Hid _:=hC;clear hC;refine⟨?_⟩;go_simp;refine hK _ _ rfl ?_;obtain⟨c0,cS⟩:=HC.out;refine⟨fun h=>c0 (by simpa using h),fun h=>?_⟩
    have h9:=cS (by simpa using h)
    exact⟨by simp[h9.1],h9.2⟩
   refine StepsE.run rfl ?_ ?_
   ·
    intro L U wr hC hP hlk hcl haf A K hFm hK;simp[Aft,Region.binds]at haf;have g10:U 49=(.pointer (some ⟨bF,uy*6,none⟩)):=hP 10 49 (by simp[haf]) rfl
    have e49:A.tmps[49]?=some (.pointer (some ⟨bF,uy*6,none⟩)):=hFm.is 10 49 rfl g10;have hs:L 12=false:=by cases h:L 12 with|false=>rfl|true=>exact absurd (hC.2 h).1 (by simp[hlk])
    obtain⟨n9,hn9⟩:=hC.1 hs;have m8:wr.cell? ⟨g,8,none⟩=some (.slice (some ⟨bF,0,none⟩) (d.nv+1) cF):=by rw[hn9];exact c8
    have m1:wr.cell? ⟨bb,1,none⟩=some (.int .i32 (y:Nat)):=by rw[hn9];exact q1
    have m0:wr.cell? ⟨bF,uy*6,none⟩=some (.int .i64 (k:Nat)):=by rw[hn9];exact r0
    have mg:g<wr.heap.size:=by rw[hn9];exact hlg
    have mb:bb<wr.heap.size:=by rw[hn9];exact lb
    have mF:bF<wr.heap.size:=by rw[hn9];exact lF
    clear hn9;have HC:Hid _:=hC;clear hC;refine⟨?_⟩;go_simp;refine hK _ _ rfl ?_;obtain⟨c0,cS⟩:=HC.out;refine⟨fun h=>c0 (by simpa using h),fun h=>?_⟩
    have h9:=cS (by simpa using h)
    exact⟨by simp[h9.1],h9.2⟩
   refine StepsE.run rfl ?_ StepsE.nil
   ·
    intro L U wr hC hP hlk hcl haf A K hFm hK;simp[Aft,Region.binds]at haf;have g0:U 39=(.pointer (some ⟨g,0,none⟩)):=hP 0 39 (by simp[haf]) rfl
    have e39:A.tmps[39]?=some (.pointer (some ⟨g,0,none⟩)):=hFm.is 0 39 rfl g0;have g11:U 50=(.int .i64 (k:Nat)):=hP 11 50 (by simp[haf]) rfl
    have e50:A.tmps[50]?=some (.int .i64 (k:Nat)):=hFm.is 11 50 rfl g11;have l0:L 0=true:=by simp[haf]
    have l11:L 11=true:=by simp[haf]
    have a11:=hcl 11 _ rfl l11;simp[Aft,Region.binds]at a11;have l10:L 10=true:=by simp[a11]
    have a10:=hcl 10 _ rfl l10;simp[Aft,Region.binds]at a10;have l9:L 9=true:=by simp[a10]
    have a9:=hcl 9 _ rfl l9;simp[Aft,Region.binds]at a9;have l4:L 4=true:=by simp[a9]
    have l8:L 8=true:=by simp[a9]
    have a4:=hcl 4 _ rfl l4;simp[Aft,Region.binds]at a4;have l3:L 3=true:=by simp[a4]
    have a8:=hcl 8 _ rfl l8;simp[Aft,Region.binds]at a8;have l7:L 7=true:=by simp[a8]
    have a3:=hcl 3 _ rfl l3;simp[Aft,Region.binds]at a3;have l2:L 2=true:=by simp[a3]
    have a7:=hcl 7 _ rfl l7;simp[Aft,Region.binds]at a7;have l6:L 6=true:=by simp[a7]
    have a2:=hcl 2 _ rfl l2;simp[Aft,Region.binds]at a2;have l1:L 1=true:=by simp[a2]
    have a6:=hcl 6 _ rfl l6;simp[Aft,Region.binds]at a6;have l5:L 5=true:=by simp[a6]
    refine⟨?_⟩;obtain⟨n9,hn9⟩:=hC.1 hlk;have HN9:=hide hn9;clear hC hn9;go_simp;refine (HUDN.out wr n9 HN9.out).mono ?_;rintro e w9 ⟨rfl,hud⟩;have HUU:=hide hud;clear hud;go_simp;exact hK _ _ trivial ⟨(fun h=>by simp at h),fun _=>⟨by simp[l0,l1,l2,l3,l4,l5,l6,l7,l8,l9,l10,l11],HUU.out⟩⟩
  intro L U5 V5 hall hC hP;have hcut:=(hC.2 (hall 12 (by decide))).2
  rw[hE5]at hcut;simp only[setM_some,setM_none,setM_nil];clear hC hP hall hE5 HUDN HUDN0;rcases hcut with⟨n9,⟨h9,-⟩|⟨hk9,F',hp',at',a9,s9,m9,hF9,oi9,hu9⟩⟩
  · exact absurd h9 (by show ¬ d.S.length≤k;have:=HKS.out;omega)
  have hE:=learnt2 HX.out.1 HX.out.2.1 HX.out.2.2.1 HX.out.2.2.2.1 HLC.out HPL.out.1 HPL.out.2.1 HPL.out.2.2 HKS.out (bz1:=d2.bz) (wt1:=wt') HPM.out.pm hF9 oi9 hu9;have m9w:=(H9.out.2.drewN n9).trans m9;have lx9:((upd d.C d.nc { lrC x o clash K with lits:=x::y::r }) d.nc).lits=x::y::r:=by rw[upd_same]
  have hxy:x≠y:=fun e9=>by
   have hnd:((x::y::r).map (· / 2)).Nodup:=((HPL.out.1.map _).nodup_iff).2 HLC.out.nd;rw[e9]at hnd;simp at hnd
  have hrl:r.length≤10000:=by have:=HPL.out.1.length_eq;simp at this;omega
  have HWA:=hide (watch_any g _ a9 d.nc x y r V5 s9 (by show d.nc<d.nc+1;omega) (by show d.nc+1≤100000000;omega) lx9 hxy ⟨hxk.2,hyk.2⟩ hn hrl (fun l hl=>by have:=HX.out.2.1.wi.len hl;show (d.W l).length≤100000000;omega))
  have HE:=hide hE;have HM9:=hide m9w;have hak9:a9 (kLit d.nc)=.slice (some ⟨bb,0,none⟩) nn cap:=(m9.ad (kLit d.nc) (by show d.nc<d.nc+1;omega)).trans HAV.out
  have HAK:=hide hak9;clear s9 m9 hF9 oi9 hu9 hE m9w HVC lb q1 lF r0 c8 hlg hak9;go_wp2_with fail
  refine HWA.out.mono ?_;rintro e w10 ⟨rfl,a10,s10,m10⟩;rw[wtD_two]at s10 m10;have hak10:a10 (kLit d.nc)=.slice (some ⟨bb,0,none⟩) nn cap:=(m10.ad (kLit d.nc) (by show d.nc<d.nc+1;omega)).trans HAK.out
  have lx10:((upd d.C d.nc { lrC x o clash K with lits:=x::y::r }) d.nc).lits=x::y::r:=by rw[upd_same]
  obtain⟨b',cap',hv',lb,-,-,qb,-⟩:=s10.litR (c:=d.nc) (by show d.nc<d.nc+1;omega) (by show 0<((upd d.C d.nc { lrC x o clash K with lits:=x::y::r }) d.nc).lits.length;rw[lx10];simp)
  have e1:=hak10.symm.trans hv';simp only[Value.slice.injEq,Option.some.injEq,Addr.mk.injEq]at e1;obtain⟨⟨rfl,-,-⟩,-,-⟩:=e1;have q0:w10.cell? ⟨bb,0,none⟩=some (.int .i32 (x:Nat)):=by
   have h9:=qb 0 (by show 0<((upd d.C d.nc { lrC x o clash K with lits:=x::y::r }) d.nc).lits.length;rw[lx10];simp)
   rw[h9];simp[upd_same]
  have hSk:d.S.take k≠[]:=fun e9=>by
   have h9:(d.S.take k).length=k:=by rw[List.length_take];have:=HKS.out;omega
   have h8:=HPL.out.2.2;have hyo:y∈o:=by
    rcases List.mem_cons.1 (HPL.out.1.mem_iff.1 (show y∈x::y::r by simp)) with e8|e8
    · exact absurd e8.symm hxy
    · exact e8
   have h7:=(HLC.out.ho y hyo).2;rw[e9]at h9;simp at h9;omega
  have h0n:(0:Int)<(nn:Int):=by omega
  have HAS:=hide (assign_any g _ a10 x (d.nc:Int) (fun _=>0) w10 s10 hxk.2 hn (by show (d.T.take _).length≤10000;rw[List.length_take];have:=HX.out.1.ti.len;omega) (by show (d.S.take k).length≤10000;rw[List.length_take];omega) (fun e9=>absurd e9 hSk))
  have HM10:=hide (HM9.out.trans m10);have HSK:=hide hSk;clear s10 m10 hak10 hv' qb HWA hSk lx10 lx9;go_wp2_with fail
  refine HAS.out.mono ?_;rintro e w11 ⟨rfl,hend⟩;have HF:Hid (LnEnd g d a I A U w w11):=by
   rcases hend with⟨-,a11,-,s11,m11⟩|⟨h9,-⟩
   · exact⟨_,a11,x::o,s11,HM10.out.trans m11,HE.out⟩
   · exact absurd h9 HSK.out
  clear hend HAS HE;go_wp2;go_end0
  exact⟨rfl,HF.out⟩
end Sat
namespace Sat
open Euf (OL App)
theorem load_any (b o:Nat) (x:Int) (w:World) (hc:w.cell? ⟨b,o,none⟩=some (.int .i64 x)) (lb:b<w.heap.size):Calls Tryz.prog 44 #[.pointer (some ⟨b,o,none⟩)] w fun e w'=>e=.returned (.int .i64 x)∧w'=w:=by
 have hl:=run_call_load (P:=Tryz.prog) Tryz.func75 (by kernel_rfl) (by kernel_rfl) (by kernel_rfl) .i64 (by kernel_rfl) hc
 go_enter Tryz.func44,Tryz.ntmps44;go_wp2;go_ret
 exact⟨rfl,rfl⟩
theorem store_any (b o:Nat) (x y:Int) (w:World) (hc:w.cell? ⟨b,o,none⟩=some (.int .i64 x)) (hz:w.frozen? ⟨b,o,none⟩=false) (lb:b<w.heap.size):Calls Tryz.prog 36 #[.pointer (some ⟨b,o,none⟩),.int .i64 y] w fun e w'=>e=.returned (.tuple #[])∧w'=w.setCell ⟨b,o,none⟩ (.int .i64 y):=by
 have hl:=run_call_store (P:=Tryz.prog) Tryz.func60 (by kernel_rfl) (by kernel_rfl) (by kernel_rfl) (by kernel_rfl) (k:=.i64) (y:=y) hc hz
 go_enter Tryz.func36,Tryz.ntmps36;go_wp2;go_end0
 exact⟨rfl,rfl⟩
theorem add_any (b o:Nat) (x:Int) (w:World) (hc:w.cell? ⟨b,o,none⟩=some (.int .i64 x)) (hz:w.frozen? ⟨b,o,none⟩=false) (lb:b<w.heap.size) (h1:0≤x) (h2:x≤1000000000000):Calls Tryz.prog 92 #[.pointer (some ⟨b,o,none⟩),.int .i64 1] w fun e w'=>e=.returned (.int .i64 (x+1))∧w'=w.setCell ⟨b,o,none⟩ (.int .i64 (x+1)):=by
 have hl:=run_call_add (P:=Tryz.prog) Tryz.func121 (by kernel_rfl) (by kernel_rfl) (by kernel_rfl) .i64 (by kernel_rfl) (y:=1) (s:=x+1) hc hz (by
  have hw:IntKind.i64.wrap (x+1)=x+1:=by rw[IntWalk.i64_left,IntWalk.wrap64_in _ (by omega)]
  simp[go_sem,hw])
 go_enter Tryz.func92,Tryz.ntmps92;go_wp2;go_ret
 exact⟨rfl,rfl⟩
def SpE (g:Nat) (d:Dt) (a:Key→Value) (bu:Int) (w:World) (e:Ending) (w':World):Prop :=
  (bu≤d.steps∧e=.returned (.bool false)∧w'=w)∨(d.steps<bu∧e=.returned (.bool true)∧SW w' g { d with steps:=d.steps+1 } a∧Mo g d a w { d with steps:=d.steps+1 } a w')
set_option maxHeartbeats 4000000 in
theorem step_any (g:Nat) (d:Dt) (a:Key→Value) (bu:Int) (w:World) (h:SW w g d a) (h1:0≤d.steps) (h2:d.steps≤1000000000000) :
  Calls Tryz.prog 66 #[.pointer (some ⟨g,0,none⟩),.int .i64 bu] w fun e w'=>SpE g d a bu w e w':=by
 have c17:w.cell? ⟨g,17,none⟩=some (.int .i64 d.steps):=h.cell 17;have z17:=h.frozen 17;have hlg:=h.lt;have HL:=hide (load_any g 17 d.steps w c17 hlg);have HA:=hide (add_any g 17 d.steps w c17 z17 hlg h1 h2);have H:=hide h;by_cases hb:bu≤d.steps
 ·
  have hbI:bu≤d.steps:=hb;have HE:Hid (SpE g d a bu w (.returned (.bool false)) w):=Or.inl ⟨hb,rfl,rfl⟩;generalize d.steps=st at *;clear h;go_enter Tryz.func66,Tryz.ntmps66;go_wp2_with (go_at_call 44;refine HL.out.mono ?_;rintro e w9 ⟨rfl,hw9⟩;obtain rfl:=hw9.symm)
  go_ret
  exact HE.out
 ·
  have hbI:¬ (bu≤d.steps):=hb;have HS:=hide (h.steps_ (d.steps+1));have HE:Hid (SpE g d a bu w (.returned (.bool true)) (w.setCell ⟨g,17,none⟩ (.int .i64 (d.steps+1)))):=Or.inr ⟨by omega,rfl,HS.out.1,HS.out.2⟩
  clear h HS;generalize d.steps=st at *;go_enter Tryz.func66,Tryz.ntmps66;go_wp2_with (first|(go_at_call 44;refine HL.out.mono ?_;rintro e w9 ⟨rfl,hw9⟩;obtain rfl:=hw9.symm)|(go_at_call 92;refine HA.out.mono ?_;rintro e w9 ⟨rfl,rfl⟩))
  go_ret
  exact HE.out
def RfE (g:Nat) (d:Dt) (a:Key→Value) (I:List (List Nat)) (w w':World):Prop :=
  ∃(X:Cl) (a':Key→Value),X.lits=[]∧X.num=-1∧SW w' g { d.more X with refuted:=true } a'∧Mo g d a w { d.more X with refuted:=true } a' w'∧Dv (d.nc+1) (upd d.C d.nc X) I
theorem vrs_all {L:List Nat} {v:Nat}:v∈vrs L (-1)↔∃m∈L,m / 2=v:=by
 unfold vrs;constructor
 · intro h;obtain⟨m,h1,h2⟩:=List.mem_map.1 h;exact⟨m,(List.mem_filter.1 h1).1,h2⟩
 · rintro⟨m,h1,h2⟩;exact List.mem_map.2 ⟨m,List.mem_filter.2 ⟨h1,by simp<;>omega⟩,h2⟩
set_option maxHeartbeats 4000000 in
theorem refute_any (g:Nat) (d:Dt) (a:Key→Value) (clash:Nat) (I:List (List Nat)) (A:Nat) (U:List Nat) (w:World) (h:SW w g d a) (b:Bs d I A [] U) (hS:d.S=[]) (hcl:clash<d.nc) (hf:∀m∈(d.C clash).lits,ng m∈d.T) (hn:d.nv≤5000) (hA:A≤90000000) :
  Calls Tryz.prog 67 #[.pointer (some ⟨g,0,none⟩),.int .i64 (clash:Nat)] w fun e w'=>e=.returned (.tuple #[])∧RfE g d a I w w':=by
 have hnc:d.nc≤99999999:=by have:=b.num;omega
 have hun:∀v∈vrs (d.C clash).lits (-1),∃t∈d.T,t / 2=v∧ng t∈(d.C clash).lits∧∃u,u<d.nc∧(d.F v).unit=((u:Nat):Int)∧(d.C u).lits=[t]:=fun v hv=>by
  obtain⟨m,h1,h2⟩:=vrs_all.1 hv;obtain⟨i,hi,ei⟩:=List.mem_iff_getElem.1 (hf m h1);obtain⟨u,u1,u2,u3⟩:=b.ti.un i hi (by rw[hS];rfl)
  rw[ei]at u2 u3;rw[ng_var,h2]at u2;exact⟨ng m,hf m h1,by rw[ng_var,h2],by rw[ng_ng];exact h1,u,u1,u2,u3⟩
 obtain⟨X,hX⟩:∃X,vrs (d.C clash).lits (-1)=X:=⟨_,rfl⟩;have hXl:X.length≤5001:=by have h9:=vrs_len (d.C clash).lits (-1);have h8:=b.ci.len hcl;rw[hX]at h9;omega
 have hXu:∀v∈X,v≤d.nv∧(d.F v).unit=(((d.F v).unit.toNat:Nat):Int)∧(d.F v).unit.toNat≤100000000∧(d.F v).unit.toNat<d.nc:=fun v hv=>by
  obtain⟨t,t1,t2,-,u,u1,u2,-⟩:=hun v (by rw[hX];exact hv)
  have:=(b.ti.ok t t1).2;rw[u2];exact⟨by omega,by simp,by simp;omega,by simp;exact u1⟩
 have hfr:From d.C I d.nc { lits:=[],num:=-1,first:=(clash:Int),links:=X.map (fun v=>((d.F v).unit.toNat,v)) }:=by
  refine Or.inr ⟨rfl,clash,rfl,hcl,fun p hp=>?_,?_,[],List.nodup_nil,fun v hv=>(by cases hv),by show (List.map _ _).length≤_;rw[List.length_map];simp;omega⟩
  · obtain⟨v,hv,rfl⟩:=List.mem_map.1 hp;exact (hXu v hv).2.2.2
  ·
   have hnd:X.Nodup:=by
    rw[← hX];unfold vrs;exact List.Nodup.sublist (List.Sublist.map _ List.filter_sublist) (b.ci.nd clash hcl)
   refine (rsl_units d.T b.ti.nd (fun v=>(d.F v).unit.toNat) X (·∈(d.C clash).lits) hnd (fun v hv=>?_) (fun m hm hmX=>hf m hm)).congr (fun _=>Iff.rfl) (fun m=>?_) (fun _ _ _=>Iff.rfl)
   ·
    obtain⟨t,t1,t2,t3,u,u1,u2,u3⟩:=hun v (by rw[hX];exact hv)
    refine⟨t,t1,t2,?_,t3⟩;show (d.C (d.F v).unit.toNat).lits=[t]
    rw[u2];simpa using u3
   ·
    constructor
    · rintro⟨h1,h2⟩;exact absurd (by rw[← hX];exact vrs_all.2 ⟨m,h1,rfl⟩) h2
    · intro h9;cases h9
 have HVA:=hide (variables_any g d a clash (-1) w h hcl (by omega) (by have:=b.ci.len hcl;omega) (fun m hm=>by have:=(b.ci.ok clash hcl m hm).2;omega))
 rw[hX]at HVA;have H:=hide h;have HXU:=hide hXu;have HDV:=hide (b.dv.more hfr);clear h b hf hun hX hXu hfr;go_enter Tryz.func67,Tryz.ntmps67;go_wp2_with fail
 refine HVA.out.mono ?_;rintro e w1 ⟨v1,rfl,ol1,own1,bl1⟩;obtain⟨q1,c1,ev1,-⟩:=ol1.shape;subst ev1;have s1:=H.out.below bl1;have HUF:=hide (unfixed_any g d a (.slice none 0 0) (.slice q1 X.length c1) [] X (fun v=>(d.F v).unit.toNat) w1 s1 (Euf.OL.nil _ _ _ _) (fun b9 hb9=>by cases hb9) ol1 (fun v hv=>⟨(HXU.out v hv).1,(HXU.out v hv).2.1,(HXU.out v hv).2.2.1⟩) hn (by simp) (by omega))
 have H1:=hide (And.intro s1 bl1);clear ol1 own1 bl1 s1 HVA;go_wp2_with fail
 refine HUF.out.mono ?_;rintro e w2 ⟨v2,rfl,ol2,own2,mv2⟩;have bl2:Below w1.heap.size w1 w2:=⟨mv2.os,mv2.tape,mv2.output,mv2.size,fun b9 hb9=>mv2.other b9 hb9 (fun e9=>by cases e9)⟩
 have s2:=H1.out.1.below bl2;obtain⟨q2,c2,ev2,-⟩:=ol2.shape;subst ev2;have ol2:OL 2 127 w2 (.slice q2 (X.map (fun v=>((d.F v).unit.toNat,v))).length c2) (X.map (fun v=>((d.F v).unit.toNat,v))).length (prC (X.map (fun v=>((d.F v).unit.toNat,v)))):=ol2
 have nk2:∀b9,(Value.slice q2 (X.map (fun v=>((d.F v).unit.toNat,v))).length c2).ownBlock=some b9→¬ Fo g d a b9∧w.heap.size≤b9:=fun b9 hb9=>by
  rcases own2 b9 hb9 with h9|h9
  · cases h9
  · exact⟨fun hf9=>by have:=H1.out.1.foLt hf9;omega,Nat.le_trans H1.out.2.size h9⟩
 have HKE:=hide (keep_any g d a { lits:=[],num:=-1,first:=(clash:Int),links:=X.map (fun v=>((d.F v).unit.toNat,v)) } (.slice none 0 0) (.slice q2 (X.map (fun v=>((d.F v).unit.toNat,v))).length c2) w2 s2 (Euf.OL.nil _ _ _ _) ol2 (fun b9 hb9=>by cases hb9) (fun b9 hb9=>(nk2 b9 hb9).1) (by omega))
 have HB2:=hide (And.intro (H1.out.2.trans (bl2.mono H1.out.2.size)) nk2);clear s2 ol2 own2 mv2 bl2 nk2 HUF H1;obtain⟨nk,hnk⟩:∃nk,([]++X.map (fun v=>((d.F v).unit.toNat,v))).length=nk:=⟨_,rfl⟩
 have hnk2:(X.map (fun v=>((d.F v).unit.toNat,v))).length=nk:=hnk
 rw[hnk2]at HKE HB2;rw[hnk];clear hnk hnk2;go_wp2_with fail
 refine HKE.out.mono ?_;rintro e w3 ⟨rfl,vc,s3,mv3,fo3⟩;obtain⟨Xc,hXc⟩:∃Xc:Cl,({ lits:=[],num:=-1,first:=(clash:Int),links:=X.map (fun v=>((d.F v).unit.toNat,v)) }:Cl)=Xc:=⟨_,rfl⟩
 have hXl0:Xc.lits=[]∧Xc.num=-1:=by rw[← hXc];exact⟨rfl,rfl⟩
 rw[hXc]at s3 fo3 HDV;have m3:Mo g d a w (d.more Xc) (aMore a d.nc (.slice none 0 0) (.slice q2 nk c2) vc) w3:=by
  refine⟨(Mv.below HB2.out.1).trans mv3 (fun b9 hb9=>Or.inl hb9),fun b9 hb9=>?_,fun k9 hk9=>aMore_stab (d:=d) a _ _ _ k9 hk9,Nat.le_succ _⟩
  rcases fo3 b9 hb9 with h9|h9|h9|h9
  · exact Or.inl h9
  · cases h9
  · exact Or.inr (HB2.out.2 b9 h9).2
  · exact Or.inr (Nat.le_trans HB2.out.1.size h9)
 have c5:w3.cell? ⟨g,5,none⟩=some (.bool d.refuted):=s3.cell 5;have z5:=s3.frozen 5;have hlg:=s3.lt;have HS:=hide (s3.refuted_ true);have HE:Hid (RfE g d a I w (w3.setCell ⟨g,5,none⟩ (.bool true))):=⟨Xc,_,hXl0.1,hXl0.2,HS.out.1,m3.trans HS.out.2,HDV.out⟩;generalize d.refuted=rf at c5;clear s3 mv3 fo3 m3 HS HKE HB2 hXc hXl0;go_wp2;go_end0
 exact⟨rfl,HE.out⟩
end Sat
end Go.Proofs.YtbmkkhpoaicclabGreat
