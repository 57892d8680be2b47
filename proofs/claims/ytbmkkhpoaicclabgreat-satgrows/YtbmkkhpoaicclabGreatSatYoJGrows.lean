/- A refuted solver: what it tells is a proof of its clauses, and of more; it proves no statement of the seat. -/
import Derived.Test.YtbmkkhpoaicclabGreatSatYmJGrows
import Derived.Test.YtbmkkhpoaicclabGreatJoin23Grows
namespace Go.Proofs.YtbmkkhpoaicclabGreat
open Go Go.RowKit
set_option linter.unusedVariables false
namespace Sat
open Euf (OL App)
def TT (ls:List (List Int)) (M:Nat) (cs:List Chn):Prop :=
  cs.length≤M∧(∀x∈cs,(∀p∈x.steps,InI p.2)∧∀z∈x.clause,InI z)∧∀ls' ps,ls <+: ls'→(∀zs∈ls',∀z∈zs,z≠0)→Sets ls' ps→OkPf ps (cs.map (Chn.told (ls'.length:Nat)))
theorem num_in {m nv:Nat} (h:m<2*(nv+1)) (hv:nv≤5000):InI (num m):=by
 unfold InI num;split<;>omega
theorem Rfd.tt {d:Dt} {ls:List (List Int)} {M:Nat} (r:Rfd d (ls.map (·.map lit))) (hM:d.nc≤M) (hnc:d.nc≤100000000) (hnv:d.nv≤5000) (hI:ls.length≤100000000) :
  ∀nd pl idx cs,Lay d nd d.nc pl idx cs→nd (d.nc - 1)=true→(∀c,c<d.nc→Clo d nd c)→TT ls M cs:=by
 intro nd pl idx cs L la clo;have lp:=r.lp hnc hnv (by simpa using hI)
 have hle:idx.length≤d.nc:=up_le L.up (fun t c ht=>(L.ix t c ht).1)
 refine⟨by rw[L.le];omega,fun x hx=>?_,fun ls' ps hp h0 hs=>?_⟩
 ·
  obtain⟨t,ht⟩:=List.mem_iff_getElem?.1 hx;have htl:=(List.getElem?_eq_some_iff.1 ht).1;have hti:t<idx.length:=by rw[← L.le];exact htl
  obtain⟨f1,f2,f3,f4⟩:=L.ch t _ x (List.getElem?_eq_getElem hti) ht;obtain⟨i1,i2,i3⟩:=L.ix t _ (List.getElem?_eq_getElem hti);obtain⟨k1,k2⟩:=lp.lk _ i1 i2;refine⟨fun p hp=>?_,fun z hz=>?_⟩
  ·
   rw[f2]at hp;obtain⟨q,hq,rfl⟩:=List.mem_map.1 hp;have:=k2 q hq;show InI (q.2:Int)
   unfold InI;omega
  · obtain⟨m,hm,rfl⟩:=List.mem_map.1 (f3.mem_iff.1 hz);exact num_in (r.ci.ok _ i1 m hm).2 hnv
 ·
  obtain⟨J,rfl⟩:=hp;have dv:Dv d.nc d.C ((ls++J).map (·.map lit)):=by rw[List.map_append];exact r.dv.grow
  have h9:=L.ok (ls:=ls++J) (ps0:=ps) r.ci dv clo (fun n zs hz=>by
   have hn:n<ps.length:=by rw[hs.1];exact (List.getElem?_eq_some_iff.1 hz).1
   exact⟨ps[n],List.getElem?_eq_getElem hn,hs.2 n zs _ hz (List.getElem?_eq_getElem hn)⟩) h0 la r.ls
  rw[hs.1]at h9;exact h9
def SvX (N g nv ad:Nat) (T:List Chn→Prop) (w0 w:World):Prop:=∃st,Rdy w g nv ad st T∧N≤g∧Below N w0 w
theorem SvX.below {N g nv ad:Nat} {T:List Chn→Prop} {w0 w w':World} (h:SvX N g nv ad T w0 w) (hb:Below w.heap.size w w'):SvX N g nv ad T w0 w':=by
 obtain⟨st,r,hg,bl⟩:=h;exact⟨st,r.below hb,hg,bl.trans (hb.mono (Nat.le_trans hg (Nat.le_of_lt r.lt)))⟩
theorem tsC_sk {ad:Int} {st:List (Int × Int)} {j:Nat} (h:j<st.length):tsC ad st st.length j=skC (st.map (fun p=>(tld ad p.1,p.2))) j:=by
 unfold tsC skC;rw[if_pos h];simp[h]
theorem tld_in {ad k:Int} (h0:0≤ad) (h1:ad≤1000000) (h2:-1000000000≤k) (h3:k≤1000000000):InI (tld ad k):=by
 unfold InI tld;split<;>omega
theorem po_rc {g nv ad:Nat} {st:Int} {T:List Chn→Prop} {w w':World} {e:Ending} (h:PoEnd g nv ad st T w e w') (had:ad≤1000000) {ls:List (List Int)} {M:Nat} (hT:∀cs,T cs→TT ls M cs) (hM:M≤900000) :
  ∃q cap cs,e=.returned (.slice q cs.length cap)∧T cs∧RC w' q cs.length (cs.map (Chn.told (ad:Nat)))∧(∃vo vc vs,PS w' g nv ad st cs vo vc vs)∧Mv (·=g) w w'∧(∀b off,q=some ⟨b,off,none⟩→w.heap.size≤b):=by
 obtain⟨v,cs,vo,vc,vs,vc',vs',rfl,p,t,m,ol,tw,ow⟩:=h;obtain⟨t1,t2,t3⟩:=hT cs t;obtain⟨q,cap,rfl,-,-,-⟩:=ol.shape;refine⟨q,cap,cs,rfl,t,⟨by simp,by omega,fun x hx=>?_,?_⟩,⟨vo,vc,vs,p⟩,m,fun b off e9=>?_⟩
 ·
  obtain⟨y,hy,rfl⟩:=List.mem_map.1 hx;have b:=p.bd.2 y hy;refine⟨tld_in (by omega) (by omega) b.fs.1 b.fs.2,fun s hs=>?_,?_,b.lc⟩
  · obtain⟨s',hs',rfl⟩:=List.mem_map.1 hs;have b2:=b.st s' hs';exact⟨tld_in (by omega) (by omega) b2.1 b2.2,(t2 y hy).1 s' hs'⟩
  ·
   show (y.steps.map _).length≤_
   rw[List.length_map];exact b.ls
 ·
  by_cases h0:cs=[]
  · exact Or.inl (by rw[h0];rfl)
  ·
   obtain⟨b,cap',e9,-⟩:=ol.open 0 (List.length_pos_iff.2 h0);simp only[Value.slice.injEq]at e9;obtain⟨rfl,-,rfl⟩:=e9;refine Or.inr ⟨b,0,rfl,ol.lt rfl,fun i x hx=>?_⟩
   rw[List.getElem?_map]at hx;obtain⟨y,hy,rfl⟩:=Option.map_eq_some_iff.1 hx;have hi:=(List.getElem?_eq_some_iff.1 hy).1;obtain⟨c1,c2,-,-⟩:=tw i y hi hy;have c2':OL 2 100 w' (vs' i) (y.steps.map (fun p=>(tld (ad:Nat) p.1,p.2))).length (skC (y.steps.map (fun p=>(tld (ad:Nat) p.1,p.2)))):=by
    rw[List.length_map];exact c2.congr (fun j hj=>(tsC_sk hj).symm)
   obtain⟨qc,cc,hc,ilc⟩:=OL.il c1 (t2 y (List.mem_of_getElem? hy)).2;obtain⟨qs,cs9,hs9,rk⟩:=OL.rk c2';have e0:=ol.cell hi (show 0<3 by decide)
   have e1:=ol.cell hi (show 1<3 by decide)
   have e2:=ol.cell hi (show 2<3 by decide)
   have et:tcC (ad:Nat) cs vc' vs' cs.length i=[vc' i,.int .i64 (tld (ad:Nat) y.first),vs' i]:=by unfold tcC;rw[if_pos hi];simp[hy]
   rw[et]at e0 e1 e2;refine⟨qc,cc,qs,cs9,?_,?_,?_,ilc,rk⟩
   · rw[Nat.zero_add];rw[Nat.add_zero]at e0;rw[e0];exact congrArg some hc
   · rw[Nat.zero_add];rw[e1];rfl
   · rw[Nat.zero_add];rw[e2];exact congrArg some hs9
 · subst e9;exact ow b rfl
theorem SvX.proof {N g nv ad M:Nat} {T:List Chn→Prop} {ls:List (List Int)} {w0 w:World} (h:SvX N g nv ad T w0 w) (had:ad≤1000000) (hT:∀cs,T cs→TT ls M cs) (hM:M≤900000) :
  Calls Tryz.prog 29 #[.pointer (some ⟨g,0,none⟩)] w fun e w'=>∃q cap cs,e=.returned (.slice q cs.length cap)∧T cs∧RC w' q cs.length (cs.map (Chn.told (ad:Nat)))∧SvX N g nv ad T w0 w'∧(∀b off,q=some ⟨b,off,none⟩→w.heap.size≤b)∧Mv (·=g) w w':=by
 obtain⟨st,r,hg,bl⟩:=h;refine (proof_any g nv ad st T w r had).mono ?_;intro e w' hp;obtain⟨q,cap,cs,rfl,t,rc,⟨vo,vc,vs,p⟩,m,ow⟩:=po_rc hp had hT hM;have hlt:=r.lt;exact⟨q,cap,cs,rfl,t,rc,⟨st,Or.inr ⟨cs,vo,vc,vs,p,t⟩,hg,bl.trans (m.toBelow (by omega) (fun b hb=>by subst hb;exact hg))⟩,ow,m⟩
theorem svx_of {N g:Nat} {d:Dt} {a:Key→Value} {ls:List (List Int)} {w0 w:World} {M:Nat} (s:SW w g d a) (r:Rfd d (ls.map (·.map lit))) (hM:d.nc≤M) (hM9:M≤100000000) (hnv:d.nv≤5000) (hI:ls.length≤100000000) (hg:N≤g) (bl:Below N w0 w):SvX N g d.nv ls.length (TT ls M) w0 w :=
  ⟨d.steps,Or.inl ⟨d,a,s,r.lp (by omega) hnv (by simpa using hI),r.rf,rfl,by rw[r.ad];simp,rfl,r.tt hM (by omega) hnv hI⟩,hg,bl⟩
end Sat
end Go.Proofs.YtbmkkhpoaicclabGreat
