/- Joined: SatPu, SatAt, SatAw, SatLo: words and contracts; no statement of the seat is proved here. -/
import Derived.Test.YtbmkkhpoaicclabGreatJoin6Grows
import Derived.Test.YtbmkkhpoaicclabGreatJoin10Grows
import Derived.Deep.RegionLaw
import Derived.Deep.DeepCutAuto
import Derived.BigRegion
namespace Go.Proofs.YtbmkkhpoaicclabGreat
open Go.RowKit
set_option linter.unusedVariables false
namespace Sat
open Euf (OL App)
theorem step_push {P:Program} {w:World} {ops:Array Oper} {o:Oper} {act:Act} {K:Act→World→Prop} {Q:Exit→Act→World→Prop} {E:Prop} (hgd:o.guard=none) (s x:Operand) (t:TypeId) (hop:o.op=.call { callee:=.builtin .append,args:=#[s,x],argTypes:=#[t,t] })
  (sz:Nat) (e:TypeId) (z:Value) (bytes:Nat) (h1:P.underlying t=some (.slice e)) (h2:(P.info? e).map (fun i=>(i.zero,i.size,i.bytes))=some (some z,sz,bytes)) (hby:bytes≤1000) (hzs:z.cells.size=sz) (hsz:0<sz)
  (v:Value) (n:Nat) (f:Nat→List Value) (hs:act.eval s=v) (hown:OL sz e w v n f) (hlf:∀k,k<n→(f k).length=sz) (news:List Value) (te:TypeId) (v1:Value) (hone:Euf.ONE5 te news v1 w) (hx:act.eval x=v1) (hl:news.length=sz) (ho:∀u∈news,u.oneCell'=true) (hn:n+1≤1000000000)
  (f':Nat→List Value) (hf1:∀k,k<n→f' k=f k) (hf2:f' n=news)
  (h:∀v' w',OL sz e w' v' (n+1) f'→App v v' w w'→v'≠.slice none 0 0→K (act.put o.dst v') w'):if Region.wanted o (yielded ops act.tmps)=true then Oper.wp P o act w K Q else E:=by
 have hw:Region.wanted o (yielded ops act.tmps)=true:=by simp[Region.wanted,hgd]
 rw[if_pos hw];exact Euf.wp_push1 s x t hop sz e z bytes h1 h2 hby hzs hsz v n f hs hown hlf news te v1 hone hx hl ho hn f' hf1 hf2 h
theorem one5_alloc (w:World) (x:Value) (t:TypeId):Euf.ONE5 t [x] (.slice (some ⟨w.heap.size,0,none⟩) 1 1) (w.alloc (.cells #[x] t (0,0))):=⟨w.heap.size,rfl,by show (w.heap.push _)[w.heap.size]?=_;simp⟩
def chl (d:Dt) (v:Nat):Nat:=if (d.F v).last then 2*v else ng (2*v)
theorem chl_var (d:Dt) (v:Nat):chl d v / 2=v:=by
 unfold chl;split
 · omega
 · rw[ng_var];omega
set_option maxRecDepth 20000 in
set_option maxHeartbeats 16000000 in
theorem choose_any (g:Nat) (d:Dt) (a:Key→Value) (v:Nat) (w:World) (h:SW w g d a) (hv:v≤d.nv) (hn:d.nv≤5000) (hT:d.T.length≤10000) (hSl:d.S.length≤9999) :
  Calls Tryz.prog 71 #[.pointer (some ⟨g,0,none⟩),.int .i64 (v:Nat)] w fun e w'=>e=.returned (.tuple #[])∧∃a',SW w' g ({ d with S:=d.S++[d.T.length] }.asg (chl d v) (-1)) a'∧Mo g d a w ({ d with S:=d.S++[d.T.length] }.asg (chl d v) (-1)) a' w':=by
 have HL:Hid (∀w9,Calls Tryz.prog 59 #[.int .i64 (v:Nat)] w9 fun e w'=>e=.returned (.int .i32 ((2*v:Nat):Int))∧w'=w9):=fun w9=>by
  have h9:=litOf_any (v:Int) w9 (by omega) (by omega)
  rwa [lit_nat]at h9
 obtain⟨y,hy⟩:∃y,y=2*v:=⟨_,rfl⟩;rw[← hy]at HL;have hyl:y<2*(d.nv+1):=by omega
 have hy2:y<20000:=by omega
 obtain⟨bF,cF,hF,lF,qF,zF⟩:=h.facR;have c8:w.cell? ⟨g,8,none⟩=some (a kFac):=h.cell 8;rw[hF]at c8;have hvl:v<d.nv+1:=by omega
 have hvI:(v:Int)<(d.nv:Int)+1:=by omega
 have q4:=(qF v hvl).2.2.2.2.1;have hlg:=h.lt;obtain⟨qS,cS,hS,k1,k2,-⟩:=h.len (k:=kSta) (by exact⟨by decide,rfl⟩)
 have hS':a kSta=.slice qS d.S.length cS:=hS;obtain⟨qT,cT,hTv,-,-,-⟩:=h.len (k:=kTra) (by exact⟨by decide,rfl⟩)
 have c9:w.cell? ⟨g,9,none⟩=some (.slice qT d.T.length cT):=(h.cell 9).trans (congrArg some hTv);have c10:w.cell? ⟨g,10,none⟩=some (.slice qS d.S.length cS):=(h.cell 10).trans (congrArg some hS);have HC:Hid (chl d v=if (d.F v).last then y else ng y):=by unfold chl;rw[hy];exact rfl
 have H0:=hide h;have HSV:=hide hS';have HCL:Hid (chl d v<2*(d.nv+1)):=by
  show chl d v<_
  rw[HC.out];split
  · exact hyl
  · exact ng_lt hyl
 have HREST:Hid (∀(l:Nat) (w5:World),l=chl d v→(∃v',SW w5 g { d with S:=d.S++[d.T.length] } (updK a kSta v')∧Mo g d a w { d with S:=d.S++[d.T.length] } (updK a kSta v') w5)→Calls Tryz.prog 64 #[.pointer (some ⟨g,0,none⟩),.int .i32 (l:Nat),.int .i64 (-1)] w5 fun e w'=>e=.returned (.tuple #[])∧∃a',SW w' g ({ d with S:=d.S++[d.T.length] }.asg (chl d v) (-1)) a'∧Mo g d a w ({ d with S:=d.S++[d.T.length] }.asg (chl d v) (-1)) a' w'):=by
  rintro l w5 rfl ⟨v',s5,m5⟩;refine (assign_any g { d with S:=d.S++[d.T.length] } _ (chl d v) (-1) (fun _=>0) w5 s5 HCL.out hn hT (by simp;omega) (fun e=>absurd e (by simp))).mono ?_
  rintro e w6 ⟨rfl,h9⟩;rcases h9 with⟨-,a',-,s6,m6⟩|⟨e,-⟩
  · exact⟨rfl,a',s6,m5.trans m6⟩
  · exact absurd e (by simp)
 have HOL:Hid (OL 1 3 w (a kSta) d.S.length (i64C d.S)):=h.ol (k:=kSta) (by exact⟨by decide,rfl⟩)
 rw[hS']at HOL;clear h hF qF zF hS hS' hTv hy HCL;have hlgd:Below w.heap.size w (w.drew.alloc (.cells #[.int .i64 (d.T.length:Nat)] 3 (0,0))):=⟨rfl,rfl,rfl,by simp,fun b9 hb9=>Below.heap_alloc w.drew _ b9 hb9⟩
 have HOL1:Hid (OL 1 3 (w.drew.alloc (.cells #[.int .i64 (d.T.length:Nat)] 3 (0,0))) (.slice qS d.S.length cS) d.S.length (i64C d.S)):=HOL.out.stay fun b hb=>hlgd.block b (HOL.out.lt hb)
 have HPX:Hid (∀(v4:Value) (w4:World),OL 1 3 w4 v4 (d.S.length+1) (i64C (d.S++[d.T.length]))→App (.slice qS d.S.length cS) v4 (w.drew.alloc (.cells #[.int .i64 (d.T.length:Nat)] 3 (0,0))) w4→(∃q4 c4,v4=.slice q4 (d.S.length+1) c4)∧(w4.cell? ⟨g,10,none⟩=some (.slice qS d.S.length cS)∧w4.frozen? ⟨g,10,none⟩=false∧g<w4.heap.size)∧SW (w4.setCell ⟨g,10,none⟩ v4) g { d with S:=d.S++[d.T.length] } (updK a kSta v4)∧Mo g d a w { d with S:=d.S++[d.T.length] } (updK a kSta v4) (w4.setCell ⟨g,10,none⟩ v4)):=by
  intro v4 w4 hol4 hap4;have h9:=Euf_ofBelow hap4 hlgd;rw[← HSV.out]at h9;obtain⟨⟨y0,yf,hy⟩,hS,-⟩:=H0.out.pushX_S (x:=d.T.length) h9 hol4;rw[HSV.out]at y0;obtain⟨q4,c4,hv4,-⟩:=hol4.shape;exact⟨⟨q4,c4,hv4⟩,⟨y0,yf,hy⟩,hS⟩
 clear hlgd;cases hb:(d.F v).last with
 | true =>
  rw[hb]at q4;have HE:Hid (y=chl d v):=by show _=_;rw[HC.out,hb];rfl
  clear HC hb;go_enter Tryz.func71,Tryz.ntmps71;go_wp2_with (first|(go_at_call 59;refine (HL.out _).mono ?_;rintro e w9 ⟨rfl,hw9⟩;obtain rfl:=hw9.symm)|(go_at_call 72;refine (opposite_any y _ hy2).mono ?_;rintro e w9 ⟨rfl,hw9⟩;obtain rfl:=hw9.symm))
  go_cut [10] (fun v10 wx=>∃v',SW wx g { d with S:=d.S++[d.T.length] } (updK a kSta v')∧Mo g d a w { d with S:=d.S++[d.T.length] } (updK a kSta v') wx)
  case first =>
   go_region_law (refine step_push rfl (.tmp 22) (.tmp 28) 35 rfl 1 3 _ 8 uInts iInt (by decide) rfl (by decide) (.slice qS d.S.length cS) d.S.length (i64C d.S) (by kernel_rfl) HOL1.out (fun _ _=>rfl) [.int .i64 (d.T.length:Nat)] 3 (.slice (some ⟨w.drew.heap.size,0,none⟩) 1 1) (one5_alloc _ _ _) (by kernel_rfl) rfl (by intro u hu;simp at hu;subst hu;rfl) (by omega) (i64C (d.S++[d.T.length])) (fun q hq=>by simp[i64C,List.getElem?_append_left hq]) (by simp[i64C]) ?_;intro v4 w4 hol4 hap4 hne4;obtain⟨⟨p4,c4,rfl⟩,⟨y0,yf,hy⟩,hS4⟩:=HPX.out v4 w4 hol4 hap4;have HS4:=hide hS4;clear hol4 hap4 hne4 hS4)
   all_goals (go_wp2_with fail;go_meet)
   all_goals exact⟨_,HS4.out.1,HS4.out.2⟩
  case rest =>
   obtain⟨v',s5,m5⟩:=hcut;have HA:=hide (HREST.out _ wc HE.out ⟨v',s5,m5⟩);clear s5 m5 HREST HOL1 HPX H0 c8 c9 c10 q4 lF hlg;go_wp2_with fail
   refine HA.out.mono ?_;rintro e w6 ⟨rfl,hend⟩;have HF:=hide hend;clear hend;go_wp2;go_end0
   exact⟨rfl,HF.out⟩
 | false =>
  rw[hb]at q4;have HE:Hid (ng y=chl d v):=by show _=_;rw[HC.out,hb];rfl
  clear HC hb;go_enter Tryz.func71,Tryz.ntmps71;go_wp2_with (first|(go_at_call 59;refine (HL.out _).mono ?_;rintro e w9 ⟨rfl,hw9⟩;obtain rfl:=hw9.symm)|(go_at_call 72;refine (opposite_any y _ hy2).mono ?_;rintro e w9 ⟨rfl,hw9⟩;obtain rfl:=hw9.symm))
  go_cut [10] (fun v10 wx=>∃v',SW wx g { d with S:=d.S++[d.T.length] } (updK a kSta v')∧Mo g d a w { d with S:=d.S++[d.T.length] } (updK a kSta v') wx)
  case first =>
   go_region_law (refine step_push rfl (.tmp 22) (.tmp 28) 35 rfl 1 3 _ 8 uInts iInt (by decide) rfl (by decide) (.slice qS d.S.length cS) d.S.length (i64C d.S) (by kernel_rfl) HOL1.out (fun _ _=>rfl) [.int .i64 (d.T.length:Nat)] 3 (.slice (some ⟨w.drew.heap.size,0,none⟩) 1 1) (one5_alloc _ _ _) (by kernel_rfl) rfl (by intro u hu;simp at hu;subst hu;rfl) (by omega) (i64C (d.S++[d.T.length])) (fun q hq=>by simp[i64C,List.getElem?_append_left hq]) (by simp[i64C]) ?_;intro v4 w4 hol4 hap4 hne4;obtain⟨⟨p4,c4,rfl⟩,⟨y0,yf,hy⟩,hS4⟩:=HPX.out v4 w4 hol4 hap4;have HS4:=hide hS4;clear hol4 hap4 hne4 hS4)
   all_goals (go_wp2_with fail;go_meet)
   all_goals exact⟨_,HS4.out.1,HS4.out.2⟩
  case rest =>
   obtain⟨v',s5,m5⟩:=hcut;have HA:=hide (HREST.out _ wc HE.out ⟨v',s5,m5⟩);clear s5 m5 HREST HOL1 HPX H0 c8 c9 c10 q4 lF hlg;go_wp2_with fail
   refine HA.out.mono ?_;rintro e w6 ⟨rfl,hend⟩;have HF:=hide hend;clear hend;go_wp2;go_end0
   exact⟨rfl,HF.out⟩
end Sat
namespace Sat
open Euf (OL App)
structure Ov (d:Dt) (U:List Nat):Prop where
  oi:OI d.nv d.hp d.at_
  hu:∀v∈d.hp,v∈U
  uo:∀u∈U,1≤u∧u≤d.nv
  cv:∀u∈U,u∈d.hp∨d.V (2*u)≠0
  un:U.Nodup
structure Sa (d0 d:Dt):Prop where
  eq:d={ d0 with nc:=d.nc,C:=d.C,V:=d.V,W:=d.W,F:=d.F,T:=d.T,hp:=d.hp,at_:=d.at_,clash:=d.clash }
  pre:∃Y,d.T=d0.T++Y
  mr:∀v,(d.F v).mark=(d0.F v).mark
  le:d0.nc≤d.nc
  ol:∀c,c<d0.nc→∀m,m∈(d.C c).lits↔m∈(d0.C c).lits
theorem Sa.refl (d:Dt):Sa d d:=⟨rfl,⟨[],by simp⟩,fun _=>rfl,Nat.le_refl _,fun _ _ _=>Iff.rfl⟩
theorem Sa.trans {d0 d1 d2:Dt} (h:Sa d0 d1) (k:Sa d1 d2):Sa d0 d2:=by
 refine⟨?_,?_,fun v=>(k.mr v).trans (h.mr v),Nat.le_trans h.le k.le,fun c hc m=>(k.ol c (Nat.lt_of_lt_of_le hc h.le) m).trans (h.ol c hc m)⟩
 · rw[k.eq,h.eq]
 · obtain⟨Y,e⟩:=h.pre;obtain⟨Z,e2⟩:=k.pre;exact⟨Y++Z,by rw[e2,e,List.append_assoc]⟩
theorem Sm.sa {d0 d:Dt} (h:Sm d0 d):Sa d0 d:=⟨by rw[h.eq],h.pre,h.mr,h.le,h.ol⟩
theorem Sa.clash (d:Dt) (x:Int):Sa d { d with clash:=x }:=⟨rfl,⟨[],by simp⟩,fun _=>rfl,Nat.le_refl _,fun _ _ _=>Iff.rfl⟩
theorem Sa.ord (d:Dt) (hp:List Nat) (at_:Nat→Nat):Sa d (d.ord hp at_):=⟨rfl,⟨[],by simp⟩,fun _=>rfl,Nat.le_refl _,fun _ _ _=>Iff.rfl⟩
theorem Sa.nv {d0 d:Dt} (h:Sa d0 d):d.nv=d0.nv:=by rw[h.eq]
structure AtI (d:Dt) (I:List (List Nat)) (A:Nat) (Q U:List Nat):Prop where
  bs:Bs d I A Q U
  wi:WI d.nv d.nc d.C d.W
  qf:QF d.nv d.W Q
  ov:Ov d U
  s0:d.S=[]
  fi:(d.clash=-1∧SI d.nv d.V d.T d.S d.F d.nc d.C d.W d.head Q U)∨∃c:Nat,d.clash=(c:Int)∧c<d.nc∧∀m∈(d.C c).lits,ng m∈d.T
theorem exists_more (U L:List Nat) (hU:U.Nodup):∃U':List Nat,U'.Nodup∧(∀u∈U,u∈U')∧(∀m∈L,m / 2∈U')∧∀u∈U',u∈U∨∃m∈L,m / 2=u:=by
 induction L with
 | nil=>exact⟨U,hU,fun _ h=>h,fun m hm=>(by cases hm),fun u hu=>Or.inl hu⟩
 | cons l L ih =>
  obtain⟨U',h1,h2,h3,h4⟩:=ih;by_cases e:l / 2∈U'
  ·
   exact⟨U',h1,h2,fun m hm=>by
    rcases List.mem_cons.1 hm with rfl|hm
    · exact e
    · exact h3 m hm,fun u hu=>(h4 u hu).imp id (fun⟨m,k1,k2⟩=>⟨m,List.mem_cons_of_mem _ k1,k2⟩)⟩
  ·
   refine⟨l / 2::U',List.nodup_cons.2 ⟨e,h1⟩,fun u hu=>List.mem_cons_of_mem _ (h2 u hu),fun m hm=>?_,fun u hu=>?_⟩
   ·
    rcases List.mem_cons.1 hm with rfl|hm
    · simp
    · exact List.mem_cons_of_mem _ (h3 m hm)
   ·
    rcases List.mem_cons.1 hu with rfl|hu
    · exact Or.inr ⟨l,by simp,rfl⟩
    · exact (h4 u hu).imp id (fun⟨m,k1,k2⟩=>⟨m,List.mem_cons_of_mem _ k1,k2⟩)
section
variable {d:Dt} {I:List (List Nat)} {A:Nat} {Q Q' U U':List Nat}
theorem Bs.moreU (b:Bs d I A Q U) (hU:∀u∈U,u∈U'):Bs d I A Q U':={ b with uc:=fun c h1 h2 m hm=>hU _ (b.uc c h1 h2 m hm),ut:=fun t ht=>hU _ (b.ut t ht) }
theorem Bs.drop (b:Bs d I A Q U) {c:Nat} (hq:∀x,x∈Q→x=c∨x∈Q') (hU:∀m∈(d.C c).lits,m / 2∈U):Bs d I A Q' U:=by
 refine { b with uc:=fun x h1 h2=>?_ }
 by_cases e:x=c
 · rw[e];exact hU
 · exact b.uc x h1 (fun h3=>(hq x h3).elim e h2)
theorem Ov.more (o:Ov d U) (hn:U'.Nodup) (hU:∀u∈U,u∈U') {hp':List Nat} {at':Nat→Nat} {L:List Nat} (h4:∀u∈U',u∈U∨∃m∈L,m / 2=u) (hL:∀m∈L,2≤m∧m<2*(d.nv+1)) (hLU:∀m∈L,m / 2∈U') (hoi:OI d.nv hp' at') (h1:∀u∈d.hp,u∈hp') (h2:∀u∈hp',u∈d.hp∨∃m∈L,m / 2=u) (h3:∀m∈L,d.V m=0→m / 2∈hp') (ti:TI d.nv d.V d.T d.S d.F d.nc d.C):Ov (d.ord hp' at') U':=by
 refine⟨hoi,fun v hv=>?_,fun u hu=>?_,fun u hu=>?_,hn⟩
 ·
  rcases h2 v hv with h|⟨m,hm,rfl⟩
  · exact hU v (o.hu v h)
  · exact hLU m hm
 ·
  rcases h4 u hu with h|⟨m,hm,rfl⟩
  · exact o.uo u h
  ·
   have h9:=hL m hm;show 1≤m / 2∧m / 2≤d.nv
   omega
 ·
  rcases h4 u hu with h|⟨m,hm,rfl⟩
  ·
   rcases o.cv u h with h|h
   · exact Or.inl (h1 u h)
   · exact Or.inr h
  ·
   by_cases e:d.V m=0
   · exact Or.inl (h3 m hm e)
   ·
    right
    intro h9;apply e
    have h9:d.V (2*(m / 2))=0:=h9;have hm':=hL m hm;rw[ti.va _ (by omega)]at h9
    rw[ti.va _ hm'.2];obtain⟨z1,z2⟩:=vl_zero.1 h9;refine vl_zero.2 ?_;rcases var_eq (show m / 2=2*(m / 2) / 2 by omega) with e1|e1
    · rw[e1];exact⟨z1,z2⟩
    · rw[e1,ng_ng];exact⟨z2,z1⟩
theorem AtI.parted (h:AtI d I A Q U) {c:Nat} {L:List Nat} (hc:c<d.nc) (hcq:c∈Q) (hp:L.Perm (d.C c).lits) {hp':List Nat} {at':Nat→Nat} (hoi:OI d.nv hp' at') (h1:∀u∈d.hp,u∈hp') (h2:∀u∈hp',u∈d.hp∨∃m∈(d.C c).lits,m / 2=u) (h3:∀m∈(d.C c).lits,d.V m=0→m / 2∈hp') :
  ∃U',((∀u∈U,u∈U')∧∀u∈U',u∈U∨∃m∈(d.C c).lits,m / 2=u)∧(∀m∈L,m / 2∈U')∧AtI ((d.lits c L).ord hp' at') I A Q U':=by
 obtain⟨U',u1,u2,u3,u4⟩:=exists_more U (d.C c).lits h.ov.un;refine⟨U',⟨u2,u4⟩,fun m hm=>u3 m (hp.mem_iff.1 hm),?_⟩
 have ov:=h.ov.more u1 u2 u4 (h.bs.ci.ok c hc) u3 hoi h1 h2 h3 h.bs.ti;refine⟨((h.bs.perm hp).moreU u2).same rfl rfl rfl rfl rfl rfl rfl,h.wi.permQ h.qf hcq,h.qf,⟨ov.oi,ov.hu,ov.uo,ov.cv,ov.un⟩,h.s0,?_⟩;rcases h.fi with⟨e,si⟩|⟨x,e,hx,hf⟩
 · exact Or.inl ⟨e,(si.permQ h.qf hcq hp).moreU u2⟩
 · exact Or.inr ⟨x,e,hx,fun m hm=>hf m ((perm_mem hp x m).2 hm)⟩
theorem AtI.low_ (h:AtI d I A Q U) {c m:Nat} (hq:∀x,x∈Q→x=c∨x∈Q') (hq2:∀x∈Q',x∈Q) (hm:m∈(d.C c).lits) (hT:m∈d.T) (hU:∀m∈(d.C c).lits,m / 2∈U):AtI d I A Q' U:=by
 refine⟨h.bs.drop hq hU,h.wi,h.qf.less hq2,h.ov,h.s0,?_⟩;rcases h.fi with⟨e,si⟩|h9
 ·
  left
  exact⟨e,si.low' h.s0 hq hm hT hU⟩
 · exact Or.inr h9
theorem AtI.false_ (h:AtI d I A Q U) {c:Nat} (hc:c<d.nc) (hq:∀x,x∈Q→x=c∨x∈Q') (hq2:∀x∈Q',x∈Q) (hf:∀m∈(d.C c).lits,ng m∈d.T) (hU:∀m∈(d.C c).lits,m / 2∈U):AtI { d with clash:=(c:Int) } I A Q' U :=
  ⟨(h.bs.drop hq hU).same rfl rfl rfl rfl rfl rfl rfl,h.wi,h.qf.less hq2,⟨h.ov.oi,h.ov.hu,h.ov.uo,h.ov.cv,h.ov.un⟩,h.s0,Or.inr ⟨c,rfl,hc,hf⟩⟩
theorem wtD_two (d:Dt) (c p q:Nat):wtD d c p q 2={ d with W:=upd (upd d.W p (d.W p++[(c,q)])) q (d.W q++[(c,p)]) }:=rfl
theorem AtI.watch (h:AtI d I A Q U) {c a b:Nat} {r:List Nat} (hc:c<d.nc) (hcq:c∈Q) (hq:∀x,x∈Q→x=c∨x∈Q') (hq2:∀x∈Q',x∈Q∧x≠c) (hL:(d.C c).lits=a::b::r) (ha:ng a ∉ d.T) (hb:ng b ∉ d.T) (hU:∀m∈(d.C c).lits,m / 2∈U):AtI (wtD d c a b 2) I A Q' U:=by
 have ab:a≠b:=fun e=>by have:=h.bs.ci.nd c hc;rw[hL,e]at this;simp at this
 rw[wtD_two];refine⟨(h.bs.drop hq hU).same rfl rfl rfl rfl rfl rfl rfl,h.wi.watch hc hL ab (h.qf.not hcq),h.qf.watch ab hq2,⟨h.ov.oi,h.ov.hu,h.ov.uo,h.ov.cv,h.ov.un⟩,h.s0,?_⟩;rcases h.fi with⟨e,si⟩|h9
 ·
  left
  exact⟨e,si.watch' h.s0 h.qf hc hcq hq hL ha hb hU⟩
 · exact Or.inr h9
theorem Ov.asg (o:Ov d U) {l:Nat} {z:Int} (d':Dt) (h1:d'.nv=d.nv) (h2:d'.hp=d.hp) (h3:d'.at_=d.at_) (h4:d'.V=upd (upd d.V l 1) (ng l) (-1)):Ov d' U:=by
 refine⟨by rw[h1,h2,h3];exact o.oi,by rw[h2];exact o.hu,by rw[h1];exact o.uo,fun u hu=>?_,o.un⟩
 rw[h2,h4];rcases o.cv u hu with h|h
 · exact Or.inl h
 ·
  right
  rw[asg_V];split
  · omega
  ·
   split
   · omega
   · exact h
theorem AtI.unit (h:AtI d I A Q U) {c l:Nat} {us:Nat→Nat} (hc:c<d.nc) (hm:l∈(d.C c).lits) (h0:vl d.T l=0) (hf:∀m∈(d.C c).lits,m≠l→ng m∈d.T) (hU:∀m∈(d.C c).lits,m / 2∈U) (hq:∀x,x∈Q→x=c∨x∈Q') (hq2:∀x∈Q',x∈Q) (hlt:∀x∈Q,x<d.nc) (hus:∀v∈vrs (d.C c).lits (l:Int),(d.F v).unit=(us v:Int)) :
  (vrs (d.C c).lits (l:Int)=[]→AtI (d.asg0 l c c) I A Q' U)∧AtI ((d.asg0 l c d.nc).more (unitC l c (vrs (d.C c).lits (l:Int)) us)) I A Q' U:=by
 have hl:=h.bs.ci.ok c hc l hm;have hlT:l∈d.T++[l]:=by simp
 have ufF:∀(x:Int),Ov { d with V:=upd (upd d.V l 1) (ng l) (-1),F:=upd d.F (l / 2) { asF d l (c:Int) with unit:=x },T:=d.T++[l] } U:=fun x=>h.ov.asg (l:=l) (z:=0) _ rfl rfl rfl rfl
 constructor
 ·
  intro hv;have b:=h.bs.asg0 h.s0 hl h0 hc hm hf (hU l hm) hv;have h1:AtI (d.asg0 l c c) I A Q U:=by
   refine⟨b,h.wi,h.qf,ufF _,h.s0,?_⟩;rcases h.fi with⟨e,si⟩|⟨x,e,hx,hfx⟩
   ·
    left
    exact⟨e,si.push0' h.s0 b.ti (Or.inl ⟨rfl,rfl⟩) hl (hU l hm)⟩
   · exact Or.inr ⟨x,e,hx,fun m hm=>List.mem_append_left _ (hfx m hm)⟩
  exact h1.low_ hq hq2 hm hlT hU
 ·
  have b:=h.bs.asg1 (us:=us) h.s0 hl h0 hc hm hf (hU l hm) hus;have Cc:∀x,x<d.nc→(upd d.C d.nc (unitC l c (vrs (d.C c).lits (l:Int)) us) x)=d.C x:=fun x hx=>upd_other _ _ (by omega)
  have h1:AtI ((d.asg0 l c d.nc).more (unitC l c (vrs (d.C c).lits (l:Int)) us)) I A Q U:=by
   refine⟨b,h.wi.grow _,h.qf,?_,h.s0,?_⟩
   · have o:=ufF ((d.nc:Nat):Int);exact⟨o.oi,o.hu,o.uo,o.cv,o.un⟩
   rcases h.fi with⟨e,si⟩|⟨x,e,hx,hfx⟩
   ·
    left
    exact⟨e,si.push0' h.s0 b.ti (Or.inr ⟨rfl,_,rfl,rfl⟩) hl (hU l hm)⟩
   · exact Or.inr ⟨x,e,Nat.lt_succ_of_lt hx,fun m hm=>List.mem_append_left _ (hfx m (by rw[← Cc x hx];exact hm))⟩
  have eC:(((d.asg0 l c d.nc).more (unitC l c (vrs (d.C c).lits (l:Int)) us)).C c)=d.C c:=Cc c hc;exact h1.low_ hq hq2 (by rw[eC];exact hm) hlT (by rw[eC];exact hU)
end
end Sat
namespace Sat
open Euf (OL App)
theorem Bs.numQ {d:Dt} {I:List (List Nat)} {A:Nat} {Q U:List Nat} (b:Bs d I A Q U):d.nc≤A+d.nv+1:=by
 have h9:=b.cn;have h8:=b.ti.len;have:fixd d.T d.S≤d.T.length:=by
  unfold fixd;cases h:d.S with
  | nil=>exact Nat.le_refl _
  | cons s S=>exact Nat.le_of_lt (b.ti.st s (by rw[h];simp))
 omega
structure AL (g:Nat) (d:Dt) (a:Key→Value) (c:Nat) (w:World) (i k:Nat) (L hp':List Nat) (at':Nat→Nat) (a':Key→Value) (wr:World):Prop where
  sw:SW wr g ((d.lits c L).ord hp' at') a'
  mo:Mo g d a w ((d.lits c L).ord hp' at') a' wr
  ap:AP d.V (d.C c).lits i k L
  oi:OI d.nv hp' at'
  h1:∀u∈d.hp,u∈hp'
  h2:∀u∈hp',u∈d.hp∨∃m∈(d.C c).lits,m / 2=u
  h3:∀j (hj:j<(d.C c).lits.length),j<i→d.V (d.C c).lits[j]=0→(d.C c).lits[j] / 2∈hp'
section
variable {g:Nat} {d:Dt} {a:Key→Value} {c:Nat} {w:World} {i k:Nat} {L hp':List Nat} {at':Nat→Nat} {a':Key→Value} {wr w1:World}
theorem AL.drewN (h:AL g d a c w i k L hp' at' a' wr) (n:Nat):AL g d a c w i k L hp' at' a' (wr.drewN n):={ h with sw:=h.sw.drewN n,mo:=h.mo.drewN n }
theorem AL.push (h:AL g d a c w i k L hp' at' a' wr) {x:Nat} (hi:i<(d.C c).lits.length) (hx:(d.C c).lits[i]=x) {hp2:List Nat} {at2:Nat→Nat} {a2:Key→Value} (s:SW w1 g ((d.lits c L).ord hp2 at2) a2) (m:Mo g ((d.lits c L).ord hp' at') a' wr ((d.lits c L).ord hp2 at2) a2 w1) (o:OI d.nv hp2 at2) (hu:∀u,u∈hp2↔u∈hp'∨u=x / 2):AL g d a c w i k L hp2 at2 a2 w1∧x / 2∈hp2 :=
  ⟨⟨s,h.mo.trans m,h.ap,o,fun u hu'=>(hu u).2 (Or.inl (h.h1 u hu')),fun u hu'=>by
    rcases (hu u).1 hu' with h9|h9
    · exact h.h2 u h9
    · exact Or.inr ⟨x,by rw[← hx];exact List.getElem_mem hi,h9.symm⟩,fun j hj h8 h9=>(hu _).2 (Or.inl (h.h3 j hj h8 h9))⟩,(hu _).2 (Or.inr rfl)⟩
theorem AL.next3 (h:AL g d a c w i k L hp' at' a' wr) {x:Nat} (hi:i<(d.C c).lits.length) (hx:(d.C c).lits[i]=x) (h0:d.V x=0→x / 2∈hp'):∀j (hj:j<(d.C c).lits.length),j<i+1→d.V (d.C c).lits[j]=0→(d.C c).lits[j] / 2∈hp':=by
 intro j hj h8 h9;by_cases e:j=i
 · subst e;rw[hx]at h9 ⊢;exact h0 h9
 · exact h.h3 j hj (by omega) h9
theorem AL.skip (h:AL g d a c w i k L hp' at' a' wr) {x:Nat} (hi:i<(d.C c).lits.length) (hx:(d.C c).lits[i]=x) (hV:d.V x=-1):AL g d a c w (i+1) k L hp' at' a' wr:=by
 have hiL:i<L.length:=by rw[h.ap.len];exact hi
 exact { h with ap:=h.ap.skip hiL (by rw[h.ap.at_ hiL,hx];exact hV),h3:=h.next3 hi hx (fun e=>by omega) }
theorem AL.swap (h:AL g d a c w i k L hp' at' a' wr) {x y:Nat} (hi:i<(d.C c).lits.length) (hx:(d.C c).lits[i]=x) (hkL:k<L.length) (hy:L[k]=y) (hV:d.V x≠-1) (h0:d.V x=0→x / 2∈hp') (hcn:c<d.nc) {b cap n:Nat} (hn:(d.C c).lits.length=n) (hv:a' (kLit c)=.slice (some ⟨b,0,none⟩) n cap) :
  (∃z,(wr.setCell ⟨b,k,none⟩ (.int .i32 (x:Nat))).cell? ⟨b,i,none⟩=some z)∧AL g d a c w (i+1) (k+1) ((L.set k x).set i y) hp' at' a' ((wr.setCell ⟨b,k,none⟩ (.int .i32 (x:Nat))).setCell ⟨b,i,none⟩ (.int .i32 (y:Nat))):=by
 have hiL:i<L.length:=by rw[h.ap.len];exact hi
 have lx:((d.lits c L).C c).lits=L:=by show (upd d.C c _ c).lits=L;rw[upd_same]
 have lx2:((d.lits c (L.set k x)).C c).lits=L.set k x:=by show (upd d.C c _ c).lits=_;rw[upd_same]
 have LL:L.length=n:=h.ap.len.trans hn;obtain⟨s1,m1⟩:=SW.setLit (d:=(d.lits c L).ord hp' at') h.sw (c:=c) (b:=b) (cap:=cap) (i:=k) hcn (by rw[hv];show _=Value.slice _ ((d.lits c L).C c).lits.length _;rw[lx,LL]) (by show k<((d.lits c L).C c).lits.length;rw[lx];exact hkL) x
 have e1:((d.lits c L).ord hp' at').lits c ((((d.lits c L).ord hp' at').C c).lits.set k x)=(d.lits c (L.set k x)).ord hp' at':=by
  have:=lits_lits d c L (L.set k x);show ({ (d.lits c L).lits c ((((d.lits c L)).C c).lits.set k x) with hp:=hp',at_:=at' }:Dt)=_
  rw[lx,this]
 rw[e1]at s1 m1;obtain⟨s2,m2⟩:=SW.setLit (d:=(d.lits c (L.set k x)).ord hp' at') s1 (c:=c) (b:=b) (cap:=cap) (i:=i) hcn (by rw[hv];show _=Value.slice _ ((d.lits c (L.set k x)).C c).lits.length _;rw[lx2,List.length_set,LL]) (by show i<((d.lits c (L.set k x)).C c).lits.length;rw[lx2,List.length_set];exact hiL) y
 have e2:((d.lits c (L.set k x)).ord hp' at').lits c ((((d.lits c (L.set k x)).ord hp' at').C c).lits.set i y)=(d.lits c ((L.set k x).set i y)).ord hp' at':=by
  have:=lits_lits d c (L.set k x) ((L.set k x).set i y);show ({ (d.lits c (L.set k x)).lits c ((((d.lits c (L.set k x))).C c).lits.set i y) with hp:=hp',at_:=at' }:Dt)=_
  rw[lx2,this]
 rw[e2]at s2 m2;have eL:L[i]=x:=by rw[h.ap.at_ hiL,hx]
 refine⟨?_,s2,(h.mo.trans m1).trans m2,?_,h.oi,h.h1,h.h2,h.next3 hi hx h0⟩
 ·
  obtain⟨b',cap',hv',lb',-,-,q',-⟩:=s1.litR (c:=c) hcn (by show 0<((d.lits c (L.set k x)).C c).lits.length;rw[lx2,List.length_set];omega)
  have e9:=hv.symm.trans hv';simp only[Value.slice.injEq,Option.some.injEq,Addr.mk.injEq]at e9;have e8:=e9.1.1;subst e8;exact⟨_,q' i (by show i<((d.lits c (L.set k x)).C c).lits.length;rw[lx2,List.length_set];exact hiL)⟩
 ·
  have h9:=h.ap.swap hiL (by rw[eL];exact hV)
  rw[eL,hy]at h9;exact h9
end
def AtEnd (g:Nat) (d:Dt) (a:Key→Value) (c:Nat) (I:List (List Nat)) (A:Nat) (Q' U:List Nat) (w w':World):Prop :=
  ∃d' a' U',SW w' g d' a'∧Mo g d a w d' a' w'∧Sa d d'∧AtI d' I A Q' U'∧(∀u∈U,u∈U')∧∀u∈U',u∈U∨∃m∈(d.C c).lits,m / 2=u
set_option maxRecDepth 20000 in
set_option maxHeartbeats 16000000 in
theorem attach_any (g:Nat) (d:Dt) (a:Key→Value) (c:Nat) (I:List (List Nat)) (A:Nat) (Q' U:List Nat) (w:World) (hw:SW w g d a) (hI:AtI d I A (c::Q') U) (hQ:∀x∈c::Q',x<d.nc) (hqn:c ∉ Q') (hn:d.nv≤5000) (hA:A≤90000000) :
  Calls Tryz.prog 37 #[.pointer (some ⟨g,0,none⟩),.int .i64 (c:Nat)] w fun e w'=>e=.returned (.tuple #[])∧AtEnd g d a c I A Q' U w w':=by
 have hc:c<d.nc:=hQ c (by simp)
 have hnc:=hI.bs.numQ;have hcI:(c:Int)<(d.nc:Int):=by omega
 obtain⟨bC,cC,hC,lC,qC,-⟩:=hw.clzR (by omega)
 have c2:w.cell? ⟨g,2,none⟩=some (.slice (some ⟨bC,0,none⟩) d.nc cC):=(hw.cell 2).trans (congrArg some hC);have qc:w.cell? ⟨bC,c*4,none⟩=some (a (kLit c)):=(qC c hc).1;obtain⟨qL,cL,hL,-,-,-⟩:=hw.len (k:=kLit c) (by exact hc)
 have hL:a (kLit c)=.slice qL (d.C c).lits.length cL:=hL;have hlen:=hI.bs.ci.len hc;obtain⟨n,hnn⟩:∃n,(d.C c).lits.length=n:=⟨_,rfl⟩;rw[hL,hnn]at qc;have HN:=hide hnn;have HLV:Hid (a (kLit c)=.slice qL n cL):=by rw[← hnn];exact hL
 have hlg:=hw.lt;have hn8:n≤5001:=by omega
 have H0:Hid (AL g d a c w 0 0 (d.C c).lits d.hp d.at_ a w):=⟨by rw[lits_self];exact hw,by rw[lits_self];exact Mo.refl _ _ _ _,AP.start _ _,hI.ov.oi,fun _ h=>h,fun _ h=>Or.inl h,fun j hj h=>absurd h (by omega)⟩
 have HI:=hide hI;have HQ:=hide (And.intro hQ hqn);clear hw hI hQ hqn hC qC hL hnn hlen;go_enter Tryz.func37,Tryz.ntmps37;go_wp2;clear c2 qc lC hlg;go_loopw [5,18] (fun v5 v18 wr=>∃(i k:Nat) (L hp':List Nat) (at':Nat→Nat) (a':Key→Value),v18=.int .i64 (i:Nat)∧v5=.int .i64 (k:Nat)∧i≤n∧k≤i∧Hid (AL g d a c w i k L hp' at' a' wr)) (fun _ v _=>n - (intOf v).toNat)
 case atStart=>exact⟨0,0,_,_,_,_,rfl,rfl,Nat.zero_le _,Nat.le_refl _,H0.out⟩
 case round =>
  rename World=>wl
  clear H0;obtain⟨i,k,L,hp',at',a',rfl,rfl,hi,hki,H⟩:=hrel;by_cases hlt:i<n
  ·
   have hltI:(i:Int)<(n:Int):=by omega
   have hkn:k<n:=by omega
   have hknI:(k:Int)<(n:Int):=by omega
   have HC1:Hid (i<(d.C c).lits.length):=by show _<_;rw[HN.out];exact hlt
   have lx:(((d.lits c L).ord hp' at').C c).lits=L:=by show (upd d.C c _ c).lits=L;rw[upd_same]
   have LL:L.length=n:=H.out.ap.len.trans HN.out;have hav:a' (kLit c)=a (kLit c):=H.out.mo.ad (kLit c) hc;obtain⟨b,cap,hvb,lb,-,-,qb,zb⟩:=H.out.sw.litR (c:=c) hc (by rw[lx,LL];omega)
   rw[lx,LL]at hvb;have e1:=(hav.trans HLV.out).symm.trans hvb;simp only[Value.slice.injEq]at e1;obtain⟨rfl,-,rfl⟩:=e1;rw[lx]at qb;have qi:wl.cell? ⟨b,i,none⟩=some (.int .i32 (L[i]'(by omega):Nat)):=qb i (by omega)
   have qk:wl.cell? ⟨b,k,none⟩=some (.int .i32 (L[k]'(by omega):Nat)):=qb k (by omega)
   have hxe:L[i]'(by omega)=(d.C c).lits[i]'(HC1.out):=H.out.ap.at_ (by omega)
   obtain⟨x,hx⟩:∃x,(d.C c).lits[i]'(HC1.out)=x:=⟨_,rfl⟩;obtain⟨y,hy⟩:∃y,L[k]'(by omega)=y:=⟨_,rfl⟩
   have hxo:=HI.out.bs.ci.ok c hc x (by rw[← hx];exact List.getElem_mem HC1.out)
   rw[hxe,hx]at qi;rw[hy]at qk;have HX:=hide hx;have HY:Hid (∃hk:k<L.length,L[k]=y):=⟨by omega,hy⟩
   have HVB:=hide hvb;have zi:=zb i;have zk:=zb k;obtain⟨bV,cV,hVv,lV,qV,-⟩:=H.out.sw.valR;have c6:wl.cell? ⟨g,6,none⟩=some (.slice (some ⟨bV,0,none⟩) (2*(d.nv+1)) cV):=(H.out.sw.cell 6).trans (congrArg some hVv);have qx:wl.cell? ⟨bV,x,none⟩=some (.int .i8 (d.V x)):=qV x hxo.2;have hxI:(x:Int)<2*((d.nv:Int)+1):=by omega
   have hx2:x<20000:=by omega
   have hlgl:=H.out.sw.lt;have HVX:=hide (HI.out.bs.ti.va x hxo.2);clear hx hy hxe hvb qb zb hVv qV lx hav;by_cases hv1:d.V x=-1
   ·
    have HE:=hide (H.out.skip HC1.out HX.out hv1);rw[hv1]at qx;clear zi zk qk;go_wp2;go_roundw
    case rel=>exact⟨i+1,k,L,hp',at',a',by go_num,rfl,by omega,by omega,HE.out⟩
    case measure=>simp[intOf]<;>omega
   ·
    by_cases hv0:d.V x=0
    ·
     rw[hv0]at qx;have HPU:=hide (push_any g ((d.lits c L).ord hp' at') a' (x / 2) wl.drew H.out.sw.drew H.out.oi (by show x / 2≤d.nv;omega) hn)
     have HVC:=hide (fun w9=>variable_any x w9 hx2)
     obtain⟨v,hv⟩:∃v,x / 2=v:=⟨_,rfl⟩;rw[hv]at HPU HVC;have HV:=hide hv;clear hv;go_wp2_with fail
     go_cut [35] (fun v35 wx=>∃hp2 at2 a2,AL g d a c w i k L hp2 at2 a2 wx∧x / 2∈hp2)
     case first =>
      go_region_with (first|(go_at_call 62;refine (HVC.out _).mono ?_;rintro e w9 ⟨rfl,hw9⟩;obtain rfl:=hw9.symm)|(go_at_call 61;refine HPU.out.mono ?_;rintro e w9 ⟨rfl,hp2,at2,a2,s2,m2,o2,u2,-⟩;have HE2:Hid (AL g d a c w i k L hp2 at2 a2 w9∧x / 2∈hp2):=(H.out.drewN 1).push HC1.out HX.out s2 m2 o2 (by rw[HV.out];exact u2);clear s2 m2 o2 u2))
      all_goals (go_wp2_with fail;go_meet)
      all_goals exact⟨_,_,_,HE2.out⟩
     case rest =>
      obtain⟨hp2,at2,a2,hE2⟩:=hcut;have H2:=hide hE2.1;have HP2:=hide hE2.2;clear hE2 HPU HVC c6 qx qi qk zi zk lb lV hlgl H;have lx:(((d.lits c L).ord hp2 at2).C c).lits=L:=by show (upd d.C c _ c).lits=L;rw[upd_same]
      have hav:a2 (kLit c)=a (kLit c):=H2.out.mo.ad (kLit c) hc;obtain⟨b',cap',hvb,lb,-,-,qb,zb⟩:=H2.out.sw.litR (c:=c) hc (by rw[lx,LL];omega)
      rw[lx,LL]at hvb;have e1:=(hav.trans HLV.out).symm.trans hvb;simp only[Value.slice.injEq,Option.some.injEq,Addr.mk.injEq]at e1;obtain⟨⟨rfl,-,-⟩,-,rfl⟩:=e1;rw[lx]at qb;have hiL:L[i]'(by omega)=x:=(H2.out.ap.at_ (by omega)).trans HX.out
      have qi:wc.cell? ⟨b,i,none⟩=some (.int .i32 (x:Nat)):=by rw[← hiL];exact qb i (by omega)
      have qk:wc.cell? ⟨b,k,none⟩=some (.int .i32 (y:Nat)):=by have h9:=qb k (by omega);rw[HY.out.2]at h9;exact h9
      have zi:=zb i;have zk:=zb k;obtain⟨bV',cV',hVv,lV,qV,-⟩:=H2.out.sw.valR;have c6:wc.cell? ⟨g,6,none⟩=some (.slice (some ⟨bV',0,none⟩) (2*(d.nv+1)) cV'):=(H2.out.sw.cell 6).trans (congrArg some hVv);have qx:wc.cell? ⟨bV',x,none⟩=some (.int .i8 (d.V x)):=qV x hxo.2;rw[hv0]at qx;have hlgl:=H2.out.sw.lt;have HVB:=hide hvb;clear hVv qV lx hav hvb qb zb hiL;obtain⟨⟨z,hz⟩,hE⟩:=H2.out.swap HC1.out HX.out HY.out.1 HY.out.2 hv1 (fun _=>HP2.out) hc HN.out HVB.out
      obtain⟨wd,hwd⟩:∃wd,wc.drew.setCell ⟨b,k,none⟩ (.int .i32 (x:Nat))=wd:=⟨_,rfl⟩;have qz:wd.cell? ⟨b,i,none⟩=some z:=by rw[← hwd];exact hz
      have zz:wd.frozen? ⟨b,i,none⟩=false:=by rw[← hwd];simp;exact zi
      have lbd:b<wd.heap.size:=by rw[← hwd];simp;exact lb
      have HE:Hid (AL g d a c w (i+1) (k+1) ((L.set k x).set i y) hp2 at2 a2 (wd.setCell ⟨b,i,none⟩ (.int .i32 (y:Nat)))):=by
       have h9:=hE.drewN 1;rw[← hwd];exact h9
      clear hz hE;go_wp2_with fail
      go_region
      go_wp2;go_roundw
      case rel=>exact⟨i+1,k+1,_,_,_,_,by go_num,by go_num,by omega,by omega,HE.out⟩
      case measure=>simp[intOf]<;>omega
    ·
     have hv2:d.V x=1:=by
      have h9:=HVX.out;unfold vl at h9;split at h9
      · exact h9
      ·
       split at h9
       · exact absurd h9 hv1
       · exact absurd h9 hv0
     rw[hv2]at qx;obtain⟨⟨z,hz⟩,hE⟩:=H.out.swap HC1.out HX.out HY.out.1 HY.out.2 hv1 (fun e=>absurd e hv0) hc HN.out HVB.out
     obtain⟨wd,hwd⟩:∃wd,wl.drew.setCell ⟨b,k,none⟩ (.int .i32 (x:Nat))=wd:=⟨_,rfl⟩;have qz:wd.cell? ⟨b,i,none⟩=some z:=by rw[← hwd];exact hz
     have zz:wd.frozen? ⟨b,i,none⟩=false:=by rw[← hwd];simp;exact zi
     have lbd:b<wd.heap.size:=by rw[← hwd];simp;exact lb
     have HE:Hid (AL g d a c w (i+1) (k+1) ((L.set k x).set i y) hp' at' a' (wd.setCell ⟨b,i,none⟩ (.int .i32 (y:Nat)))):=by
      have h9:=hE.drewN 1;rw[← hwd];exact h9
     clear hz hE;go_wp2_with fail
     go_region
     go_wp2;go_roundw
     case rel=>exact⟨i+1,k+1,_,_,_,_,by go_num,by go_num,by omega,by omega,HE.out⟩
     case measure=>simp[intOf]<;>omega
  ·
   have hltI:¬ ((i:Int)<(n:Int)):=by omega
   obtain rfl:i=n:=by omega
   have lx:(((d.lits c L).ord hp' at').C c).lits=L:=by show (upd d.C c _ c).lits=L;rw[upd_same]
   have LL:L.length=i:=H.out.ap.len.trans HN.out;have hav:a' (kLit c)=a (kLit c):=H.out.mo.ad (kLit c) hc;obtain⟨U',hUU,hLU,hAI⟩:=HI.out.parted hc (by simp) H.out.ap.pe H.out.oi H.out.h1 H.out.h2 (fun m hm h0=>by
    obtain⟨j,hj,rfl⟩:=List.mem_iff_getElem.1 hm;exact H.out.h3 j hj (by rw[← HN.out];exact hj) h0)
   have hSa:Sa d ((d.lits c L).ord hp' at'):=(Sm.lits d c L (fun m9=>H.out.ap.pe.mem_iff)).sa.trans (Sa.ord _ hp' at')
   obtain⟨d1,hd1⟩:∃d1,(d.lits c L).ord hp' at'=d1:=⟨_,rfl⟩;have hnv1:d1.nv=d.nv:=by rw[← hd1]
   have hnc1:d1.nc=d.nc:=by rw[← hd1]
   have hV1:d1.V=d.V:=by rw[← hd1]
   have HX1:Hid (SW wl g d1 a'∧Mo g d a w d1 a' wl∧Sa d d1∧AtI d1 I A (c::Q') U'):=by rw[← hd1];exact⟨H.out.sw,H.out.mo,hSa,hAI⟩
   have HAP:Hid (AP d1.V (d.C c).lits i k L):=by rw[hV1];exact H.out.ap
   have HL1:Hid ((d1.C c).lits=L):=by rw[← hd1];exact lx
   have HUU:=hide hUU;have HLU:Hid (∀m∈(d1.C c).lits,m / 2∈U'):=by rw[HL1.out];exact hLU
   have HQQ:Hid ((∀x,x∈c::Q'→x=c∨x∈Q')∧(∀x∈Q',x∈c::Q'∧x≠c)∧∀x∈c::Q',x<d1.nc):=⟨fun x hx=>List.mem_cons.1 hx,fun x hx=>⟨List.mem_cons_of_mem _ hx,fun e=>HQ.out.2 (e ▸ hx)⟩,by rw[hnc1];exact HQ.out.1⟩
   have hc1:c<d1.nc:=by omega
   have hnum:=HX1.out.2.2.2.bs.numQ;have HLV1:Hid (a' (kLit c)=.slice qL i cL):=hav.trans HLV.out;have hVT:∀m,m∈L→d1.V m=vl d1.T m:=fun m hm=>HX1.out.2.2.2.bs.ti.va m (HX1.out.2.2.2.bs.ci.ok c hc1 m (by rw[HL1.out];exact hm)).2
   have HVT:=hide hVT;clear hUU hLU hAI hSa hd1 lx hav H HI HQ hVT;have hlg:=HX1.out.1.lt;by_cases hk2:1<k
   ·
    have hk2I:(1:Int)<(k:Int):=by omega
    obtain⟨p0,p1,r,hr⟩:∃p0 p1 r,L=p0::p1::r:=by
     match L,LL with
     | [],h=>simp at h;omega
     | [_],h=>simp at h;omega
     | p0::p1::r,_=>exact⟨p0,p1,r,rfl⟩
    have g0:ng p0 ∉ d1.T:=fun h9=>by
     have h8:=HAP.out.lo 0 (by rw[LL];omega) (by omega)
     have e0:L[0]'(by rw[LL];omega)=p0:=by simp[hr]
     rw[e0,HVT.out p0 (by rw[hr];simp)]at h8
     exact h8 ((vl_neg HX1.out.2.2.2.bs.ti.nd).2 h9)
    have g1:ng p1 ∉ d1.T:=fun h9=>by
     have h8:=HAP.out.lo 1 (by rw[LL];omega) (by omega)
     have e0:L[1]'(by rw[LL];omega)=p1:=by simp[hr]
     rw[e0,HVT.out p1 (by rw[hr];simp)]at h8
     exact h8 ((vl_neg HX1.out.2.2.2.bs.ti.nd).2 h9)
    have hL9:(d1.C c).lits=p0::p1::r:=HL1.out.trans hr;have HE:=hide (HX1.out.2.2.2.watch hc1 (by simp) HQQ.out.1 HQQ.out.2.1 hL9 g0 g1 HLU.out)
    have ok0:=(HX1.out.2.2.2.bs.ci.ok c hc1 p0 (by rw[hL9];simp)).2
    have ok1:=(HX1.out.2.2.2.bs.ci.ok c hc1 p1 (by rw[hL9];simp)).2
    have hne:p0≠p1:=fun e=>by have:=HX1.out.2.2.2.bs.ci.nd c hc1;rw[hL9,e]at this;simp at this
    have hrl:r.length≤10000:=by have:=HX1.out.2.2.2.bs.ci.len hc1;rw[hL9]at this;simp at this;omega
    have HW:=hide <| watch_any g d1 a' c p0 p1 r wl HX1.out.1 hc1 (by omega) hL9 hne ⟨ok0,ok1⟩ (by omega) hrl (fun l hl=>by have:=HX1.out.2.2.2.wi.len hl;omega)
    have HSW:Hid (Sa d1 (wtD d1 c p0 p1 2)):=(Sm.trans (Sm.wl d1 p0 _) (Sm.wl _ p1 _)).sa;clear g0 g1 hL9 ok0 ok1 hne hrl hr;go_wp2_with fail
    refine HW.out.mono ?_;rintro e w3 ⟨rfl,a3,s3,m3⟩;have HF:Hid (AtEnd g d a c I A Q' U w w3):=⟨_,a3,U',s3,HX1.out.2.1.trans m3,HX1.out.2.2.1.trans HSW.out,HE.out,HUU.out⟩;clear s3 m3 HW HE;go_wp2;go_end0
    exact⟨rfl,HF.out⟩
   ·
    have hk2I:¬ ((1:Int)<(k:Int)):=by omega
    by_cases hk0:k=0
    ·
     subst hk0;have hf:∀m∈(d1.C c).lits,ng m∈d1.T:=fun m hm=>by
      rw[HL1.out]at hm;obtain⟨j,hj,rfl⟩:=List.mem_iff_getElem.1 hm;have h8:=HAP.out.hi j hj (Nat.zero_le _) (by omega)
      rw[HVT.out _ hm]at h8;exact (vl_neg HX1.out.2.2.2.bs.ti.nd).1 h8
     have HE:=hide (HX1.out.2.2.2.false_ hc1 HQQ.out.1 (fun x hx=>(HQQ.out.2.1 x hx).1) hf HLU.out)
     have c4:wl.cell? ⟨g,4,none⟩=some (.int .i64 d1.clash):=HX1.out.1.cell 4;have z4:=HX1.out.1.frozen 4;have HS4:=hide (HX1.out.1.clash_ (c:Int));have HF:Hid (AtEnd g d a c I A Q' U w (wl.setCell ⟨g,4,none⟩ (.int .i64 (c:Nat)))):=⟨_,a',U',HS4.out.1,HX1.out.2.1.trans HS4.out.2,HX1.out.2.2.1.trans (Sa.clash _ _),HE.out,HUU.out⟩;generalize d1.clash=cl0 at c4;clear hf HE HS4;go_wp2;go_end0
     exact⟨rfl,HF.out⟩
    ·
     have hk0I:¬ ((k:Int)=0):=by omega
     have hk0B:((k:Int) == 0)=false:=by simpa using hk0I
     obtain rfl:k=1:=by omega
     obtain⟨x,r,hr⟩:∃x r,L=x::r:=by
      match L,LL with
      | [],h=>simp at h;omega
      | x::r,_=>exact⟨x,r,rfl⟩
     have hi0:0<i:=by omega
     have hi0I:(0:Int)<(i:Int):=by omega
     obtain⟨b,cap,hvb,lb,-,-,qb,-⟩:=HX1.out.1.litR (c:=c) hc1 (by rw[HL1.out,LL];omega)
     rw[HL1.out,LL]at hvb;have e1:=HLV1.out.symm.trans hvb;simp only[Value.slice.injEq]at e1;obtain⟨rfl,-,rfl⟩:=e1;rw[HL1.out]at qb;have q0:wl.cell? ⟨b,0,none⟩=some (.int .i32 (x:Nat)):=by
      have h9:=qb 0 (by omega)
      simpa [hr] using h9
     have hxm:x∈(d1.C c).lits:=by rw[HL1.out,hr];simp
     have hxo:=HX1.out.2.2.2.bs.ci.ok c hc1 x hxm;have hx0:d1.V x≠-1:=by
      have h8:=HAP.out.lo 0 (by rw[LL];omega) (by omega)
      have e0:L[0]'(by rw[LL];omega)=x:=by simp[hr]
      rwa [e0]at h8
     have hfx:∀m∈(d1.C c).lits,m≠x→ng m∈d1.T:=fun m hm hne=>by
      rw[HL1.out]at hm;obtain⟨j,hj,rfl⟩:=List.mem_iff_getElem.1 hm;have hj0:j≠0:=fun e=>by subst e;exact hne (by simp[hr])
      have h8:=HAP.out.hi j hj (by omega) (by omega)
      rw[HVT.out _ hm]at h8;exact (vl_neg HX1.out.2.2.2.bs.ti.nd).1 h8
     have hvx:=HX1.out.2.2.2.bs.ti.va x hxo.2;obtain⟨bV,cV,hVv,lV,qV,-⟩:=HX1.out.1.valR;have c6:wl.cell? ⟨g,6,none⟩=some (.slice (some ⟨bV,0,none⟩) (2*(d1.nv+1)) cV):=(HX1.out.1.cell 6).trans (congrArg some hVv);have qx:wl.cell? ⟨bV,x,none⟩=some (.int .i8 (d1.V x)):=qV x hxo.2;have hxI:(x:Int)<2*((d1.nv:Int)+1):=by omega
     have HFX:=hide hfx;have HXM:=hide hxm;clear hvb qb hVv qV hfx hxm hr;by_cases hv0:d1.V x=0
     ·
      rw[hv0]at qx;have h0x:vl d1.T x=0:=by rw[← hvx];exact hv0
      have hun:∀v∈vrs (d1.C c).lits (x:Int),v≤d1.nv∧(d1.F v).unit=(((d1.F v).unit.toNat:Nat):Int)∧(d1.F v).unit.toNat≤100000000:=by
       intro v hv;obtain⟨t,t1,t2,-,u,u1,u2,-⟩:=HX1.out.2.2.2.bs.units (l:=x) HX1.out.2.2.2.s0 HFX.out v hv;have:=(HX1.out.2.2.2.bs.ti.ok t t1).2;rw[u2];exact⟨by omega,by simp,by simp;omega⟩
      obtain⟨hE0,hE1⟩:=HX1.out.2.2.2.unit (us:=fun v=>(d1.F v).unit.toNat) hc1 HXM.out h0x HFX.out HLU.out HQQ.out.1 (fun x hx=>(HQQ.out.2.1 x hx).1) HQQ.out.2.2 (fun v hv=>(hun v hv).2.1)
      have HAS:Hid (∀w9,SW w9 g d1 a'→Calls Tryz.prog 64 #[.pointer (some ⟨g,0,none⟩),.int .i32 (x:Nat),.int .i64 (c:Nat)] w9 fun e w'=>e=.returned (.tuple #[])∧AsEnd g d1 a' x (c:Nat) (fun v=>(d1.F v).unit.toNat) w9 w'):=fun w9 s9=>assign_any g d1 a' x (c:Int) (fun v=>(d1.F v).unit.toNat) w9 s9 hxo.2 (by omega) (by have:=HX1.out.2.2.2.bs.ti.len;omega) (by rw[HX1.out.2.2.2.s0];simp) (fun _=>⟨c,rfl,hc1,by omega,by have:=HX1.out.2.2.2.bs.ci.len hc1;omega,fun m hm=>by have:=(HX1.out.2.2.2.bs.ci.ok c hc1 m hm).2;omega,hun⟩)
      have HEE:=hide (And.intro hE0 hE1);clear hE0 hE1 hun h0x hvx hx0;go_wp2_with fail
      go_quiet (fail)
      obtain⟨w2,hw2⟩:∃w2,wl.drewN nq=w2:=⟨_,rfl⟩;rw[hw2];have H2:Hid (SW w2 g d1 a'∧Mo g d a w d1 a' w2):=by rw[← hw2];exact⟨HX1.out.1.drewN _,HX1.out.2.1.drewN _⟩
      have q0':w2.cell? ⟨b,0,none⟩=some (.int .i32 (x:Nat)):=by rw[← hw2];exact q0
      have lb':b<w2.heap.size:=by rw[← hw2];exact lb
      have HA2:=hide (HAS.out w2 H2.out.1);clear hw2 q0 c6 qx lb lV hlg HAS;go_wp2_with fail
      refine HA2.out.mono ?_;rintro e w3 ⟨rfl,hend⟩;have HF:Hid (AtEnd g d a c I A Q' U w w3):=by
       rcases hend with⟨hS,-⟩|⟨hS,r,hr,a3,-,h9⟩
       · exact absurd HX1.out.2.2.2.s0 hS
       ·
        obtain rfl:c=r:=by omega
        rcases h9 with⟨hv,s3,m3⟩|⟨hv,s3,m3⟩
        · exact⟨_,a3,U',s3,H2.out.2.trans m3,HX1.out.2.2.1.trans (Sm.asg0 _ _ _ _).sa,HEE.out.1 hv,HUU.out⟩
        · exact⟨_,a3,U',s3,H2.out.2.trans m3,HX1.out.2.2.1.trans ((Sm.asg0 _ _ _ _).trans (Sm.more _ _)).sa,HEE.out.2,HUU.out⟩
      clear hend HA2 HEE;go_wp2;go_end0
      exact⟨rfl,HF.out⟩
     ·
      have hT1:x∈d1.T:=by
       unfold vl at hvx;split at hvx
       · assumption
       ·
        split at hvx
        · exact absurd hvx hx0
        · exact absurd hvx hv0
      have hv2:d1.V x=1:=by rw[hvx];exact vl_one.2 hT1
      have HE:=hide (HX1.out.2.2.2.low_ HQQ.out.1 (fun x hx=>(HQQ.out.2.1 x hx).1) HXM.out hT1 HLU.out)
      rw[hv2]at qx;have HF:Hid (∀nn,AtEnd g d a c I A Q' U w (wl.drewN nn)):=fun nn=>⟨d1,a',U',HX1.out.1.drewN _,HX1.out.2.1.drewN _,HX1.out.2.2.1,HE.out,HUU.out⟩
      clear hT1 hvx HE hx0 hv0 hv2;go_wp2_with fail
      go_quiet (fail)
      go_wp2;go_end0
      exact⟨rfl,HF.out _⟩
end Sat
namespace Sat
open Euf (OL App)
abbrev Dt.M (d:Dt):Nat→Int:=fun v=>(d.F v).mark
structure MK (d:Dt):Prop where
  nd:d.mks.Nodup
  iff_:∀v,v∈d.mks↔(d.F v).mark≠0
  le:∀v∈d.mks,v≤d.nv
theorem MK.len {d:Dt} (m:MK d):d.mks.length≤d.nv+1:=nodup_le (d.nv+1) d.mks m.nd (fun v hv=>by have:=m.le v hv;omega)
structure FM (d0 d:Dt):Prop where
  eq:d={ d0 with F:=d.F,mks:=d.mks }
  fm:∀v,d.F v=(d0.F v).mk_ (d.F v).mark
theorem FM.refl (d:Dt):FM d d:=⟨rfl,fun _=>rfl⟩
section
variable {d0 d:Dt}
theorem FM.nv (h:FM d0 d):d.nv=d0.nv:=by rw[h.eq]
theorem FM.nc (h:FM d0 d):d.nc=d0.nc:=by rw[h.eq]
theorem FM.C (h:FM d0 d):d.C=d0.C:=by rw[h.eq]
theorem FM.level (h:FM d0 d) (v:Nat):(d.F v).level=(d0.F v).level:=by rw[h.fm v]
theorem FM.place (h:FM d0 d) (v:Nat):(d.F v).place=(d0.F v).place:=by rw[h.fm v]
theorem FM.reason (h:FM d0 d) (v:Nat):(d.F v).reason=(d0.F v).reason:=by rw[h.fm v]
theorem FM.unit (h:FM d0 d) (v:Nat):(d.F v).unit=(d0.F v).unit:=by rw[h.fm v]
theorem FM.mark_ (h:FM d0 d) (v:Nat) (m:Int) (l:List Nat):FM d0 { d with F:=upd d.F v ((d.F v).mk_ m),mks:=l }:=by
 refine⟨by rw[h.eq],fun u=>?_⟩
 show upd d.F v _ u=(d0.F u).mk_ (upd d.F v _ u).mark
 by_cases e:u=v
 · subst e;rw[upd_same,h.fm u]
 · rw[upd_other _ _ e];exact h.fm u
theorem M_upd (d:Dt) (v:Nat) (m:Int) (l:List Nat):({ d with F:=upd d.F v ((d.F v).mk_ m),mks:=l }:Dt).M=upd d.M v m:=by
 funext u
 show (upd d.F v _ u).mark=_
 by_cases e:u=v
 · subst e;rw[upd_same,upd_same]
 · rw[upd_other _ _ e,upd_other _ _ e]
theorem MK.mark_ (k:MK d) {v:Nat} (h0:(d.F v).mark=0) (hv:v≤d.nv) {m:Int} (hm:m≠0):MK { d with F:=upd d.F v ((d.F v).mk_ m),mks:=d.mks++[v] }:=by
 have hnv:v ∉ d.mks:=fun h=>(k.iff_ v).1 h h0
 refine⟨?_,fun u=>?_,fun u hu=>?_⟩
 ·
  show (d.mks++[v]).Nodup
  rw[List.nodup_append];exact⟨k.nd,by simp,fun a ha b hb=>by simp at hb;subst hb;rintro rfl;exact hnv ha⟩
 ·
  show u∈d.mks++[v]↔(upd d.F v _ u).mark≠0
  by_cases e:u=v
  · subst e;rw[upd_same];simp[hm]
  · rw[upd_other _ _ e,← k.iff_ u];simp[e]
 ·
  have hu':u∈d.mks++[v]:=hu;rcases List.mem_append.1 hu' with h|h
  · exact k.le u h
  · simp at h;subst h;exact hv
end
theorem JM.set {T S:List Nat} {F:Nat→Fc} {C:Nat→Cl} {M:Nat→Int} (j:JM T S F C M) {v:Nat} {m:Int} (h0:M v=0) (hm:m=2∨m=3) (hon:∃i,∃hi:i<T.length,T[i] / 2=v∧0<lvl S i) (hf:m=2→Fol F C M v):JM T S F C (upd M v m)∧Ext M (upd M v m):=by
 have ex:Ext M (upd M v m):=⟨fun u hu=>upd_other _ _ (fun e=>hu (by rw[e];exact h0)),fun u hu=>by
  by_cases e:u=v
  · rw[e,upd_same];omega
  · rw[upd_other _ _ e];omega⟩
 refine⟨⟨fun u=>?_,fun u hu=>?_,fun u hu=>?_⟩,ex⟩
 ·
  by_cases e:u=v
  · rw[e,upd_same];omega
  · rw[upd_other _ _ e];exact j.va u
 ·
  by_cases e:u=v
  · rw[e];exact hon
  · rw[upd_other _ _ e]at hu;exact j.on u hu
 ·
  by_cases e:u=v
  · rw[e,upd_same]at hu;rw[e];exact (hf hu).ext ex
  · rw[upd_other _ _ e]at hu;exact (j.se u hu).ext ex
structure JI (g:Nat) (d0 d:Dt) (a:Key→Value) (w:World):Prop where
  sw:SW w g d a
  fm:FM d0 d
  mk_:MK d
  jm:JM d0.T d0.S d0.F d0.C d.M
def Loc (d0 d d':Dt) (n:Nat):Prop:=∀u,(d'.F u).mark≠(d.F u).mark→∃j,∃hj:j<d0.T.length,d0.T[j] / 2=u∧j<n
theorem Loc.refl (d0 d:Dt) (n:Nat):Loc d0 d d n:=fun u h=>absurd rfl h
theorem Loc.trans {d0 d d' d'':Dt} {n:Nat} (h:Loc d0 d d' n) (k:Loc d0 d' d'' n):Loc d0 d d'' n:=fun u hu=>by
  by_cases e:(d'.F u).mark=(d.F u).mark
  · exact k u (by rw[e];exact hu)
  · exact h u e
theorem Loc.le {d0 d d':Dt} {n m:Nat} (h:Loc d0 d d' n) (hm:n≤m):Loc d0 d d' m:=fun u hu=>by
  obtain⟨j,hj,e,h1⟩:=h u hu
  exact⟨j,hj,e,by omega⟩
structure JE (g:Nat) (d0 d:Dt) (a:Key→Value) (w:World) (n:Nat) (d':Dt) (a':Key→Value) (w':World):Prop where
  ji:JI g d0 d' a' w'
  mo:Mo g d a w d' a' w'
  ex:Ext d.M d'.M
  lo:Loc d0 d d' n
theorem JE.refl {g:Nat} {d0 d:Dt} {a:Key→Value} {w:World} (h:JI g d0 d a w) (n:Nat):JE g d0 d a w n d a w:=⟨h,Mo.refl _ _ _ _,Ext.refl _,Loc.refl _ _ _⟩
theorem JE.trans {g:Nat} {d0 d d' d'':Dt} {a a' a'':Key→Value} {w w' w'':World} {n:Nat} (h:JE g d0 d a w n d' a' w') (k:JE g d0 d' a' w' n d'' a'' w''):JE g d0 d a w n d'' a'' w'':=⟨k.ji,h.mo.trans k.mo,h.ex.trans k.ex,h.lo.trans k.lo⟩
theorem JE.le {g:Nat} {d0 d d':Dt} {a a':Key→Value} {w w':World} {n m:Nat} (h:JE g d0 d a w n d' a' w') (hm:n≤m):JE g d0 d a w m d' a' w':=⟨h.ji,h.mo,h.ex,h.lo.le hm⟩
def FoE (g:Nat) (d0 d:Dt) (a:Key→Value) (w:World) (i v:Nat) (e:Ending) (w':World):Prop:=∃(b:Bool) (d':Dt) (a':Key→Value),e=.returned (.bool b)∧JE g d0 d a w i d' a' w'∧(b=true→Fol d0.F d0.C d'.M v)
def LoE (g:Nat) (d0 d:Dt) (a:Key→Value) (w:World) (i v:Nat) (e:Ending) (w':World):Prop:=∃(b:Bool) (d':Dt) (a':Key→Value),e=.returned (.bool b)∧JE g d0 d a w (i+1) d' a' w'∧(b=false→(d0.F v).level=0∨d'.M v=1∨d'.M v=2)
def PF (g:Nat) (d0:Dt) (n:Nat):Prop:=∀(d:Dt) (a:Key→Value) (w:World) (i:Nat) (hi:i<d0.T.length),i<n→JI g d0 d a w →
  Calls Tryz.prog 124 #[.pointer (some ⟨g,0,none⟩),.int .i64 (d0.T[i] / 2:Nat)] w fun e w'=>FoE g d0 d a w i (d0.T[i] / 2) e w'
def PL (g:Nat) (d0:Dt) (n:Nat):Prop:=∀(d:Dt) (a:Key→Value) (w:World) (i:Nat) (hi:i<d0.T.length),i<n→JI g d0 d a w →
  Calls Tryz.prog 139 #[.pointer (some ⟨g,0,none⟩),.int .i64 (d0.T[i] / 2:Nat)] w fun e w'=>LoE g d0 d a w i (d0.T[i] / 2) e w'
theorem SW.wh {w:World} {g:Nat} {d:Dt} {a:Key→Value} (s:SW w g d a) {v:Nat} (hv:v<d.nv+1):∃bF cF,a kFac=.slice (some ⟨bF,0,none⟩) (d.nv+1) cF∧bF<w.heap.size∧w.cell? ⟨bF,v*6,none⟩=some (.int .i64 (d.F v).level)∧w.cell? ⟨bF,v*6+2,none⟩=some (.int .i64 (d.F v).reason)∧w.cell? ⟨bF,v*6+5,none⟩=some (.int .i8 (d.F v).mark):=by
 obtain⟨bF,cF,hF,lF,qF,-⟩:=s.facR;obtain⟨q0,-,q2,-,-,q5⟩:=qF v hv;exact⟨bF,cF,hF,lF,q0,q2,q5⟩
set_option maxRecDepth 20000 in
set_option maxHeartbeats 16000000 in
theorem isLoose_step (g:Nat) (d0:Dt) (ti:TI d0.nv d0.V d0.T d0.S d0.F d0.nc d0.C) (hn:d0.nv≤5000) (n:Nat) (hP:PF g d0 n):PL g d0 n:=by
 intro d a w i hi hin h;obtain⟨v,hv⟩:∃v,d0.T[i] / 2=v:=⟨_,rfl⟩;have hvn:v≤d0.nv:=by have:=ti.ok _ (List.getElem_mem hi);omega
 have hlv:(d0.F v).level=(lvl d0.S i:Int):=by have:=(ti.pl i hi).2;rw[hv]at this;exact this
 have hnv:=h.fm.nv;have hvl:v<d.nv+1:=by omega
 have hvI:(v:Int)<(d.nv:Int)+1:=by omega
 obtain⟨bF,cF,hF,lF,q0,-,q5⟩:=h.sw.wh hvl;have c8:w.cell? ⟨g,8,none⟩=some (.slice (some ⟨bF,0,none⟩) (d.nv+1) cF):=(h.sw.cell 8).trans (congrArg some hF);rw[h.fm.level v]at q0;have hlg:=h.sw.lt;have H0:=hide h;have HV:=hide hv;have HF:=hide hF;rw[hv];by_cases h0:(d0.F v).level=0
 ·
  rw[h0]at q0;have H00:=hide h0;clear h hF hlv h0 hv;go_enter Tryz.func139,Tryz.ntmps139;go_wp2;go_ret
  exact⟨false,d,a,rfl,JE.refl H0.out _,fun _=>Or.inl H00.out⟩
 ·
  have h0I:¬ ((d0.F v).level=0):=h0;have h0B:((d0.F v).level == 0)=false:=by simpa using h0
  have hpos:0<lvl d0.S i:=by omega
  have HON:Hid (∃i,∃hi:i<d0.T.length,d0.T[i] / 2=v∧0<lvl d0.S i):=⟨i,hi,hv,hpos⟩;generalize (d0.F v).level=lv at q0 h0I h0B;by_cases hm:(d.F v).mark=0
  ·
   rw[hm]at q5;have HM:=hide hm;have HPF:=hide (hP d a w i hi hin h);rw[hv]at HPF;have HD:=hide ti;clear h hF hlv h0 hv hm hP ti hpos;go_enter Tryz.func139,Tryz.ntmps139;go_wp2_with fail
   refine HPF.out.mono ?_;rintro e w2 ⟨b,d2,a2,rfl,hje,hfol⟩;have HJ:=hide hje;have HFO:=hide hfol;have hm2:(d2.F v).mark=0:=by
    apply Classical.byContradiction
    intro h9;obtain⟨j,hj,e1,e2⟩:=hje.lo v (by rw[HM.out];exact h9)
    have:=nd_inj HD.out.nd hj hi (by rw[e1,HV.out])
    omega
   have hnv2:=hje.ji.fm.nv;have hl2:=hje.ji.mk_.len;have HSM:=hide (fun m=>setMark_any g d2 a2 v m w2 hje.ji.sw (by omega) (by omega))
   have hlg2:=hje.ji.sw.lt;have HM2:=hide hm2;have hk2:∀m a3 w3,m=2∨m=3→(m=2→b=true)→SW w3 g { d2 with F:=upd d2.F v ((d2.F v).mk_ m),mks:=d2.mks++[v] } a3→Mo g d2 a2 w2 { d2 with F:=upd d2.F v ((d2.F v).mk_ m),mks:=d2.mks++[v] } a3 w3→JE g d0 d a w (i+1) { d2 with F:=upd d2.F v ((d2.F v).mk_ m),mks:=d2.mks++[v] } a3 w3:=by
    intro m a3 w3 hm hb s3 m3;obtain⟨j1,j2⟩:=hje.ji.jm.set hm2 hm HON.out (fun e=>hfol (hb e))
    refine⟨⟨s3,hje.ji.fm.mark_ v m _,hje.ji.mk_.mark_ hm2 (by omega) (by omega),by rw[M_upd];exact j1⟩,hje.mo.trans m3,?_,?_⟩
    · rw[M_upd];exact hje.ex.trans j2
    ·
     refine (hje.lo.le (Nat.le_succ _)).trans (fun u hu=>?_)
     have hu':(upd d2.F v ((d2.F v).mk_ m) u).mark≠(d2.F u).mark:=hu;by_cases e:u=v
     · exact⟨i,hi,by rw[e];exact HV.out,Nat.lt_succ_self _⟩
     · rw[upd_other _ _ e]at hu';exact absurd rfl hu'
   have HK2:=hide hk2;have hF2:a2 kFac=.slice (some ⟨bF,0,none⟩) (d.nv+1) cF:=(hje.mo.ad kFac trivial).trans HF.out;have HF2:=hide hF2;clear hk2 hje hfol hm2 HPF hF2;cases b with
   | true =>
    go_wp2_with fail
    refine (HSM.out 2).mono ?_;rintro e w3 ⟨rfl,a3,s3,m3⟩;have HE:=hide (HK2.out 2 a3 w3 (Or.inl rfl) (by simp) s3 m3)
    have hF3:=(HE.out.mo.ad kFac trivial).trans HF.out;obtain⟨bF',cF',hF',lF3,-,-,q50⟩:=HE.out.ji.sw.wh (v:=v) (by show v<d2.nv+1;omega)
    have e1:=hF3.symm.trans hF';simp only[Value.slice.injEq,Option.some.injEq,Addr.mk.injEq]at e1;obtain⟨⟨rfl,-,-⟩,-,-⟩:=e1;have q53:w3.cell? ⟨bF,v*6+5,none⟩=some (.int .i8 2):=by
     rw[q50];show some (Value.int .i8 (upd d2.F v ((d2.F v).mk_ 2) v).mark)=_
     rw[upd_same]
    clear s3 m3 hF3 hF' HSM HK2 c8 q0 q5 lF q50;go_wp2;go_ret
    refine⟨false,_,a3,rfl,HE.out,fun _=>Or.inr (Or.inr ?_)⟩
    show (upd d2.F v ((d2.F v).mk_ 2) v).mark=2
    rw[upd_same]
   | false =>
    go_wp2_with fail
    refine (HSM.out 3).mono ?_;rintro e w3 ⟨rfl,a3,s3,m3⟩;have HE:=hide (HK2.out 3 a3 w3 (Or.inr rfl) (by simp) s3 m3)
    have hF3:=(HE.out.mo.ad kFac trivial).trans HF.out;obtain⟨bF',cF',hF',lF3,-,-,q50⟩:=HE.out.ji.sw.wh (v:=v) (by show v<d2.nv+1;omega)
    have e1:=hF3.symm.trans hF';simp only[Value.slice.injEq,Option.some.injEq,Addr.mk.injEq]at e1;obtain⟨⟨rfl,-,-⟩,-,-⟩:=e1;have q53:w3.cell? ⟨bF,v*6+5,none⟩=some (.int .i8 3):=by
     rw[q50];show some (Value.int .i8 (upd d2.F v ((d2.F v).mk_ 3) v).mark)=_
     rw[upd_same]
    clear s3 m3 hF3 hF' HSM HK2 c8 q0 q5 lF q50;go_wp2;go_ret
    exact⟨true,_,a3,rfl,HE.out,fun e=>absurd e (by decide)⟩
  ·
   have hmI:¬ ((d.F v).mark=0):=hm;have hmB:((d.F v).mark == 0)=false:=by simpa using hm
   have HM:Hid (d.M v=1∨d.M v=2∨d.M v=3):=(h.jm.va v).resolve_left hm;have HMM:Hid ((d.F v).mark=d.M v):=rfl;generalize (d.F v).mark=mv at q5 hmI hmB HMM hm;clear h hF hlv h0 hv hP hpos;by_cases h3:mv=3
   ·
    subst h3;go_enter Tryz.func139,Tryz.ntmps139;go_wp2;go_ret
    exact⟨true,d,a,rfl,JE.refl H0.out _,fun e=>absurd e (by decide)⟩
   ·
    have h3I:¬ (mv=3):=h3;have h3B:(mv == 3)=false:=by simpa using h3
    have HR:Hid (d.M v=1∨d.M v=2):=by
     rcases HM.out with h9|h9|h9
     · exact Or.inl h9
     · exact Or.inr h9
     · exact absurd (HMM.out.trans h9) h3
    go_enter Tryz.func139,Tryz.ntmps139;go_wp2;go_ret
    exact⟨false,d,a,rfl,JE.refl H0.out _,fun _=>Or.inr HR.out⟩
set_option maxRecDepth 20000 in
set_option maxHeartbeats 16000000 in
theorem follows_step (g:Nat) (d0:Dt) (ti:TI d0.nv d0.V d0.T d0.S d0.F d0.nc d0.C) (ci:CI d0.nv d0.nc d0.C) (hn:d0.nv≤5000) (hnc:d0.nc≤100000000) (n:Nat) (hP:PL g d0 n):PF g d0 (n+1):=by
 intro d a w i hi hin h;obtain⟨v,hv⟩:∃v,d0.T[i] / 2=v:=⟨_,rfl⟩;have hvn:v≤d0.nv:=by have:=ti.ok _ (List.getElem_mem hi);omega
 have hnv:=h.fm.nv;have hvl:v<d.nv+1:=by omega
 have hvI:(v:Int)<(d.nv:Int)+1:=by omega
 obtain⟨bF,cF,hF,lF,-,q2,-⟩:=h.sw.wh hvl;have c8:w.cell? ⟨g,8,none⟩=some (.slice (some ⟨bF,0,none⟩) (d.nv+1) cF):=(h.sw.cell 8).trans (congrArg some hF);rw[h.fm.reason v]at q2;have hlg:=h.sw.lt;have H0:=hide h;have HV:=hide hv;by_cases hr:(d0.F v).reason=-1
 ·
  rw[hr]at q2;rw[hv];clear h hF hr hv;go_enter Tryz.func124,Tryz.ntmps124;go_wp2;go_ret
  exact⟨false,d,a,rfl,JE.refl H0.out _,fun e=>absurd e (by decide)⟩
 ·
  have his:i ∉ d0.S:=fun hs=>hr (by have:=ti.ch i hi hs;rwa [hv]at this)
  obtain⟨r,hrc,hre,hrm,hrf⟩:=ti.re i hi his;rw[hv]at hre;rw[hre]at q2;have hrI:¬ ((r:Int)=-1):=by omega
  have hrB:((r:Int) == -1)=false:=by simp<;>omega
  have hrc':r<d.nc:=by rw[h.fm.nc];exact hrc
  have hrcI:(r:Int)<(d.nc:Int):=by omega
  obtain⟨bC,cC,hC,lC,qC,-⟩:=h.sw.clzR (by omega)
  have c2:w.cell? ⟨g,2,none⟩=some (.slice (some ⟨bC,0,none⟩) d.nc cC):=(h.sw.cell 2).trans (congrArg some hC);have qc:w.cell? ⟨bC,r*4,none⟩=some (a (kLit r)):=(qC r hrc').1;obtain⟨qL,cL,hL,-,-,-⟩:=h.sw.len (k:=kLit r) (by exact hrc')
  have hL:a (kLit r)=.slice qL (d.C r).lits.length cL:=hL;rw[h.fm.C]at hL;obtain⟨m,hm⟩:∃m,(d0.C r).lits.length=m:=⟨_,rfl⟩;rw[hL,hm]at qc;have hml:=ci.len hrc;have hm8:m≤5001:=by omega
  have HLV:Hid (a (kLit r)=.slice qL m cL):=by rw[← hm];exact hL
  have HM:=hide hm;have HR:=hide (And.intro hrc (And.intro hre (And.intro hrm hrf)));have HTC:=hide (And.intro ti ci);have HP:=hide hP;have HNC:Hid (r<d.nc):=hrc';rw[hv];clear h hF hr hv his hre hrm hrf hC qC hL hm hml ti ci hP;go_enter Tryz.func124,Tryz.ntmps124;go_wp2;clear c8 q2 c2 qc lC lF hlg;go_loopw [27] (fun v27 wr=>∃(j:Nat) (d2:Dt) (a2:Key→Value),v27=.int .i64 (j:Nat)∧j≤m∧Hid (JE g d0 d a w i d2 a2 wr∧∀k (hk:k<(d0.C r).lits.length),k<j→(d0.C r).lits[k] / 2≠v→(d0.F ((d0.C r).lits[k] / 2)).level=0∨d2.M ((d0.C r).lits[k] / 2)=1∨d2.M ((d0.C r).lits[k] / 2)=2)) (fun v _=>m - (intOf v).toNat)
  case atStart=>exact⟨0,d,a,rfl,Nat.zero_le _,JE.refl H0.out _,fun k hk h9=>absurd h9 (by omega)⟩
  case round =>
   rename World=>wl
   clear H0;obtain⟨j,d2,a2,rfl,hj,H⟩:=hrel;by_cases hlt:j<m
   ·
    have hltI:(j:Int)<(m:Int):=by omega
    have hnc2:=H.out.1.ji.fm.nc;have hC2:=H.out.1.ji.fm.C;have hr2:r<d2.nc:=by rw[hnc2];exact HR.out.1
    have hav:a2 (kLit r)=a (kLit r):=H.out.1.mo.ad (kLit r) HNC.out;obtain⟨b,cap,hvb,lb,-,-,qb,zb⟩:=H.out.1.ji.sw.litR (c:=r) hr2 (by rw[hC2,HM.out];omega)
    have e1:=(hav.trans HLV.out).symm.trans hvb;simp only[Value.slice.injEq]at e1;obtain⟨rfl,-,rfl⟩:=e1;rw[hC2]at qb;have hjl:j<(d0.C r).lits.length:=by rw[HM.out];exact hlt
    have qj:=qb j hjl;obtain⟨l,hl⟩:∃l,(d0.C r).lits[j]=l:=⟨_,rfl⟩;rw[hl]at qj;have HLJ:Hid (∃hjl:j<(d0.C r).lits.length,(d0.C r).lits[j]=l):=⟨hjl,hl⟩;have hlm:l∈(d0.C r).lits:=by rw[← hl];exact List.getElem_mem hjl
    have hlo:=HTC.out.2.ok r HR.out.1 l hlm;have hl2:l<20000:=by omega
    have HVC:=hide (fun w9=>variable_any l w9 hl2)
    obtain⟨u,hu⟩:∃u,l / 2=u:=⟨_,rfl⟩;rw[hu]at HVC;have HU:=hide hu;have hlgl:=H.out.1.ji.sw.lt;have HLM:=hide hlm;clear hvb qb zb hav hl hjl hlm hu;by_cases huv:u=v
    ·
     have huI:(u:Int)=(v:Int):=by omega
     have HE:Hid (JE g d0 d a w i d2 a2 wl∧∀k (hk:k<(d0.C r).lits.length),k<j+1→(d0.C r).lits[k] / 2≠v→(d0.F ((d0.C r).lits[k] / 2)).level=0∨d2.M ((d0.C r).lits[k] / 2)=1∨d2.M ((d0.C r).lits[k] / 2)=2):=⟨H.out.1,fun k hk h9 h8=>by
      by_cases e:k=j
      · subst e;obtain⟨h1,h2⟩:=HLJ.out;exact absurd (by rw[h2,HU.out];exact huv) h8
      · exact H.out.2 k hk (by omega) h8⟩
     subst huv;go_wp2_with (go_at_call 62;refine (HVC.out _).mono ?_;rintro e w9 ⟨rfl,hw9⟩;obtain rfl:=hw9.symm)
     go_roundw
     case rel=>exact⟨j+1,d2,a2,by go_num,by omega,HE.out⟩
     case measure=>simp[intOf]<;>omega
    ·
     have hlT:ng l∈d0.T.take i:=HR.out.2.2.2 l HLM.out (fun e=>huv (by rw[← HU.out,e,HV.out]))
     obtain⟨q,hq,eq⟩:=List.mem_iff_getElem.1 (List.mem_of_mem_take hlT);have hqi:q<i:=lt_of_take HTC.out.1.nd hq eq hlT;have hqu:d0.T[q] / 2=u:=by rw[eq,ng_var];exact HU.out
     have HPL:=hide (HP.out d2 a2 wl q hq (by omega) H.out.1.ji)
     rw[hqu]at HPL;have huI:¬ ((u:Int)=(v:Int)):=by omega
     have huB:((u:Int) != (v:Int))=true:=by simpa using huI
     clear hlT hq eq hqu;go_wp2_with (first|(go_at_call 62;refine (HVC.out _).mono ?_;rintro e w9 ⟨rfl,hw9⟩;obtain rfl:=hw9.symm)|fail)
     refine HPL.out.mono ?_;rintro e w3 ⟨b,d3,a3,rfl,hje,hb⟩;have hje2:JE g d0 d a w i d3 a3 w3:=H.out.1.trans (hje.le (by omega))
     cases b with
     | true =>
      have HE:=hide hje2;clear hje hje2 hb HPL HVC;go_wp2;go_ret
      exact⟨false,d3,a3,rfl,HE.out,fun e=>absurd e (by decide)⟩
     | false =>
      have HE:Hid (JE g d0 d a w i d3 a3 w3∧∀k (hk:k<(d0.C r).lits.length),k<j+1→(d0.C r).lits[k] / 2≠v→(d0.F ((d0.C r).lits[k] / 2)).level=0∨d3.M ((d0.C r).lits[k] / 2)=1∨d3.M ((d0.C r).lits[k] / 2)=2):=⟨hje2,fun k hk h9 h8=>by
       by_cases e:k=j
       · subst e;obtain⟨h1,h2⟩:=HLJ.out;rw[h2,HU.out];exact hb rfl
       ·
        rcases H.out.2 k hk (by omega) h8 with h7|h7|h7
        · exact Or.inl h7
        · exact Or.inr (Or.inl (by rw[hje.ex.1 _ (by omega)];exact h7))
        · exact Or.inr (Or.inr (by rw[hje.ex.1 _ (by omega)];exact h7))⟩
      clear hje hje2 hb HPL HVC;go_wp2;go_roundw
      case rel=>exact⟨j+1,d3,a3,by go_num,by omega,HE.out⟩
      case measure=>simp[intOf]<;>omega
   ·
    have hltI:¬ ((j:Int)<(m:Int)):=by omega
    have HE:Hid (Fol d0.F d0.C d2.M v):=⟨r,HR.out.2.1,fun l hl hne=>by
     obtain⟨k,hk,rfl⟩:=List.mem_iff_getElem.1 hl;exact H.out.2 k hk (by rw[HM.out]at hk;omega) hne⟩
    go_wp2;go_ret
    exact⟨true,d2,a2,rfl,H.out.1,fun _=>HE.out⟩
theorem loose_all (g:Nat) (d0:Dt) (ti:TI d0.nv d0.V d0.T d0.S d0.F d0.nc d0.C) (ci:CI d0.nv d0.nc d0.C) (hn:d0.nv≤5000) (hnc:d0.nc≤100000000):∀n,PF g d0 n∧PL g d0 n
  | 0=>by
    have h0:PF g d0 0:=fun d a w i hi hin=>absurd hin (by omega)
    exact⟨h0,isLoose_step g d0 ti hn 0 h0⟩
  | n+1=>by
    have h1:=follows_step g d0 ti ci hn hnc n (loose_all g d0 ti ci hn hnc n).2
    exact⟨h1,isLoose_step g d0 ti hn (n+1) h1⟩
theorem follows_any (g:Nat) (d0 d:Dt) (a:Key→Value) (w:World) (i:Nat) (hi:i<d0.T.length) (ti:TI d0.nv d0.V d0.T d0.S d0.F d0.nc d0.C) (ci:CI d0.nv d0.nc d0.C) (hn:d0.nv≤5000) (hnc:d0.nc≤100000000) (h:JI g d0 d a w) :
    Calls Tryz.prog 124 #[.pointer (some ⟨g,0,none⟩),.int .i64 (d0.T[i] / 2:Nat)] w fun e w'=>FoE g d0 d a w i (d0.T[i] / 2) e w' :=
  (loose_all g d0 ti ci hn hnc (i+1)).1 d a w i hi (Nat.lt_succ_self _) h
end Sat
end Go.Proofs.YtbmkkhpoaicclabGreat
