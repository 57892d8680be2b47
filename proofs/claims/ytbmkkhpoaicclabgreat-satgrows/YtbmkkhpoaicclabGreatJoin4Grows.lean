/- Joined: Reg5, Base, Reg6, SatRp: words and contracts; no statement of the seat is proved here. -/
import Derived.Test.YtbmkkhpoaicclabGreatJoin3Grows
import Derived.WalkKit
import Derived.WalkSpells
import Derived.WalkLawsBesides
import Derived.Handy
import Derived.Laws.CopyOwn
namespace Go.Proofs.YtbmkkhpoaicclabGreat
open Go.RowKit
set_option linter.unusedVariables false
def updO (U:Nat→Value) (s:Option Nat) (v:Value):Nat→Value:=match s with|some t=>upd U t v|none=>U
structure Frm5 (a:Act) (sls:List (Option Nat)) (U:Nat→Value) (A:Act):Prop where
  got:∀(i s:Nat),sls[i]?=some (some s)→A.tmps[s]?=some (U s)
  old:∀s:Nat,(sls.contains (some s))=false→A.tmps[s]?=a.tmps[s]?
abbrev CW5:=(Nat→Bool)→(Nat→Value)→World→Prop
def StepE (P:Program) (ops:Array Oper) (Q:Exit→Act→World→Prop) (a:Act) (sls:List (Option Nat)) (prs:List (Value→Prop)) (C:CW5) (k:Nat) (o:Oper):Prop :=
  ∀L U w,C L U w→(∀(i s:Nat),L i=true→sls[i]?=some (some s)→prs.getD i (fun _=>True) (U s))→L k=false→(∀(i:Nat) (o':Oper),ops.toList[i]?=some o'→L i=true→Aft o' L=true)→Aft o L=true→∀(A:Act) (K:Act→World→Prop),Frm5 a sls U A →
    (∀v w',prs.getD k (fun _=>True) v→C (fun j=>j == k || L j) (updO U o.dst v) w'→K (A.put o.dst v) w')→Gate (if Region.wanted o (yielded ops A.tmps)=true then Oper.wp P o A w K Q else K (A.put o.dst undef) w)
def StepsE (P:Program) (ops:Array Oper) (Q:Exit→Act→World→Prop) (a:Act) (sls:List (Option Nat)) (prs:List (Value→Prop)) (C:CW5):Nat→List Oper→Prop
  | _,[]=>True
  | k,o::os=>StepE P ops Q a sls prs C k o∧StepsE P ops Q a sls prs C (k+1) os
section
variable {P:Program} {ops:Array Oper} {Q:Exit→Act→World→Prop} {a:Act} {sls:List (Option Nat)} {prs:List (Value→Prop)} {C:CW5} {k:Nat} {o:Oper} {os:List Oper}
theorem StepsE.nil:StepsE P ops Q a sls prs C k []:=trivial
theorem StepsE.run (hg:o.guard=none) (h:∀L U w,C L U w→(∀(i s:Nat),L i=true→sls[i]?=some (some s)→prs.getD i (fun _=>True) (U s))→L k=false→(∀(i:Nat) (o':Oper),ops.toList[i]?=some o'→L i=true→Aft o' L=true)→Aft o L=true→∀(A:Act) (K:Act→World→Prop),Frm5 a sls U A →
  (∀v w',prs.getD k (fun _=>True) v→C (fun j=>j == k || L j) (updO U o.dst v) w'→K (A.put o.dst v) w')→Gate (Oper.wp P o A w K Q)) (hs:StepsE P ops Q a sls prs C (k+1) os):StepsE P ops Q a sls prs C k (o::os):=by
 refine⟨fun L U w h1 h2 h3 h4 h5 A K hA hK=>⟨?_⟩,hs⟩
 rw[if_pos (by simp[Region.wanted,hg])]
 exact (h L U w h1 h2 h3 h4 h5 A K hA hK).out
end
theorem Frm5.is {a:Act} {sls:List (Option Nat)} {U:Nat→Value} {A:Act} (h:Frm5 a sls U A) (i s:Nat) (hi:sls[i]?=some (some s)) {v:Value} (hv:U s=v):A.tmps[s]?=some v:=by rw[h.got i s hi,hv]
def slotsOf (sls:List (Option Nat)):List Nat:=sls.filterMap id
theorem mem_slotsOf {sls:List (Option Nat)} {s:Nat}:s∈slotsOf sls↔some s∈sls:=by simp[slotsOf]
theorem aft_mono {o:Oper} {L L':Nat→Bool} (h:∀i,L i=true→L' i=true) (ha:Aft o L=true):Aft o L'=true:=by
 unfold Aft at ha ⊢;rw[List.all_eq_true]at ha ⊢;intro e he;have:=ha e he;simp only[Bool.or_eq_true,Bool.not_eq_true']at this ⊢;exact this.imp id (h _)
theorem wp_region_E {P:Program} {ops:Array Oper} {Q:Exit→Act→World→Prop} {id:Nat} {l:List Value} {d:List Deferred} {W:World} (hm:P.follows .mixedOrders=true) (sls:List (Option Nat)) (mask:List (Option Nat)) (hmask:∀U,putAll ⟨l.toArray,d⟩ (slotsOf sls) U=⟨(setM U mask l).toArray,d⟩)
  (prs:List (Value→Prop)) (C:CW5) (hdst:ops.toList.map (·.dst)=sls) (hnd:(slotsOf sls).Nodup) (hsz:(slotsOf sls).all (fun s=>decide (s<l.length))=true) (hord:inOrder 0 ops.toList=true)
  (h0:∀U,C (fun _=>false) U W.drew) (hs:StepsE P ops Q ⟨l.toArray,d⟩ sls prs C 0 ops.toList)
  (hd:∀L U w',(∀i,i<ops.size→L i=true)→C L U w'→(∀(i s:Nat),sls[i]?=some (some s)→prs.getD i (fun _=>True) (U s))→Q .normal ⟨(setM U mask l).toArray,d⟩ w'):(Code.region id ops true).wp P Q ⟨l.toArray,d⟩ W:=by
 have hlen:sls.length=ops.size:=by rw[← hdst];simp
 have hlt:∀s∈slotsOf sls,s<(⟨l.toArray,d⟩:Act).tmps.size:=fun s hs=>by
  have:=List.all_eq_true.1 hsz s hs;simpa using this
 have hat:∀(k:Nat) (o:Oper),ops.toList[k]?=some o→sls[k]?=some o.dst:=by
  intro k o ho;rw[← hdst,List.getElem?_map,ho];rfl
 have hinj:∀(sls:List (Option Nat)),(slotsOf sls).Nodup→∀(i j s:Nat),sls[i]?=some (some s)→sls[j]?=some (some s)→i=j:=by
  intro sls;induction sls with
  | nil=>intro _ i j s h;simp at h
  | cons x sls ih =>
   intro hn i j s hi hj;cases x with
   | none =>
    have hn':(slotsOf sls).Nodup:=by simpa [slotsOf] using hn
    cases i with
    | zero=>simp at hi
    | succ i =>
     cases j with
     | zero=>simp at hj
     | succ j=>rw[ih hn' i j s (by simpa using hi) (by simpa using hj)]
   | some y =>
    have hn':y ∉ slotsOf sls∧(slotsOf sls).Nodup:=by
     have:slotsOf (some y::sls)=y::slotsOf sls:=by simp[slotsOf]
     rw[this]at hn;exact List.nodup_cons.1 hn
    have mem:∀k,sls[k]?=some (some s)→s∈slotsOf sls:=fun k hk=>mem_slotsOf.2 (List.mem_of_getElem? hk)
    cases i with
    | zero =>
     cases j with
     | zero=>rfl
     | succ j =>
      simp at hi hj;subst hi;exact absurd (mem j hj) hn'.1
    | succ i =>
     cases j with
     | zero =>
      simp at hi hj;subst hj;exact absurd (mem i hi) hn'.1
     | succ j=>rw[ih hn'.2 i j s (by simpa using hi) (by simpa using hj)]
 let I:(Nat→Bool)→Act→World→Prop:=fun L a' w'=>∃U,a'=putAll ⟨l.toArray,d⟩ (slotsOf sls) U∧C L U w'∧(∀(i:Nat) (o':Oper),ops.toList[i]?=some o'→L i=true→Aft o' L=true)∧∀(i s:Nat),L i=true→sls[i]?=some (some s)→prs.getD i (fun _=>True) (U s)
 have steps:∀(os:List Oper) (k:Nat),(∀j o,os[j]?=some o→ops.toList[k+j]?=some o)→StepsE P ops Q ⟨l.toArray,d⟩ sls prs C k os→StepsOK P ops Q I k os:=by
  intro os;induction os with
  | nil=>intro k _ _;trivial
  | cons o os ih =>
   intro k hk hst;refine⟨?_,ih (k+1) (fun j o' hj=>by have:=hk (j+1) o' (by simpa using hj);rw[← this];congr 1;omega) hst.2⟩
   have hko:ops.toList[k]?=some o:=by simpa using hk 0 o rfl
   have hdo:=hat k o hko;rintro L _ w ⟨U,rfl,hC,hcl,hP⟩ hlk haf K hK;have fin:∀v w',prs.getD k (fun _=>True) v→C (fun j=>j == k || L j) (updO U o.dst v) w'→K ((putAll ⟨l.toArray,d⟩ (slotsOf sls) U).put o.dst v) w':=by
    intro v w' hv hC';refine hK _ _ ⟨updO U o.dst v,?_,hC',?_,?_⟩
    ·
     cases hd9:o.dst with
     | none=>rfl
     | some s =>
      have:s∈slotsOf sls:=mem_slotsOf.2 (List.mem_of_getElem? (by rw[hdo,hd9]))
      exact putAll_upd _ _ _ _ _ this (hlt _ this)
    ·
     intro i o' ho' hi;by_cases e:i=k
     ·
      subst e;rw[hko]at ho';cases ho'
      exact aft_mono (fun j hj=>by simp[hj]) haf
     ·
      have hLi:L i=true:=by simpa [e] using hi
      exact aft_mono (fun j hj=>by simp[hj]) (hcl i o' ho' hLi)
    ·
     intro i s hi his;by_cases e:i=k
     · subst e;rw[hdo]at his;injection his with his;rw[his];simp[updO,upd,hv]
     ·
      have hLi:L i=true:=by simpa [e] using hi
      have:updO U o.dst v s=U s:=by
       cases hd9:o.dst with
       | none=>rfl
       | some t =>
        have hne:s≠t:=fun e2=>e (hinj sls hnd i k s his (by rw[hdo,hd9,e2]))
        have e3:(s == t)=false:=by simp[hne]
        simp[updO,upd,e3]
      rw[this];exact hP i s hLi his
   exact (hst.1 L U w hC hP hlk hcl haf _ K ⟨fun i s hi=>putAll_mem _ _ _ _ (mem_slotsOf.2 (List.mem_of_getElem? hi)) (hlt _ (mem_slotsOf.2 (List.mem_of_getElem? hi))),fun s hs=>putAll_other _ _ _ _ (fun hm=>by rw[mem_slotsOf]at hm;simp[hm]at hs)⟩ fin).out
 refine wp_region_inv hm I hord ⟨fun s=>(⟨l.toArray,d⟩:Act).tmps.getD s undef,(putAll_self _ _).symm,h0 _,(fun _ _ _ h=>by cases h),(fun _ _ h=>by cases h)⟩ ?_ (steps ops.toList 0 (fun j o h=>by simpa using h) hs)
 rintro L _ w' ⟨U,rfl,hC,_,hP⟩ hall;rw[hmask];exact hd L U w' hall hC (fun i s his=>hP i s (hall i (by have:=(List.getElem?_eq_some_iff.1 his).1;omega)) his)
section
variable {k:IntKind} {t:TypeId} {w w':World} {g:Nat} {zs:List Nat}
end
section
variable {t:TypeId} {w w':World} {b:Nat} {cs:Array Value}
end
theorem _root_.Go.RowKit.Below.step {B:Nat} {w0 w1 w2:World} (h:Below B w0 w1) (k:Below w1.heap.size w1 w2) (hB:B≤w0.heap.size):Below B w0 w2:=h.trans (k.mono (Nat.le_trans hB h.size))
theorem wanted_of {ops:Array Oper} {o:Oper} {A:Act} {j s:Nat} {b:Bool} (hg:o.guard=some (j,b)) (hd:(ops[j]?).bind (·.dst)=some s) (ha:A.tmps[s]?=some (.bool b)):Region.wanted o (yielded ops A.tmps)=true:=by
 simp[Region.wanted,hg,yielded,hd,ha]
theorem unwanted_of {ops:Array Oper} {o:Oper} {A:Act} {j s:Nat} {b c:Bool} (hg:o.guard=some (j,b)) (hd:(ops[j]?).bind (·.dst)=some s) (ha:A.tmps[s]?=some (.bool c)) (hne:c≠b):Region.wanted o (yielded ops A.tmps)=false:=by
 simp[Region.wanted,hg,yielded,hd,ha,hne]
section
variable {P:Program} {ops:Array Oper} {Q:Exit→Act→World→Prop} {a:Act} {sls:List (Option Nat)} {prs:List (Value→Prop)} {C:CW5} {k:Nat} {o:Oper} {os:List Oper}
theorem StepsE.runG (j s:Nat) (b:Bool) (hg:o.guard=some (j,b)) (hd:(ops[j]?).bind (·.dst)=some s) (hsl:sls[j]?=some (some s)) (haf':∀L,Aft o L=true→L j=true) (hpr:∀u,prs.getD j (fun _=>True) u→u=.bool b)
  (h:∀L U w,C L U w→(∀(i s:Nat),L i=true→sls[i]?=some (some s)→prs.getD i (fun _=>True) (U s))→L k=false→(∀(i:Nat) (o':Oper),ops.toList[i]?=some o'→L i=true→Aft o' L=true)→Aft o L=true→∀(A:Act) (K:Act→World→Prop),Frm5 a sls U A →
  (∀v w',prs.getD k (fun _=>True) v→C (fun j=>j == k || L j) (updO U o.dst v) w'→K (A.put o.dst v) w')→Gate (Oper.wp P o A w K Q)) (hs:StepsE P ops Q a sls prs C (k+1) os):StepsE P ops Q a sls prs C k (o::os):=by
 refine⟨fun L U w h1 h2 h3 h4 h5 A K hA hK=>⟨?_⟩,hs⟩
 have hv:=hpr _ (h2 j s (haf' L h5) hsl);rw[if_pos (wanted_of hg hd (by rw[hA.got j s hsl,hv]))]
 exact (h L U w h1 h2 h3 h4 h5 A K hA hK).out
theorem StepsE.skipG (j s:Nat) (b c:Bool) (hg:o.guard=some (j,b)) (hne:c≠b) (hd:(ops[j]?).bind (·.dst)=some s) (hsl:sls[j]?=some (some s)) (haf':∀L,Aft o L=true→L j=true) (hpr:∀u,prs.getD j (fun _=>True) u→u=.bool c)
  (hk:prs.getD k (fun _=>True) undef) (hC:∀L U w,C L U w→L k=false→C (fun j=>j == k || L j) (updO U o.dst undef) w) (hs:StepsE P ops Q a sls prs C (k+1) os):StepsE P ops Q a sls prs C k (o::os):=by
 refine⟨fun L U w h1 h2 h3 h4 h5 A K hA hK=>⟨?_⟩,hs⟩
 have hv:=hpr _ (h2 j s (haf' L h5) hsl);rw[if_neg (by rw[unwanted_of hg hd (by rw[hA.got j s hsl,hv]) hne];simp)]
 exact hK _ _ hk (hC L U w h1 h3)
end
namespace Sat
open Euf (OL App)
theorem uInts:Tryz.prog.underlying 35=some (.slice 3):=by kernel_rfl
theorem iInt:(Tryz.prog.info? 3).map (fun i=>(i.zero,i.size,i.bytes))=some (some (.int .i64 0),1,8):=by kernel_rfl
set_option maxRecDepth 20000 in
set_option maxHeartbeats 8000000 in
theorem push_any (g:Nat) (d:Dt) (a:Key→Value) (v:Nat) (w:World) (h:SW w g d a) (ho:OI d.nv d.hp d.at_) (hv:v≤d.nv) (hn:d.nv≤5000) :
  Calls Tryz.prog 61 #[.pointer (some ⟨g,12,none⟩),.int .i64 (v:Nat)] w fun e w'=>e=.returned (.tuple #[])∧∃hp' at' a',SW w' g (d.ord hp' at') a'∧Mo g d a w (d.ord hp' at') a' w'∧OI d.nv hp' at'∧(∀u,u∈hp'↔u∈d.hp∨u=v)∧∀k,k≠kHea→a' k=a k:=by
 have hlen:=ho.len;obtain⟨bA,cA,hA,lA,qA,-⟩:=h.atR;have c13:w.cell? ⟨g,13,none⟩=some (a kAtv):=h.cell 13;rw[hA]at c13;have q1:=qA v (by omega)
 have hvl:v<d.nv+1:=by omega
 have hvI:(v:Int)<(d.nv:Int)+1:=by omega
 have HO:Hid (SW w g d a∧OI d.nv d.hp d.at_):=⟨h,ho⟩;have hlg:=h.lt;clear qA hA;by_cases h0:d.at_ v=0
 ·
  have H0:Hid (d.at_ v=0):=h0;rw[h0]at q1;clear h0;obtain⟨qH,cH,hH,k1,k2,-⟩:=h.len (k:=kHea) (by exact⟨by decide,rfl⟩)
  have hH':a kHea=.slice qH d.hp.length cH:=hH;have c12:w.cell? ⟨g,12,none⟩=some (a kHea):=h.cell 12;have hol0:OL 1 3 w (a kHea) d.hp.length (i64C d.hp):=h.ol (k:=kHea) (by exact⟨by decide,rfl⟩)
  rw[hH']at c12;clear h ho hH;go_enter Tryz.func61,Tryz.ntmps61;go_wp2_with (at_builtin;refine Euf.Stop.of ?_)
  show wpList _ _ _ _ _ _
  rw[hH']at hol0;have hol3:OL 1 3 (w.alloc (.cells #[.int .i64 (v:Nat)] 3 (0,0))) (.slice qH d.hp.length cH) d.hp.length (i64C d.hp):=hol0.stay fun b hb=>Below.heap_alloc w _ b (hol0.lt hb)
  refine Euf.wpList_push rfl (.tmp 16) (.tmp 18) 35 rfl 1 3 _ 8 uInts iInt (by decide) rfl (by decide) (.slice qH d.hp.length cH) d.hp.length (i64C d.hp) rfl [.int .i64 (v:Nat)] 3 hol3 (fun _ _=>rfl) 1 rfl rfl (by intro u hu;simp at hu;subst hu;rfl) (by omega) (i64C (d.hp++[v])) (fun q hq=>by simp[i64C,List.getElem?_append_left hq]) (by simp[i64C]) ?_
  intro v4 w4 hol4 hap4 hne4;replace hap4:=hap4.of_alloc (fun b hb=>hol0.lt hb)
  rw[← hH']at hap4;obtain⟨⟨y0,yf,hy⟩,hS,yl⟩:=HO.out.1.pushX_hp (x:=v) hap4 hol4;rw[hH']at y0;obtain⟨aV,cV,hv4,-,-,-,-⟩:=hol4.shape;subst hv4;have HS:Hid _:=hS;clear hol3 hol4 hap4 hne4 hol0 hS;go_wp2_with fail
  refine (rise_any g { d with hp:=d.hp++[v] } _ v d.hp.length _ HS.out.1 (HO.out.2.push hv H0.out) (by simp;omega)).mono ?_
  rintro e w5 ⟨rfl,hp',at',hs,hm,hoi,hpm⟩;have HE:Hid (∃hp' at' a',SW w5 g (d.ord hp' at') a'∧Mo g d a w (d.ord hp' at') a' w5∧OI d.nv hp' at'∧(∀u,u∈hp'↔u∈d.hp∨u=v)∧∀k,k≠kHea→a' k=a k):=by
   refine⟨hp',at',_,hs,HS.out.2.trans hm,hoi,fun u=>?_,fun k hk=>updK_other _ _ hk⟩
   rw[hpm.mem_iff];simp
  clear hs hm hoi hpm;go_wp2;go_end0
  exact⟨rfl,HE.out⟩
 ·
  have hne:((d.at_ v:Nat):Int)≠0:=by omega
  have hneB:(((d.at_ v:Nat):Int) != 0)=true:=by simp;omega
  have HM:Hid (v∈d.hp):=(ho.mem hv).2 h0;clear h ho;go_enter Tryz.func61,Tryz.ntmps61;go_wp2;refine bodyPost_ret (results_none rfl _ _ _) rfl ?_;exact⟨rfl,d.hp,d.at_,a,HO.out.1,Mo.refl _ _ _ _,HO.out.2,fun u=>⟨Or.inl,fun h=>h.elim id (fun e=>e ▸ HM.out)⟩,fun _ _=>rfl⟩
end Sat
end Go.Proofs.YtbmkkhpoaicclabGreat
