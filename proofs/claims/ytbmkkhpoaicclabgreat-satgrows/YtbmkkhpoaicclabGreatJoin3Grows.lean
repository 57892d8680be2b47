/- Joined: SatR, SatRi, Reg, Reg4: words and contracts; no statement of the seat is proved here. -/
import Derived.Test.YtbmkkhpoaicclabGreatJoin2Grows
import Derived.WalkKit
import Derived.RegionTactic
namespace Go.Proofs.YtbmkkhpoaicclabGreat
open Go.RowKit
set_option linter.unusedVariables false
namespace Sat
open Euf (OL App)
set_option maxRecDepth 20000 in
set_option maxHeartbeats 4000000 in
theorem ahead_any (g:Nat) (d:Dt) (a:Key→Value) (x y:Nat) (w:World) (h:SW w g d a) (hx:x≤d.nv) (hy:y≤d.nv) :
  Calls Tryz.prog 118 #[.pointer (some ⟨g,12,none⟩),.int .i64 (x:Nat),.int .i64 (y:Nat)] w fun e w'=>∃b,e=.returned (.bool b)∧Below w.heap.size w w':=by
 obtain⟨bB,cB,hB,lB,qB,-⟩:=h.bzR;have c14:w.cell? ⟨g,14,none⟩=some (a kBus):=h.cell 14;rw[hB]at c14;have qx:=qB x (by omega)
 have qy:=qB y (by omega)
 have hxl:x<d.nv+1:=by omega
 have hyl:y<d.nv+1:=by omega
 have hxI:(x:Int)<(d.nv:Int)+1:=by omega
 have hyI:(y:Int)<(d.nv:Int)+1:=by omega
 clear qB h hB;by_cases he:d.bz x=d.bz y
 ·
  rw[he]at qx;clear he;go_enter Tryz.func118,Tryz.ntmps118;go_wp2;go_quiet (fail)
  go_wp2;go_ret
  exact⟨_,rfl,⟨rfl,rfl,rfl,Nat.le_refl _,fun _ _=>rfl⟩⟩
 ·
  have heB:(d.bz x != d.bz y)=true:=by simpa using he
  go_enter Tryz.func118,Tryz.ntmps118;go_wp2;go_quiet (fail)
  go_wp2;go_quiet (fail)
  go_wp2;go_ret
  exact⟨_,rfl,⟨rfl,rfl,rfl,Nat.le_refl _,fun _ _=>rfl⟩⟩
set_option maxRecDepth 20000 in
set_option maxHeartbeats 4000000 in
theorem put_any (g:Nat) (d:Dt) (a:Key→Value) (v p:Nat) (w:World) (h:SW w g d a) (hv:v≤d.nv) (hp:p<d.hp.length) (hpl:p<20000) :
  Calls Tryz.prog 119 #[.pointer (some ⟨g,12,none⟩),.int .i64 (v:Nat),.int .i64 (p:Nat)] w fun e w'=>e=.returned (.tuple #[])∧SW w' g { d with hp:=d.hp.set p v,at_:=upd d.at_ v (p+1) } a∧Mo g d a w { d with hp:=d.hp.set p v,at_:=upd d.at_ v (p+1) } a w':=by
 obtain⟨bH,cH,hH,lH,-,-,qH,zH⟩:=h.hpR (by omega)
 have c12:w.cell? ⟨g,12,none⟩=some (a kHea):=h.cell 12;rw[hH]at c12;have q1:=qH p hp;have z1:=zH p;obtain⟨s1,m1⟩:=h.setHp hH hp v;obtain⟨bA,cA,hA,lA,qA,zA⟩:=s1.atR;have c13:(w.setCell ⟨bH,p,none⟩ (.int .i64 (v:Nat))).cell? ⟨g,13,none⟩=some (a kAtv):=s1.cell 13;rw[hA]at c13;have q2:=qA v (by show v<d.nv+1;omega)
 have z2:=zA v;obtain⟨s2,m2⟩:=s1.setAt hA (v:=v) (by show v<d.nv+1;omega) (p+1)
 have HE:Hid (SW ((w.setCell ⟨bH,p,none⟩ (.int .i64 (v:Nat))).setCell ⟨bA,v,none⟩ (.int .i64 ((p+1:Nat):Int))) g { d with hp:=d.hp.set p v,at_:=upd d.at_ v (p+1) } a∧Mo g d a w { d with hp:=d.hp.set p v,at_:=upd d.at_ v (p+1) } a ((w.setCell ⟨bH,p,none⟩ (.int .i64 (v:Nat))).setCell ⟨bA,v,none⟩ (.int .i64 ((p+1:Nat):Int)))):=⟨s2,m1.trans m2⟩;have hvl:v<d.nv+1:=by omega
 have hvI:(v:Int)<(d.nv:Int)+1:=by omega
 have hpI:(p:Int)<(d.hp.length:Int):=by omega
 have lg:=h.lt;have lg2:=s1.lt;have lA2:bA<w.heap.size:=by simpa using lA
 clear s1 m1 s2 m2 qH zH qA zA h hH hA lA;go_enter Tryz.func119,Tryz.ntmps119;go_wp2;go_end0
 exact⟨rfl,by simpa using HE.out⟩
end Sat
namespace Sat
open Euf (OL App)
abbrev Dt.ord (d:Dt) (hp:List Nat) (at_:Nat→Nat):Dt:={ d with hp:=hp,at_:=at_ }
set_option maxRecDepth 20000 in
set_option maxHeartbeats 8000000 in
theorem rise_any (g:Nat) (d:Dt) (a:Key→Value) (v p:Nat) (w:World) (h:SW w g d a) (ho:OH d.nv d.hp d.at_ p v) (hl:d.hp.length≤10000) :
  Calls Tryz.prog 89 #[.pointer (some ⟨g,12,none⟩),.int .i64 (v:Nat),.int .i64 (p:Nat)] w fun e w'=>e=.returned (.tuple #[])∧∃hp' at',SW w' g (d.ord hp' at') a∧Mo g d a w (d.ord hp' at') a w'∧OI d.nv hp' at'∧hp'.Perm (d.hp.set p v):=by
 have H0:Hid (SW w g d a∧OH d.nv d.hp d.at_ p v):=⟨h,ho⟩;have hv:v≤d.nv:=ho.vl;clear h ho;go_enter Tryz.func89,Tryz.ntmps89;go_wp2;go_loopw [2] (fun v2 wr=>∃(q:Nat) (hp':List Nat) (at':Nat→Nat),v2=.int .i64 (q:Nat)∧Hid (SW wr g (d.ord hp' at') a∧Mo g d a w (d.ord hp' at') a wr∧OH d.nv hp' at' q v∧(hp'.set q v).Perm (d.hp.set p v))) (fun v _=>(intOf v).toNat)
 case atStart=>exact⟨p,d.hp,d.at_,rfl,H0.out.1,Mo.refl _ _ _ _,H0.out.2,List.Perm.refl _⟩
 case round =>
  rename World=>wl
  clear H0;obtain⟨q,hp',at',rfl,H⟩:=hrel;have hlen:hp'.length=d.hp.length:=by have:=H.out.2.2.2.length_eq;simpa using this
  have hql:=H.out.2.2.1.pl;cases q with
  | zero =>
   go_wp2_with fail
   refine (put_any g (d.ord hp' at') a v 0 wl H.out.1 hv hql (by omega)).mono ?_
   rintro e w2 ⟨rfl,hs,hm⟩;have HE:Hid (SW w2 g (d.ord (hp'.set 0 v) (upd at' v (0+1))) a∧Mo g d a w (d.ord (hp'.set 0 v) (upd at' v (0+1))) a w2):=⟨hs,H.out.2.1.trans hm⟩;clear hs hm;go_wp2;go_end0
   exact⟨rfl,_,_,HE.out.1,HE.out.2,H.out.2.2.1.fill,H.out.2.2.2⟩
  | succ q =>
   obtain⟨u,hu⟩:∃u:Nat,u=q / 2:=⟨_,rfl⟩;have hq2:(q:Int) / 2=(u:Nat):=by omega
   have hul:u<hp'.length:=by omega
   have hulI:(u:Int)<(hp'.length:Int):=by omega
   have huq:u≠q+1:=by omega
   have HU:Hid (u≤q):=by show _≤_;omega
   clear hu;obtain⟨bH,cH,hH,lH,-,-,qH,zH⟩:=H.out.1.hpR (by show 0<hp'.length;omega)
   have c12:wl.cell? ⟨g,12,none⟩=some (a kHea):=H.out.1.cell 12;rw[hH]at c12;have q1:wl.cell? ⟨bH,u,none⟩=some (.int .i64 (hp'[u]:Nat)):=qH u hul;have HV:Hid (hp'[u]≤d.nv):=(H.out.2.2.1.a u hul huq).2.2;have HMV:Hid _:=H.out.2.2.1.move hul huq;generalize hp'[u]=y at q1 HV HMV;clear qH zH;go_wp2_with fail
   refine (ahead_any g (d.ord hp' at') a v y wl H.out.1 hv HV.out).mono ?_;rintro e w2 ⟨b,rfl,hb2⟩;have H2:Hid (SW w2 g (d.ord hp' at') a∧Mo g d a w (d.ord hp' at') a w2∧OH d.nv hp' at' (q+1) v∧(hp'.set (q+1) v).Perm (d.hp.set p v)):=⟨H.out.1.below hb2,H.out.2.1.below hb2,H.out.2.2⟩;have c12':w2.cell? ⟨g,12,none⟩=some (.slice (some ⟨bH,0,none⟩) hp'.length cH):=(hb2.cell (p:=⟨g,12,none⟩) H.out.1.lt).trans c12;have q1':w2.cell? ⟨bH,u,none⟩=some (.int .i64 (y:Nat)):=(hb2.cell (p:=⟨bH,u,none⟩) lH).trans q1;have lH':bH<w2.heap.size:=Nat.lt_of_lt_of_le lH hb2.size;clear c12 q1 lH H hb2;cases b with
   | false =>
    go_wp2_with fail
    refine (put_any g (d.ord hp' at') a v (q+1) w2 H2.out.1 hv hql (by omega)).mono ?_
    rintro e w3 ⟨rfl,hs,hm⟩;have HE:Hid (SW w3 g (d.ord (hp'.set (q+1) v) (upd at' v (q+1+1))) a∧Mo g d a w (d.ord (hp'.set (q+1) v) (upd at' v (q+1+1))) a w3):=⟨hs,H2.out.2.1.trans hm⟩;clear hs hm;go_wp2;go_end0
    exact⟨rfl,_,_,HE.out.1,HE.out.2,H2.out.2.2.1.fill,H2.out.2.2.2⟩
   | true =>
    go_wp2_with fail
    refine (put_any g (d.ord hp' at') a y (q+1) w2 H2.out.1 HV.out hql (by omega)).mono ?_
    rintro e w3 ⟨rfl,hs,hm⟩;have HE:Hid (SW w3 g (d.ord (hp'.set (q+1) y) (upd at' y (q+1+1))) a∧Mo g d a w (d.ord (hp'.set (q+1) y) (upd at' y (q+1+1))) a w3):=⟨hs,H2.out.2.1.trans hm⟩;clear hs hm c12' q1';go_wp2;go_roundw
    case rel=>exact⟨u,_,_,rfl,HE.out.1,HE.out.2,HMV.out.1,HMV.out.2.trans H2.out.2.2.2⟩
    case measure=>have:=HU.out;simp[intOf];omega
end Sat
open Go Go.RowKit
def Aft (o:Oper) (L:Nat→Bool):Bool:=o.after.toList.all fun e=>!Region.binds .any e || L e.on
def StepOK (P:Program) (ops:Array Oper) (Q:Exit→Act→World→Prop) (I:(Nat→Bool)→Act→World→Prop) (k:Nat) (o:Oper):Prop :=
  ∀L a w,I L a w→L k=false→Aft o L=true→∀K:Act→World→Prop,(∀a' w',I (fun j=>j == k || L j) a' w'→K a' w') →
    if Region.wanted o (yielded ops a.tmps)=true then Oper.wp P o a w K Q else K (a.put o.dst undef) w
def StepsOK (P:Program) (ops:Array Oper) (Q:Exit→Act→World→Prop) (I:(Nat→Bool)→Act→World→Prop):Nat→List Oper→Prop
  | _,[]=>True
  | k,o::os=>StepOK P ops Q I k o∧StepsOK P ops Q I (k+1) os
def inOrder:Nat→List Oper→Bool
  | _,[]=>true
  | k,o::os=>(o.after.toList.all fun e=>!Region.binds .any e || decide (e.on<k)) && inOrder (k+1) os
theorem cnt_lt {p q:Nat→Bool}:∀{l:List Nat},(∀x,p x=true→q x=true)→∀{i:Nat},i∈l→q i=true→p i=false→l.countP p<l.countP q
  | [],_,_,hi,_,_=>by cases hi
  | x::l,h,i,hi,hq,hp=>by
    have hle:l.countP p≤l.countP q:=List.countP_mono_left (fun y _ hy=>h y hy)
    rcases List.mem_cons.1 hi with e|e
    · subst e
      simp only[List.countP_cons,hq,hp]
      simp
      omega
    · have ih:=cnt_lt (l:=l) h e hq hp
      simp only[List.countP_cons]
      cases hx:p x with
      | false=>simp;split<;>omega
      | true=>simp[h x hx];omega
theorem steps_at {P:Program} {ops:Array Oper} {Q:Exit→Act→World→Prop} {I:(Nat→Bool)→Act→World→Prop}:∀{l:List Oper} {k i:Nat} {o:Oper},StepsOK P ops Q I k l→l[i]?=some o→StepOK P ops Q I (k+i) o
  | [],_,_,_,_,h=>by simp at h
  | x::l,k,0,o,h,hi=>by simp at hi;subst hi;exact h.1
  | x::l,k,i+1,o,h,hi=>by
    have:=steps_at (i:=i) h.2 (by simpa using hi)
    rw[Nat.add_assoc,Nat.add_comm 1 i]at this
    exact this
theorem order_at:∀{l:List Oper} {k i:Nat} {o:Oper},inOrder k l=true→l[i]?=some o→(o.after.toList.all fun e=>!Region.binds .any e || decide (e.on<k+i))=true
  | [],_,_,_,_,h=>by simp at h
  | x::l,k,0,o,h,hi=>by
    simp at hi;subst hi
    unfold inOrder at h
    exact (Bool.and_eq_true_iff.1 h).1
  | x::l,k,i+1,o,h,hi=>by
    unfold inOrder at h
    have:=order_at (i:=i) (Bool.and_eq_true_iff.1 h).2 (by simpa using hi)
    rw[Nat.add_assoc,Nat.add_comm 1 i]at this
    exact this
theorem ready_iff {ops:Array Oper} {listed:Array Bool} {i:Nat}:i∈Region.ready .any ops listed↔i<ops.size∧listed.getD i true=false∧∃o,ops[i]?=some o∧Aft o (fun j=>listed.getD j false)=true:=by
 unfold Region.ready Aft;simp only[List.mem_filter,List.mem_range,Bool.and_eq_true,Bool.not_eq_true'];constructor
 ·
  rintro⟨h1,h2,h3⟩;refine⟨h1,h2,ops[i],by simp[h1],?_⟩
  simpa [h1] using h3
 · rintro⟨h1,h2,o,h3,h4⟩;refine⟨h1,h2,?_⟩;rw[h3];simpa using h4
theorem wpAny_inv {P:Program} {ops:Array Oper} {Q:Exit→Act→World→Prop} (I:(Nat→Bool)→Act→World→Prop) (hord:inOrder 0 ops.toList=true) (hs:StepsOK P ops Q I 0 ops.toList)
  (hd:∀L a w,I L a w→(∀i,i<ops.size→L i=true)→Q .normal a w):∀(fuel:Nat) (listed:Array Bool) (a:Act) (w:World),listed.size=ops.size→(List.range ops.size).countP (fun i=>!listed.getD i true)≤fuel→I (fun j=>listed.getD j false) a w→wpAny P .any ops Q fuel listed a w:=by
 have same:∀(listed:Array Bool) i,i<listed.size→listed.getD i true=listed.getD i false:=by
  intro listed i hi;simp[Array.getD,hi]
 have none_ready:∀(listed:Array Bool),listed.size=ops.size→Region.ready .any ops listed=[]→∀i,i<ops.size→listed.getD i false=true:=by
  intro listed hsz hr i;induction i using Nat.strongRecOn with
  | ind i ih =>
   intro hi;cases hb:listed.getD i false with
   | true=>rfl
   | false =>
    exfalso
    have ho:ops[i]?=some ops[i]:=by simp[hi]
    have h1:=order_at (i:=i) (o:=ops[i]) hord (by rw[Array.getElem?_toList];exact ho)
    have:i∈Region.ready .any ops listed:=by
     refine ready_iff.2 ⟨hi,by rw[same listed i (by omega)];exact hb,ops[i],ho,?_⟩
     unfold Aft;rw[List.all_eq_true]at h1 ⊢;intro e he;have h2:=h1 e he;simp only[Bool.or_eq_true,decide_eq_true_eq,Nat.zero_add]at h2 ⊢;rcases h2 with h2|h2
     · exact Or.inl h2
     · exact Or.inr (ih e.on h2 (by omega))
    rw[hr]at this;cases this
 intro fuel;induction fuel with
 | zero =>
  intro listed a w hsz hc hI;have hall:∀i,i<ops.size→listed.getD i true=true:=by
   intro i hi;have h0:=Nat.le_zero.1 hc;rw[List.countP_eq_zero]at h0;have:=h0 i (List.mem_range.2 hi);simpa using this
  refine⟨?_,hd _ _ _ hI (fun i hi=>by rw[← same listed i (by omega)];exact hall i hi)⟩
  rw[List.eq_nil_iff_forall_not_mem];intro i hi;obtain⟨h1,h2,_⟩:=ready_iff.1 hi;rw[hall i h1]at h2;cases h2
 | succ fuel ih =>
  intro listed a w hsz hc hI;refine⟨fun hr=>hd _ _ _ hI (none_ready listed hsz hr),fun i hi=>?_⟩
  obtain⟨h1,h2,o,ho,haf⟩:=ready_iff.1 hi;have hst:=steps_at (i:=i) hs (by simpa using ho)
  rw[Nat.zero_add]at hst;refine wpOp_step ho (fun K hK=>hst _ a w hI (by rw[← same listed i (by omega)];exact h2) haf K (fun a' w' h'=>hK a' w' ?_))
  refine ih _ a' w' (by simpa using hsz) ?_ ?_
  ·
   have:=cnt_lt (p:=fun j=>!(listed.setIfInBounds i true).getD j true) (q:=fun j=>!listed.getD j true) (l:=List.range ops.size) (i:=i) ?_ (List.mem_range.2 h1) (by simp[h2]) ?_
   · omega
   ·
    intro x hx;by_cases hxi:x=i
    · subst hxi;simp[h2]
    ·
     simp only[Bool.not_eq_true']at hx ⊢;by_cases hxs:x<listed.size
     · simp[Array.getD,hxs,Ne.symm hxi]at hx ⊢;exact hx
     · simp[Array.getD,hxs]at hx
   · simp[Array.getD,show i<listed.size by omega]
  ·
   have e:(fun j=>(listed.setIfInBounds i true).getD j false)=(fun j=>j == i || listed.getD j false):=by
    funext x
    by_cases hxi:x=i
    · subst hxi;simp[Array.getD,show x<listed.size by omega]
    ·
     by_cases hxs:x<listed.size
     · simp[Array.getD,hxs,Ne.symm hxi,hxi]
     · simp[Array.getD,hxs,hxi]
   rw[e];exact h'
theorem wp_region_inv {P:Program} {ops:Array Oper} {Q:Exit→Act→World→Prop} {id:Nat} {a:Act} {w:World} (hm:P.follows .mixedOrders=true) (I:(Nat→Bool)→Act→World→Prop)
  (hord:inOrder 0 ops.toList=true) (h0:I (fun _=>false) a w.drew) (hd:∀L a w,I L a w→(∀i,i<ops.size→L i=true)→Q .normal a w) (hs:StepsOK P ops Q I 0 ops.toList):(Code.region id ops true).wp P Q a w:=by
 refine wp_region_any hm (wpAny_inv I hord hs hd ops.size _ a _ (by simp) ?_ ?_)
 · refine Nat.le_trans List.countP_le_length ?_;simp
 ·
  have e:(fun j=>(Array.replicate ops.size false).getD j false)=fun _=>false:=by
   funext x
   simp[Array.getD]
  rw[e];exact h0
def upd (U:Nat→Value) (s:Nat) (v:Value):Nat→Value:=fun t=>bif t == s then v else U t
def putAll (a:Act) (slots:List Nat) (U:Nat→Value):Act:=slots.foldl (fun b s=>b.put (some s) (U s)) a
theorem putAll_self (a:Act):∀(slots:List Nat),putAll a slots (fun s=>a.tmps.getD s undef)=a:=by
 intro slots;induction slots with
 | nil=>rfl
 | cons s l ih =>
  have e:a.put (some s) (a.tmps.getD s undef)=a:=by
   unfold Act.put;simp only;have:a.tmps.setIfInBounds s (a.tmps.getD s undef)=a.tmps:=by
    apply Array.ext
    · simp
    ·
     intro i h1 h2;rw[Array.getElem_setIfInBounds];split
     · rename_i h;subst h;simp[Array.getD,h2]
     · rfl
   rw[this]
  unfold putAll at ih ⊢;rw[List.foldl_cons,e];exact ih
structure Gate (p:Prop):Prop where
  out:p
def setM (U:Nat→Value):List (Option Nat)→List Value→List Value
  | [],l=>l
  | some s::m,_::l=>U s::setM U m l
  | none::m,v::l=>v::setM U m l
  | _::_,[]=>[]
theorem setM_nil (U:Nat→Value) (l:List Value):setM U [] l=l:=by unfold setM;rfl
theorem setM_some (U:Nat→Value) (s:Nat) (m:List (Option Nat)) (v:Value) (l:List Value):setM U (some s::m) (v::l)=U s::setM U m l:=by rw[setM]
theorem setM_none (U:Nat→Value) (m:List (Option Nat)) (v:Value) (l:List Value):setM U (none::m) (v::l)=v::setM U m l:=by rw[setM]
section
variable {P:Program} {ops:Array Oper} {Q:Exit→Act→World→Prop} {a:Act} {sls:List Nat} {W:World} {prs:List (Value→World→Prop)} {k:Nat} {o:Oper} {os:List Oper}
end
theorem put_tmps_same (a:Act) (s:Nat) (v:Value) (h:s<a.tmps.size):(a.put (some s) v).tmps[s]?=some v:=by simp[Act.put,h]
theorem put_tmps_other (a:Act) {s t:Nat} (v:Value) (h:t≠s):(a.put (some s) v).tmps[t]?=a.tmps[t]?:=by simp[Act.put,Ne.symm h]
theorem put_size (a:Act) (s:Nat) (v:Value):(a.put (some s) v).tmps.size=a.tmps.size:=by simp[Act.put]
theorem putAll_size (a:Act):∀(sls:List Nat) (U:Nat→Value),(putAll a sls U).tmps.size=a.tmps.size:=by
 intro sls;induction sls generalizing a with
 | nil=>intro U;rfl
 | cons s l ih=>intro U;show (putAll (a.put (some s) (U s)) l U).tmps.size=_;rw[ih,put_size]
theorem putAll_defers (a:Act):∀(sls:List Nat) (U:Nat→Value),(putAll a sls U).defers=a.defers:=by
 intro sls;induction sls generalizing a with
 | nil=>intro U;rfl
 | cons s l ih=>intro U;show (putAll (a.put (some s) (U s)) l U).defers=_;rw[ih];rfl
theorem putAll_other (a:Act):∀(sls:List Nat) (U:Nat→Value) (t:Nat),t ∉ sls→(putAll a sls U).tmps[t]?=a.tmps[t]?:=by
 intro sls;induction sls generalizing a with
 | nil=>intro U t _;rfl
 | cons s l ih =>
  intro U t ht;show (putAll (a.put (some s) (U s)) l U).tmps[t]?=_
  rw[ih _ U t (fun h=>ht (List.mem_cons_of_mem _ h)),put_tmps_other _ _ (fun e=>by subst e;exact ht (List.mem_cons_self ..))]
theorem putAll_mem (a:Act):∀(sls:List Nat) (U:Nat→Value) (t:Nat),t∈sls→t<a.tmps.size→(putAll a sls U).tmps[t]?=some (U t):=by
 intro sls;induction sls generalizing a with
 | nil=>intro U t h;cases h
 | cons s l ih =>
  intro U t ht hsz;show (putAll (a.put (some s) (U s)) l U).tmps[t]?=_
  by_cases hl:t∈l
  · exact ih _ U t hl (by rw[put_size];exact hsz)
  ·
   rw[putAll_other _ l U t hl];rcases List.mem_cons.1 ht with rfl|h
   · exact put_tmps_same _ _ _ hsz
   · exact absurd h hl
theorem act_ext {a b:Act} (hd:a.defers=b.defers) (hs:a.tmps.size=b.tmps.size) (ht:∀t:Nat,a.tmps[t]?=b.tmps[t]?):a=b:=by
 cases a;cases b
 simp only at hd hs ht;subst hd;congr 1
 exact Array.ext_getElem? ht
theorem putAll_upd (a:Act) (sls:List Nat) (U:Nat→Value) (s:Nat) (v:Value) (hs:s∈sls) (hsz:s<a.tmps.size):(putAll a sls U).put (some s) v=putAll a sls (upd U s v):=by
 refine act_ext ?_ ?_ ?_
 · rw[putAll_defers];show (putAll a sls U).defers=_;rw[putAll_defers]
 · rw[put_size,putAll_size,putAll_size]
 ·
  intro t;by_cases e:t=s
  ·
   subst e;rw[put_tmps_same _ _ _ (by rw[putAll_size];exact hsz),putAll_mem _ _ _ _ hs hsz]
   simp[upd]
  ·
   rw[put_tmps_other _ _ e];by_cases ht:t∈sls
   ·
    by_cases hl:t<a.tmps.size
    ·
     rw[putAll_mem _ _ _ _ ht hl,putAll_mem _ _ _ _ ht hl];have e':(t == s)=false:=by simp[e]
     simp[upd,e']
    · rw[Array.getElem?_eq_none (by rw[putAll_size];omega),Array.getElem?_eq_none (by rw[putAll_size];omega)]
   · rw[putAll_other _ _ _ _ ht,putAll_other _ _ _ _ ht]
end Go.Proofs.YtbmkkhpoaicclabGreat
