/- Joined: EufW, SatH, SatM, SatG: words and contracts; no statement of the seat is proved here. -/
import Derived.WalkKit
import Derived.WalkSpells
import Derived.WalkLawsBesides
import Derived.Handy
import Derived.Laws.CopyOwn
import Derived.Laws.OwnMore
import Derived.Maps.OwnSet
import Derived.Test.YtbmkkhpoaicclabGreatChecked
namespace Go.Proofs.YtbmkkhpoaicclabGreat
open Go.RowKit
set_option linter.unusedVariables false
namespace Euf
def Stop (p:Prop):Prop:=p
theorem Stop.of {p:Prop} (h:Stop p):p:=h
def OL (sz:Nat) (e:TypeId) (w:World) (v:Value) (n:Nat) (f:Nat→List Value):Prop :=
  (v=.slice none 0 0∧n=0)∨∃g cap cur,v=.slice (some ⟨g,0,none⟩) n cap∧w.heap[g]?=some (.cells cur e (0,0))∧n≤cap∧cap≤maxLen∧cur.size=cap*sz∧∀i,i<n→∀j,j<sz→cur[i*sz+j]?=(f i)[j]?
section
variable {sz:Nat} {e:TypeId} {w w':World} {v:Value} {n:Nat} {f:Nat→List Value}
theorem OL.nil (sz:Nat) (e:TypeId) (w:World) (f:Nat→List Value):OL sz e w (.slice none 0 0) 0 f:=Or.inl ⟨rfl,rfl⟩
theorem OL.lt (h:OL sz e w v n f) {b:Nat} (hb:v.ownBlock=some b):b<w.heap.size:=by
 rcases h with⟨rfl,_⟩|⟨g,cap,cur,rfl,hg,_⟩
 · cases hb
 ·
  have:g=b:=by simpa [Value.ownBlock] using hb
  subst this;exact (Array.getElem?_eq_some_iff.1 hg).1
theorem OL.stay (h:OL sz e w v n f) (hb:∀b,v.ownBlock=some b→w'.heap[b]?=w.heap[b]?):OL sz e w' v n f:=by
 rcases h with h|⟨g,cap,cur,rfl,hg,r⟩
 · exact Or.inl h
 · exact Or.inr ⟨g,cap,cur,rfl,(hb g rfl).trans hg,r⟩
theorem OL.congr (h:OL sz e w v n f) {f':Nat→List Value} (hf:∀i,i<n→f' i=f i):OL sz e w v n f':=by
 rcases h with h|⟨g,cap,cur,rfl,hg,h1,h2,h3,h4⟩
 · exact Or.inl h
 · exact Or.inr ⟨g,cap,cur,rfl,hg,h1,h2,h3,fun i hi j hj=>by rw[hf i hi];exact h4 i hi j hj⟩
theorem OL.elem (h:OL sz e w v n f) {b:Nat} (hb:v.ownBlock=some b):∃cur,w.heap[b]?=some (.cells cur e (0,0)):=by
 rcases h with⟨rfl,_⟩|⟨g,cap,cur,rfl,hg,_⟩
 · cases hb
 ·
  have:g=b:=by simpa [Value.ownBlock] using hb
  subst this;exact⟨cur,hg⟩
theorem OL.open (h:OL sz e w v n f) (i:Nat) (hi:i<n):∃g cap,v=.slice (some ⟨g,0,none⟩) n cap∧n≤cap∧cap≤maxLen:=by
 rcases h with⟨_,h⟩|⟨g,cap,cur,rfl,_,h1,h2,_⟩
 · omega
 · exact⟨g,cap,rfl,h1,h2⟩
theorem OL.shape (h:OL sz e w v n f):∃a cap,v=.slice a n cap∧n≤cap∧cap≤maxLen∧(a=none→n=0∧cap=0)∧(∀p,a=some p→p.off=0∧p.spot=none):=by
 rcases h with⟨rfl,rfl⟩|⟨g,cap,cur,rfl,_,h1,h2,_⟩
 · exact⟨none,0,rfl,Nat.le_refl _,Nat.zero_le _,(fun _=>⟨rfl,rfl⟩),(fun _ h=>by cases h)⟩
 · exact⟨_,cap,rfl,h1,h2,(fun h=>by cases h),(fun p hp=>by cases hp;exact⟨rfl,rfl⟩)⟩
theorem OL.cell {g cap:Nat} (h:OL sz e w (.slice (some ⟨g,0,none⟩) n cap) n f) {i j:Nat} (hi:i<n) (hj:j<sz):w.cell? ⟨g,i*sz+j,none⟩=(f i)[j]?:=by
 rcases h with⟨h,_⟩|⟨g',cap',cur,hv,hg,h1,h2,h3,h4⟩
 · cases h
 · simp only[Value.slice.injEq,Option.some.injEq,Addr.mk.injEq]at hv;obtain⟨⟨rfl,_⟩,_,rfl⟩:=hv;rw[cell_of_row w g _ cur e (0,0) hg];exact h4 i hi j hj
theorem OL.frozen {g cap:Nat} (h:OL sz e w (.slice (some ⟨g,0,none⟩) n cap) n f) (o:Nat):w.frozen? ⟨g,o,none⟩=false:=by
 rcases h with⟨h,_⟩|⟨g',cap',cur,hv,hg,_⟩
 · cases h
 · simp only[Value.slice.injEq,Option.some.injEq,Addr.mk.injEq]at hv;obtain⟨⟨rfl,_⟩,_,rfl⟩:=hv;exact frozen_of_row w g o cur e hg
theorem OL.set {g cap:Nat} (h:OL sz e w (.slice (some ⟨g,0,none⟩) n cap) n f) {i j:Nat} (hi:i<n) (hj:j<sz) (x:Value) {f':Nat→List Value} (hl:∀k,k<n→(f k).length=sz)
  (h1:f' i=(f i).set j x) (h2:∀k,k<n→k≠i→f' k=f k):OL sz e (w.setCell ⟨g,i*sz+j,none⟩ x) (.slice (some ⟨g,0,none⟩) n cap) n f':=by
 rcases h with⟨h,_⟩|⟨g',cap',cur,hv,hg,k1,k2,k3,k4⟩
 · cases h
 ·
  simp only[Value.slice.injEq,Option.some.injEq,Addr.mk.injEq]at hv;obtain⟨⟨rfl,_⟩,_,rfl⟩:=hv;refine Or.inr ⟨g,cap,_,rfl,heap_setCell_same w g (i*sz+j) cur e x hg,k1,k2,by rw[Array.size_setIfInBounds];exact k3,fun k hk m hm=>?_⟩
  rw[Array.getElem?_setIfInBounds];by_cases e1:k=i
  ·
   subst e1;rw[h1];by_cases e2:m=j
   ·
    subst e2;have:k*sz+m<cur.size:=by
     have:=Nat.mul_le_mul_right sz (show k+1≤cap by omega)
     rw[Nat.add_mul]at this;omega
    simp[this,hl k hk,hm]
   · simp[Ne.symm e2,k4 k hk m hm]
  ·
   rw[h2 k hk e1];have:¬ (i*sz+j=k*sz+m):=by
    intro e2;rcases Nat.lt_or_gt_of_ne e1 with e3|e3
    ·
     have:=Nat.mul_le_mul_right sz (show k+1≤i by omega)
     rw[Nat.add_mul]at this;omega
    ·
     have:=Nat.mul_le_mul_right sz (show i+1≤k by omega)
     rw[Nat.add_mul]at this;omega
   simp[this,k4 k hk m hm]
theorem OL.take {g cap:Nat} (h:OL sz e w (.slice (some ⟨g,0,none⟩) n cap) n f) (m:Nat) (hm:m≤n):OL sz e w (.slice (some ⟨g,0,none⟩) m cap) m f:=by
 rcases h with⟨h,_⟩|⟨g',cap',cur,hv,hg,k1,k2,k3,k4⟩
 · cases h
 · simp only[Value.slice.injEq,Option.some.injEq,Addr.mk.injEq]at hv;obtain⟨⟨rfl,_⟩,_,rfl⟩:=hv;exact Or.inr ⟨g,cap,cur,rfl,hg,by omega,k2,k3,fun i hi j hj=>k4 i (by omega) j hj⟩
def flat (f:Nat→List Value):Nat→List Value
  | 0=>[]
  | n+1=>flat f n++f n
theorem flat_length (hl:∀k,k<n→(f k).length=sz):∀m,m≤n→(flat f m).length=m*sz
  | 0,_=>by simp[flat]
  | m+1,h=>by rw[flat,List.length_append,flat_length hl m (by omega),hl m (by omega),Nat.add_mul,Nat.one_mul]
theorem flat_get (hl:∀k,k<n→(f k).length=sz):∀m,m≤n→∀i j,i<m→j<sz→(flat f m)[i*sz+j]?=(f i)[j]?
  | 0,_,i,_,h,_=>by omega
  | m+1,hm,i,j,hi,hj=>by
    have fl:=flat_length (f:=f) hl m (by omega)
    rw[flat]
    by_cases e1:i=m
    · subst e1
      rw[List.getElem?_append_right (by omega),fl]
      congr 1;omega
    · have:=Nat.mul_le_mul_right sz (show i+1≤m by omega)
      rw[Nat.add_mul]at this
      rw[List.getElem?_append_left (by omega)]
      exact flat_get hl m (by omega) i j (by omega) hj
theorem OL.owns (h:OL sz e w v n f) (hl:∀k,k<n→(f k).length=sz) (hsz:0<sz) {base:Nat} (hb:∀b,v.ownBlock=some b→base≤b):w.ownsRow base e sz v n (flat f n):=by
 refine⟨flat_length hl n (Nat.le_refl _),?_⟩;rcases h with h|⟨g,cap,cur,rfl,hg,k1,k2,k3,k4⟩
 · exact Or.inl h
 ·
  refine Or.inr ⟨g,cap,cur,rfl,hb g rfl,hg,k1,k2,k3,?_⟩;apply List.ext_getElem?
  intro k;have fl:=flat_length (f:=f) hl n (Nat.le_refl _);by_cases hk:k<n*sz
  ·
   rw[List.getElem?_take,if_pos hk,Array.getElem?_toList];have e1:k=(k / sz)*sz+k % sz:=by rw[Nat.mul_comm];exact (Nat.div_add_mod k sz).symm
   have hd:k / sz<n:=(Nat.div_lt_iff_lt_mul hsz).2 hk;have hr:k % sz<sz:=Nat.mod_lt _ hsz;rw[e1,k4 _ hd _ hr,flat_get hl n (Nat.le_refl _) _ _ hd hr]
  · rw[List.getElem?_take,if_neg hk,List.getElem?_eq_none (by omega)]
theorem OL.of_owns {base:Nat} {xs:List Value} (h:w.ownsRow base e sz v n xs) (hx:∀i,i<n→∀j,j<sz→xs[i*sz+j]?=(f i)[j]?):OL sz e w v n f:=by
 rcases h.2 with h|⟨g,cap,cur,rfl,_,hg,k1,k2,k3,k4⟩
 · exact Or.inl h
 ·
  refine Or.inr ⟨g,cap,cur,rfl,hg,k1,k2,k3,fun i hi j hj=>?_⟩
  rw[← hx i hi j hj,← k4,List.getElem?_take,Array.getElem?_toList,if_pos];have:=Nat.mul_le_mul_right sz (show i+1≤n by omega)
  rw[Nat.add_mul]at this;omega
end
structure App (v v':Value) (w w':World):Prop where
  os:w'.os=w.os
  tape:w'.tape=w.tape
  output:w'.output=w.output
  size:w.heap.size≤w'.heap.size
  other:∀b,b<w.heap.size→v.ownBlock≠some b→w'.heap[b]?=w.heap[b]?
  at_:v'.ownBlock=v.ownBlock∨∃b,v'.ownBlock=some b∧w.heap.size≤b
theorem run_append {P:Program} (w:World) (sz:Nat) (t ty e:TypeId) (i:TypeInfo) (z:Value) (ht:P.underlying t=some (.slice e)) (hi:P.info? e=some i) (hz:i.zero=some z) (hsize:i.size=sz) (hby:i.bytes≤1000) (hzs:z.cells.size=sz) (hsz:0<sz)
  (v:Value) (n:Nat) (f:Nat→List Value) (hown:OL sz e w v n f) (hlf:∀k,k<n→(f k).length=sz) (a:Addr) (m c:Nat) (news:List Value) (hl:news.length=m*sz) (hnews:∀j u,news[j]?=some u→w.cell? (a.add j)=some u) (ho:∀u∈news,u.oneCell'=true) (hm0:0<m∨v≠.slice none 0 0) (hn:n+m≤1000000000)
  (f':Nat→List Value) (hf1:∀k,k<n→f' k=f k) (hf2:∀k,k<m→∀j,j<sz→(f' (n+k))[j]?=news[k*sz+j]?) :
  ∃v' w',(Builtin.append_ #[t,t] ty #[v,.slice (some a) m c]).run P w=.ok v' w'∧OL sz e w' v' (n+m) f'∧App v v' w w'∧v'≠.slice none 0 0:=by
 have hl':news.length=m*i.size:=by rw[hsize];exact hl
 have hmx:2000000000≤maxLen:=by unfold maxLen;decide
 have hbytes:(n+m)*i.bytes≤1000000000*1000:=Nat.mul_le_mul hn hby;have fl:=flat_length (f:=f) hlf n (Nat.le_refl _);have hxs:∀k,k<n+m→∀j,j<sz→(flat f n++news)[k*sz+j]?=(f' k)[j]?:=by
  intro k hk j hj;by_cases e1:k<n
  ·
   have:=Nat.mul_le_mul_right sz (show k+1≤n by omega)
   rw[Nat.add_mul]at this;rw[List.getElem?_append_left (by omega),flat_get hlf n (Nat.le_refl _) k j e1 hj,hf1 k e1]
  ·
   obtain⟨d,rfl⟩:∃d,k=n+d:=⟨k - n,by omega⟩
   rw[List.getElem?_append_right (by rw[fl,Nat.add_mul];omega),hf2 d (by omega) j hj,fl]
   congr 1
   rw[Nat.add_mul];omega
 have grown:∀(old:Nat),old<n+m →
   OL sz e (w.drew.alloc (.cells ((flat f n).toArray++news.toArray++Builtin.zeroCells z.cells (grownCap w (n+m) old e - (n+m))) e)) (.slice (some ⟨w.heap.size,0,none⟩) (n+m) (grownCap w (n+m) old e)) (n+m) f' ∧
   App v (.slice (some ⟨w.heap.size,0,none⟩) (n+m) (grownCap w (n+m) old e)) w (w.drew.alloc (.cells ((flat f n).toArray++news.toArray++Builtin.zeroCells z.cells (grownCap w (n+m) old e - (n+m))) e)):=by
  intro old ho';have hge:=grownCap_ge w (n+m) old e;have hcm:grownCap w (n+m) old e≤maxLen:=grownCap_le_maxLen w (n+m) old e (by omega)
  refine⟨Or.inr ⟨w.heap.size,_,_,rfl,heap_alloc_new w.drew _,hge,hcm,?_,?_⟩,⟨rfl,rfl,rfl,by simp,fun b hb _=>Below.heap_alloc w.drew _ b hb,Or.inr ⟨_,rfl,Nat.le_refl _⟩⟩⟩
  ·
   simp only[Array.size_append,List.size_toArray,size_zeroCells,hzs,fl,hl];rw[← Nat.add_mul,← Nat.add_mul];congr 1
   omega
  ·
   intro k hk j hj;rw[← hxs k hk j hj];have h9:=Nat.mul_le_mul_right sz (show k+1≤n+m by omega)
   rw[Nat.add_mul k,Nat.add_mul n]at h9;rw[Array.getElem?_append_left (by simp only[Array.size_append,List.size_toArray,fl,hl];omega)]
   simp
 rcases hown with⟨rfl,rfl⟩|⟨g,cap,cur,rfl,hg,hnc,hcm,hcs,hcell⟩
 ·
  have hm1:0<m:=by
   rcases hm0 with k|k
   · exact k
   · exact absurd rfl k
  have hr:=run_append_nil (P:=P) w t ty e i z ht hi hz a m c news hl' hnews hm1 (by omega) (by rw[Nat.zero_add]at hbytes;omega)
  have hgr:=grown 0 (by omega)
  simp only[Nat.zero_add,flat,Array.empty_append]at hgr ⊢;exact⟨_,_,hr,hgr.1,hgr.2,(fun h=>by cases h)⟩
 ·
  have hown:OL sz e w (.slice (some ⟨g,0,none⟩) n cap) n f:=Or.inr ⟨g,cap,cur,rfl,hg,hnc,hcm,hcs,hcell⟩;by_cases hroom:n+m≤cap
  ·
   have hfit:n*i.size+news.length≤cur.size:=by rw[hsize,hcs,hl,← Nat.add_mul];exact Nat.mul_le_mul_right _ hroom
   have hr:=run_append_room (P:=P) w t ty e i ht hi g n cap cur hg a m c news hl' hnews ho hroom hfit;rw[hsize]at hr hfit;have ow:=hown.owns hlf hsz (base:=0) (fun _ _=>Nat.zero_le _)
   have htake:cur.toList.take (n*sz)=flat f n:=by
    rcases ow.2 with⟨h,_⟩|⟨g',cap',cur',hv,_,hg',_,_,_,h4⟩
    · cases h
    · simp only[Value.slice.injEq,Option.some.injEq,Addr.mk.injEq]at hv;obtain⟨⟨rfl,_⟩,_,rfl⟩:=hv;rw[hg]at hg';injection hg' with hg';injection hg' with hg' _ _;rw[hg'];exact h4
   refine⟨_,_,hr,Or.inr ⟨g,cap,_,rfl,setRow_heap w g cur _ e _ hg,hroom,hcm,?_,?_⟩,⟨rfl,rfl,rfl,by simp,fun b hb hk=>setRow_other w g b _ (fun e=>hk (by simp[Value.ownBlock,e])),Or.inl rfl⟩,(fun h=>by cases h)⟩
   ·
    have ln:n*sz≤cur.size:=by rw[hcs];exact Nat.mul_le_mul_right _ hnc
    simp only[List.size_toArray,List.length_append,List.length_take,List.length_drop,Array.length_toList];omega
   ·
    intro k hk j hj;rw[← hxs k hk j hj,htake];have h9:=Nat.mul_le_mul_right sz (show k+1≤n+m by omega)
    rw[Nat.add_mul k,Nat.add_mul n]at h9;rw[List.getElem?_toArray,List.getElem?_append_left (by rw[List.length_append,fl,hl];omega)]
  ·
   have holds:∀j u,(flat f n)[j]?=some u→w.cell? ((⟨g,0,none⟩:Addr).add j)=some u:=(hown.owns hlf hsz (base:=0) (fun _ _=>Nat.zero_le _)).cells (g:=g) rfl
   have hr:=run_append_grow (P:=P) w t ty e i z ht hi hz ⟨g,0,none⟩ n cap (flat f n) (by rw[hsize];exact fl) holds a m c news hl' hnews (by omega) (by omega) (growslice_fits (by omega) (by omega))
   have hgr:=grown cap (by omega)
   exact⟨_,_,hr,hgr.1,hgr.2,(fun h=>by cases h)⟩
theorem wp_append {P:Program} {w:World} {o:Oper} {act:Act} {K:Act→World→Prop} {Q:Exit→Act→World→Prop} (s x:Operand) (t:TypeId) (hop:o.op=.call { callee:=.builtin .append,args:=#[s,x],argTypes:=#[t,t] })
  (sz:Nat) (e:TypeId) (z:Value) (bytes:Nat) (h1:P.underlying t=some (.slice e)) (h2:(P.info? e).map (fun i=>(i.zero,i.size,i.bytes))=some (some z,sz,bytes)) (hby:bytes≤1000) (hzs:z.cells.size=sz) (hsz:0<sz)
  (v:Value) (n:Nat) (f:Nat→List Value) (hs:act.eval s=v) (hown:OL sz e w v n f) (hlf:∀k,k<n→(f k).length=sz) (a:Addr) (m c:Nat) (hx:act.eval x=.slice (some a) m c) (news:List Value) (hl:news.length=m*sz) (hnews:∀j u,news[j]?=some u→w.cell? (a.add j)=some u) (ho:∀u∈news,u.oneCell'=true) (hm0:0<m∨v≠.slice none 0 0) (hn:n+m≤1000000000)
  (f':Nat→List Value) (hf1:∀k,k<n→f' k=f k) (hf2:∀k,k<m→∀j,j<sz→(f' (n+k))[j]?=news[k*sz+j]?)
  (h:∀v' w',OL sz e w' v' (n+m) f'→App v v' w w'→v'≠.slice none 0 0→K (act.put o.dst v') w'):Oper.wp P o act w K Q:=by
 obtain⟨i,hi,hz0,hz1,hz2⟩:=info_parts h2;obtain⟨v',w',hr,k1,k2,k3⟩:=run_append (P:=P) w sz t o.type e i z h1 hi hz0 hz1 (by omega) hzs hsz v n f hown hlf a m c news hl hnews ho hm0 hn f' hf1 hf2
 unfold Oper.wp execOp;simp only[hop,resolve,invoke,builtin,Sem.run_bind,Sem.run_pure,Result.andThen_ok,List.map_toArray,List.map_cons,List.map_nil,hs,hx,hr];exact h v' w' k1 k2 k3
theorem wpList_append {P:Program} {w:World} {ops:Array Oper} {rest:List Oper} {o:Oper} {act:Act} {Q:Exit→Act→World→Prop} (hgd:o.guard=none) (s x:Operand) (t:TypeId) (hop:o.op=.call { callee:=.builtin .append,args:=#[s,x],argTypes:=#[t,t] })
    (sz:Nat) (e:TypeId) (z:Value) (bytes:Nat) (h1:P.underlying t=some (.slice e)) (h2:(P.info? e).map (fun i=>(i.zero,i.size,i.bytes))=some (some z,sz,bytes)) (hby:bytes≤1000) (hzs:z.cells.size=sz) (hsz:0<sz)
    (v:Value) (n:Nat) (f:Nat→List Value) (hs:act.eval s=v) (hown:OL sz e w v n f) (hlf:∀k,k<n→(f k).length=sz) (a:Addr) (m c:Nat) (hx:act.eval x=.slice (some a) m c) (news:List Value) (hl:news.length=m*sz) (hnews:∀j u,news[j]?=some u→w.cell? (a.add j)=some u) (ho:∀u∈news,u.oneCell'=true) (hm0:0<m∨v≠.slice none 0 0) (hn:n+m≤1000000000)
    (f':Nat→List Value) (hf1:∀k,k<n→f' k=f k) (hf2:∀k,k<m→∀j,j<sz→(f' (n+k))[j]?=news[k*sz+j]?)
    (h:∀v' w',OL sz e w' v' (n+m) f'→App v v' w w'→v'≠.slice none 0 0→wpList P ops Q rest (act.put o.dst v') w'):wpList P ops Q (o::rest) act w :=
  wpList_plain hgd fun _ hK=>wp_append s x t hop sz e z bytes h1 h2 hby hzs hsz v n f hs hown hlf a m c hx news hl hnews ho hm0 hn f' hf1 hf2 fun v' w' k1 k2 k3=>hK _ _ (h v' w' k1 k2 k3)
theorem App.ofBelow {v v':Value} {w w1 w':World} (h:App v v' w1 w') (hb:Below w.heap.size w w1):App v v' w w' :=
  ⟨h.os.trans hb.os,h.tape.trans hb.tape,h.output.trans hb.output,Nat.le_trans hb.size h.size,fun b hlt hn=>(h.other b (Nat.lt_of_lt_of_le hlt hb.size) hn).trans (hb.block b hlt),h.at_.imp id (fun⟨b,k1,k2⟩=>⟨b,k1,Nat.le_trans hb.size k2⟩)⟩
theorem App.refl (v:Value) (w:World):App v v w w:=⟨rfl,rfl,rfl,Nat.le_refl _,fun _ _ _=>rfl,Or.inl rfl⟩
theorem run_append_list {P:Program} (w:World) (sz:Nat) (t ty e:TypeId) (i:TypeInfo) (z:Value) (ht:P.underlying t=some (.slice e)) (hi:P.info? e=some i) (hz:i.zero=some z) (hsize:i.size=sz) (hby:i.bytes≤1000) (hzs:z.cells.size=sz) (hsz:0<sz)
  (v:Value) (n:Nat) (f:Nat→List Value) (hown:OL sz e w v n f) (hlf:∀k,k<n→(f k).length=sz) (v2:Value) (m:Nat) (f2:Nat→List Value) (h2:OL sz e w v2 m f2) (hl2:∀k,k<m→(f2 k).length=sz) (ho2:∀u∈flat f2 m,u.oneCell'=true) (hn:n+m≤1000000000)
  (f':Nat→List Value) (hf1:∀k,k<n→f' k=f k) (hf2:∀k,k<m→f' (n+k)=f2 k) :
  ∃v' w',(Builtin.append_ #[t,t] ty #[v,v2]).run P w=.ok v' w'∧OL sz e w' v' (n+m) f'∧App v v' w w':=by
 rcases h2 with⟨rfl,rfl⟩|⟨g,cap,cur,rfl,hg,k1,k2,k3,k4⟩
 ·
  refine⟨v,w,run_append_owned_none (P:=P) (w:=w) 0 t ty e i sz ht hi v n (flat f n) (hown.owns hlf hsz (fun _ _=>Nat.zero_le _)),?_,App.refl v w⟩
  rw[Nat.add_zero];exact hown.congr hf1
 ·
  have h2:OL sz e w (.slice (some ⟨g,0,none⟩) m cap) m f2:=Or.inr ⟨g,cap,cur,rfl,hg,k1,k2,k3,k4⟩;have hcells:∀j u,(flat f2 m)[j]?=some u→w.cell? ((⟨g,0,none⟩:Addr).add j)=some u:=(h2.owns hl2 hsz (base:=0) (fun _ _=>Nat.zero_le _)).cells (g:=g) rfl
  by_cases hc:0<m∨v≠.slice none 0 0
  ·
   obtain⟨v',w',r1,r2,r3,_⟩:=run_append (P:=P) w sz t ty e i z ht hi hz hsize hby hzs hsz v n f hown hlf ⟨g,0,none⟩ m cap (flat f2 m) (flat_length hl2 m (Nat.le_refl _)) hcells ho2 hc hn f' hf1 (fun k hk j hj=>by
    rw[hf2 k hk,flat_get hl2 m (Nat.le_refl _) k j hk hj])
   exact⟨v',w',r1,r2,r3⟩
  ·
   obtain⟨c1,c2⟩:=not_or.1 hc;obtain rfl:m=0:=by omega
   have hv:v=.slice none 0 0:=Classical.byContradiction c2;subst hv;obtain rfl:n=0:=by
    rcases hown with⟨_,h⟩|⟨g',cap',cur',h,_⟩
    · exact h
    · cases h
   obtain⟨v',w',r1,r2,r3,r4⟩:=run_append_own (P:=P) (w:=w) 0 t ty e i z sz i.bytes ht hi hz hsize rfl hzs hsz (.slice none 0 0) 0 [] (OL.nil sz e w f |>.owns (fun k hk=>by omega) hsz (fun _ _=>Nat.zero_le _)) ⟨g,0,none⟩ 0 cap [] (by simp) (by simp) (by simp) (by unfold maxLen;decide) (by simp) (Nat.zero_le _)
   obtain rfl:v'=.slice none 0 0:=r4.2 ⟨rfl,rfl⟩;exact⟨_,w',r1,OL.nil _ _ _ _,⟨r3.os,r3.tape,r3.output,r3.size,fun b hb _=>r3.block b hb (by simp[Value.ownBlock]),Or.inl rfl⟩⟩
theorem wp_append_list {P:Program} {w:World} {o:Oper} {act:Act} {K:Act→World→Prop} {Q:Exit→Act→World→Prop} (s x:Operand) (t:TypeId) (hop:o.op=.call { callee:=.builtin .append,args:=#[s,x],argTypes:=#[t,t] })
  (sz:Nat) (e:TypeId) (z:Value) (bytes:Nat) (h1:P.underlying t=some (.slice e)) (h2:(P.info? e).map (fun i=>(i.zero,i.size,i.bytes))=some (some z,sz,bytes)) (hby:bytes≤1000) (hzs:z.cells.size=sz) (hsz:0<sz)
  (v:Value) (n:Nat) (f:Nat→List Value) (hs:act.eval s=v) (hown:OL sz e w v n f) (hlf:∀k,k<n→(f k).length=sz) (v2:Value) (m:Nat) (f2:Nat→List Value) (hx:act.eval x=v2) (h3:OL sz e w v2 m f2) (hl2:∀k,k<m→(f2 k).length=sz) (ho2:∀u∈flat f2 m,u.oneCell'=true) (hn:n+m≤1000000000)
  (f':Nat→List Value) (hf1:∀k,k<n→f' k=f k) (hf2:∀k,k<m→f' (n+k)=f2 k)
  (h:∀v' w',OL sz e w' v' (n+m) f'→App v v' w w'→K (act.put o.dst v') w'):Oper.wp P o act w K Q:=by
 obtain⟨i,hi,hz0,hz1,hz2⟩:=info_parts h2;obtain⟨v',w',hr,k1,k2⟩:=run_append_list (P:=P) w sz t o.type e i z h1 hi hz0 hz1 (by omega) hzs hsz v n f hown hlf v2 m f2 h3 hl2 ho2 hn f' hf1 hf2
 unfold Oper.wp execOp;simp only[hop,resolve,invoke,builtin,Sem.run_bind,Sem.run_pure,Result.andThen_ok,List.map_toArray,List.map_cons,List.map_nil,hs,hx,hr];exact h v' w' k1 k2
theorem cell_new_list (w:World) (cs:List Value) (t:TypeId) (j:Nat) (u:Value) (h:cs[j]?=some u):(w.alloc (.cells cs.toArray t (0,0))).cell? ((⟨w.heap.size,0,none⟩:Addr).add j)=some u:=by
 have e:((⟨w.heap.size,0,none⟩:Addr).add j)=⟨w.heap.size,j,none⟩:=by
  unfold Addr.add;split
  · rename_i h;subst h;rfl
  · simp
 rw[e,cell_of_row _ w.heap.size j cs.toArray t (0,0) (heap_alloc_new w _)];simpa using h
theorem wp_push {P:Program} {w:World} {o:Oper} {act:Act} {K:Act→World→Prop} {Q:Exit→Act→World→Prop} (s x:Operand) (t:TypeId) (hop:o.op=.call { callee:=.builtin .append,args:=#[s,x],argTypes:=#[t,t] })
  (sz:Nat) (e:TypeId) (z:Value) (bytes:Nat) (h1:P.underlying t=some (.slice e)) (h2:(P.info? e).map (fun i=>(i.zero,i.size,i.bytes))=some (some z,sz,bytes)) (hby:bytes≤1000) (hzs:z.cells.size=sz) (hsz:0<sz)
  (v:Value) (n:Nat) (f:Nat→List Value) (hs:act.eval s=v) (news:List Value) (te:TypeId) (hown:OL sz e (w.alloc (.cells news.toArray te (0,0))) v n f) (hlf:∀k,k<n→(f k).length=sz) (c:Nat) (hx:act.eval x=.slice (some ⟨w.heap.size,0,none⟩) 1 c) (hl:news.length=sz) (ho:∀u∈news,u.oneCell'=true) (hn:n+1≤1000000000)
  (f':Nat→List Value) (hf1:∀k,k<n→f' k=f k) (hf2:f' n=news)
  (h:∀v' w',OL sz e w' v' (n+1) f'→App v v' (w.alloc (.cells news.toArray te (0,0))) w'→v'≠.slice none 0 0→K (act.put o.dst v') w'):Oper.wp P o act (w.alloc (.cells news.toArray te (0,0))) K Q :=
 wp_append s x t hop sz e z bytes h1 h2 hby hzs hsz v n f hs hown hlf ⟨w.heap.size,0,none⟩ 1 c hx news (by rw[hl,Nat.one_mul]) (cell_new_list w news te) ho (Or.inl (by decide)) hn f' hf1 (fun k hk j hj=>by
  obtain rfl:k=0:=by omega
  rw[Nat.add_zero,hf2,Nat.zero_mul,Nat.zero_add]) h
theorem wpList_push {P:Program} {w:World} {ops:Array Oper} {rest:List Oper} {o:Oper} {act:Act} {Q:Exit→Act→World→Prop} (hgd:o.guard=none) (s x:Operand) (t:TypeId) (hop:o.op=.call { callee:=.builtin .append,args:=#[s,x],argTypes:=#[t,t] })
    (sz:Nat) (e:TypeId) (z:Value) (bytes:Nat) (h1:P.underlying t=some (.slice e)) (h2:(P.info? e).map (fun i=>(i.zero,i.size,i.bytes))=some (some z,sz,bytes)) (hby:bytes≤1000) (hzs:z.cells.size=sz) (hsz:0<sz)
    (v:Value) (n:Nat) (f:Nat→List Value) (hs:act.eval s=v) (news:List Value) (te:TypeId) (hown:OL sz e (w.alloc (.cells news.toArray te (0,0))) v n f) (hlf:∀k,k<n→(f k).length=sz) (c:Nat) (hx:act.eval x=.slice (some ⟨w.heap.size,0,none⟩) 1 c) (hl:news.length=sz) (ho:∀u∈news,u.oneCell'=true) (hn:n+1≤1000000000)
    (f':Nat→List Value) (hf1:∀k,k<n→f' k=f k) (hf2:f' n=news)
    (h:∀v' w',OL sz e w' v' (n+1) f'→App v v' (w.alloc (.cells news.toArray te (0,0))) w'→v'≠.slice none 0 0→wpList P ops Q rest (act.put o.dst v') w'):wpList P ops Q (o::rest) act (w.alloc (.cells news.toArray te (0,0))) :=
  wpList_plain hgd fun _ hK=>wp_push s x t hop sz e z bytes h1 h2 hby hzs hsz v n f hs news te hown hlf c hx hl ho hn f' hf1 hf2 fun v' w' k1 k2 k3=>hK _ _ (h v' w' k1 k2 k3)
def ONE5 (et:TypeId) (news:List Value) (v:Value) (w:World):Prop:=∃b,v=.slice (some ⟨b,0,none⟩) 1 1∧w.heap[b]?=some (.cells news.toArray et (0,0))
theorem wp_push1 {P:Program} {w:World} {o:Oper} {act:Act} {K:Act→World→Prop} {Q:Exit→Act→World→Prop} (s x:Operand) (t:TypeId) (hop:o.op=.call { callee:=.builtin .append,args:=#[s,x],argTypes:=#[t,t] })
  (sz:Nat) (e:TypeId) (z:Value) (bytes:Nat) (h1:P.underlying t=some (.slice e)) (h2:(P.info? e).map (fun i=>(i.zero,i.size,i.bytes))=some (some z,sz,bytes)) (hby:bytes≤1000) (hzs:z.cells.size=sz) (hsz:0<sz)
  (v:Value) (n:Nat) (f:Nat→List Value) (hs:act.eval s=v) (hown:OL sz e w v n f) (hlf:∀k,k<n→(f k).length=sz) (news:List Value) (te:TypeId) (v1:Value) (hone:ONE5 te news v1 w) (hx:act.eval x=v1) (hl:news.length=sz) (ho:∀u∈news,u.oneCell'=true) (hn:n+1≤1000000000)
  (f':Nat→List Value) (hf1:∀k,k<n→f' k=f k) (hf2:f' n=news)
  (h:∀v' w',OL sz e w' v' (n+1) f'→App v v' w w'→v'≠.slice none 0 0→K (act.put o.dst v') w'):Oper.wp P o act w K Q:=by
 obtain⟨b,rfl,hb⟩:=hone;refine wp_append s x t hop sz e z bytes h1 h2 hby hzs hsz v n f hs hown hlf ⟨b,0,none⟩ 1 1 hx news (by rw[hl,Nat.one_mul]) (fun j u hj=>?_) ho (Or.inl (by decide)) hn f' hf1 (fun k hk j hj=>by
  obtain rfl:k=0:=by omega
  rw[Nat.add_zero,hf2,Nat.zero_mul,Nat.zero_add]) h
 have e9:((⟨b,0,none⟩:Addr).add j)=⟨b,j,none⟩:=by
  unfold Addr.add;split
  · rename_i h;subst h;rfl
  · simp
 rw[e9,cell_of_row _ b j news.toArray te (0,0) hb];simpa using hj
theorem App.of_alloc {v v':Value} {w w':World} {o:Obj} (h:App v v' (w.alloc o) w') (hv:∀b,v.ownBlock=some b→b<w.heap.size):App v v' w w' :=
  ⟨h.os,h.tape,h.output,by have:=h.size;simp at this;omega,fun b hb hn=>(h.other b (by simp;omega) hn).trans (Below.heap_alloc w o b hb),by
    rcases h.at_ with k|⟨b,k,k2⟩
    · exact Or.inl k
    · exact Or.inr ⟨b,k,by simp at k2;omega⟩⟩
/-! ## Maps to ints -/
section
variable {P:Program} {K E:TypeId} {w w':World} {b n:Nat} {m:Value→Option Int}
theorem nodup_le:∀(N:Nat) (l:List Nat),l.Nodup→(∀x∈l,x<N)→l.length≤N
 | 0,l,_,h=>by
  cases l with
  | nil=>simp
  | cons x _=>exact absurd (h x (List.mem_cons_self ..)) (by omega)
 | N+1,l,hn,h=>by
  have h1:=nodup_le N (l.filter (fun x=>x != N)) (hn.sublist List.filter_sublist) (fun x hx=>by
   obtain⟨k1,k2⟩:=List.mem_filter.1 hx;have:=h x k1;simp at k2;omega)
  have h2:l.length≤(l.filter (fun x=>x != N)).length+1:=by
   have:∀(l:List Nat),l.Nodup→l.length≤(l.filter (fun x=>x != N)).length+1:=by
    intro l;induction l with
    | nil=>intro _;simp
    | cons x l ih =>
     intro hn;obtain⟨n1,n2⟩:=List.nodup_cons.1 hn;by_cases e:x=N
     ·
      subst e;have:l.filter (fun y=>y != x)=l:=List.filter_eq_self.2 (fun y hy=>by simp;exact fun e=>n1 (e ▸ hy))
      simp[this]
     · have:=ih n2;simp[e];omega
   exact this l hn
  omega
end
end Euf
namespace Euf
theorem OL.ne {sz sz':Nat} {e e':TypeId} {w:World} {v v':Value} {n n':Nat} {f f':Nat→List Value} (h:OL sz e w v n f) (h':OL sz' e' w v' n' f') (he:e≠e') {b:Nat} (hb:v.ownBlock=some b):v'.ownBlock≠some b:=by
 intro hb';obtain⟨c,hc⟩:=h.elem hb;obtain⟨c',hc'⟩:=h'.elem hb';rw[hc]at hc';injection hc' with hc';injection hc' with _ h2 _;exact he h2
theorem OL.neB {sz:Nat} {e e':TypeId} {w:World} {v:Value} {n:Nat} {f:Nat→List Value} (h:OL sz e w v n f) {g:Nat} {cs:Array Value} (hg:w.heap[g]?=some (.cells cs e' (0,0))) (he:e≠e'):v.ownBlock≠some g:=by
 intro hb';obtain⟨c',hc'⟩:=h.elem hb';rw[hg]at hc';injection hc' with hc';injection hc' with _ h2 _;exact he h2.symm
end Euf
namespace Sat
open Euf (OL App)
theorem hide {p:Prop} (h:p):Hid p:=h
structure Mv (F:Nat→Prop) (w w':World):Prop where
  os:w'.os=w.os
  tape:w'.tape=w.tape
  output:w'.output=w.output
  size:w.heap.size≤w'.heap.size
  other:∀b,b<w.heap.size→¬ F b→w'.heap[b]?=w.heap[b]?
section
variable {F G:Nat→Prop} {w w' w'':World}
theorem Mv.refl (F:Nat→Prop) (w:World):Mv F w w:=⟨rfl,rfl,rfl,Nat.le_refl _,fun _ _ _=>rfl⟩
theorem Mv.trans (h:Mv F w w') (k:Mv G w' w'') (hs:∀b,G b→F b∨w.heap.size≤b):Mv F w w'' :=
  ⟨k.os.trans h.os,k.tape.trans h.tape,k.output.trans h.output,Nat.le_trans h.size k.size,fun b hb hn=>(k.other b (Nat.lt_of_lt_of_le hb h.size) (fun hg=>by
    rcases hs b hg with h1|h1
    · exact hn h1
    · omega)).trans (h.other b hb hn)⟩
theorem Mv.below (h:Below w.heap.size w w'):Mv F w w':=⟨h.os,h.tape,h.output,h.size,fun b hb _=>h.block b hb⟩
theorem Mv.drew (h:Mv F w w'):Mv F w w'.drew:=⟨h.os,h.tape,h.output,h.size,h.other⟩
theorem Mv.drewN (h:Mv F w w') (n:Nat):Mv F w (w'.drewN n):=⟨h.os,h.tape,h.output,h.size,h.other⟩
theorem Mv.set (h:Mv F w w') {a:Addr} (ha:F a.block∨w.heap.size≤a.block) (v:Value):Mv F w (w'.setCell a v) :=
  ⟨h.os,h.tape,h.output,by simp;exact h.size,fun b hb hn=>(heap_setCell_other w' a b v (fun e=>by
    rcases ha with h1|h1
    · exact hn (e ▸ h1)
    · omega)).trans (h.other b hb hn)⟩
theorem Mv.alloc (h:Mv F w w') (o:Obj):Mv F w (w'.alloc o) :=
  ⟨h.os,h.tape,h.output,by simp;exact Nat.le_succ_of_le h.size,fun b hb hn=>(Below.heap_alloc w' o b (Nat.lt_of_lt_of_le hb h.size)).trans (h.other b hb hn)⟩
theorem Mv.app {v v':Value} (h:Mv F w w') (k:App v v' w' w'') (hv:∀b,v.ownBlock=some b→F b∨w.heap.size≤b):Mv F w w'' :=
  ⟨k.os.trans h.os,k.tape.trans h.tape,k.output.trans h.output,Nat.le_trans h.size k.size,fun b hb hn=>(k.other b (Nat.lt_of_lt_of_le hb h.size) (fun e=>by
    rcases hv b e with h1|h1
    · exact hn h1
    · omega)).trans (h.other b hb hn)⟩
theorem Mv.toBelow (h:Mv F w w') {n:Nat} (hn:n≤w.heap.size) (hF:∀b,F b→n≤b):Below n w w' :=
  ⟨h.os,h.tape,h.output,h.size,fun b hb=>h.other b (by omega) (fun hf=>by have:=hF b hf;omega)⟩
end
structure Rw where
  sz:Nat
  e:TypeId
  v:Value
  n:Nat
  f:Nat→List Value
def Rw.ok (r:Rw) (w:World):Prop:=OL r.sz r.e w r.v r.n r.f
structure Rws {K:Type} (D:K→Prop) (R:K→Rw) (w:World):Prop where
  ok:∀k,D k→(R k).ok w
  dis:∀j k b,D j→D k→(R j).v.ownBlock=some b→(R k).v.ownBlock=some b→j=k
section
variable {K:Type} {D D':K→Prop} {R R':K→Rw} {w w':World}
theorem Rws.lt (h:Rws D R w) {k:K} {b:Nat} (hk:D k) (hb:(R k).v.ownBlock=some b):b<w.heap.size:=(h.ok k hk).lt hb
theorem Rws.keep (h:Rws D R w) (hb:∀k b,D k→(R k).v.ownBlock=some b→w'.heap[b]?=w.heap[b]?):Rws D R w' :=
  ⟨fun k hk=>(h.ok k hk).stay (fun b e=>hb k b hk e),h.dis⟩
theorem Rws.upd (h:Rws D R w) (k:K) (hD:∀j,D' j→D j∨j=k) (hR:∀j,D' j→j≠k→R' j=R j) (hk:D' k→(R' k).ok w')
  (hown:∀b,(R' k).v.ownBlock=some b→(D k∧(R k).v.ownBlock=some b)∨w.heap.size≤b) (hoth:∀j b,D j→D' j→j≠k→(R j).v.ownBlock=some b→w'.heap[b]?=w.heap[b]?):Rws D' R' w':=by
 refine⟨fun j hj=>?_,fun i j b hi hj e1 e2=>?_⟩
 ·
  by_cases e:j=k
  · subst e;exact hk hj
  · have hd:D j:=(hD j hj).resolve_right e;rw[hR j hj e];exact (h.ok j hd).stay (fun b hb=>hoth j b hd hj e hb)
 ·
  by_cases ei:i=k
  ·
   by_cases ej:j=k
   · rw[ei,ej]
   ·
    have hd:D j:=(hD j hj).resolve_right ej;subst ei;rw[hR j hj ej]at e2;rcases hown b e1 with⟨h1,h2⟩|h1
    · exact h.dis _ _ b h1 hd h2 e2
    · have:=h.lt hd e2;omega
  ·
   have hdi:D i:=(hD i hi).resolve_right ei;rw[hR i hi ei]at e1;by_cases ej:j=k
   ·
    subst ej;rcases hown b e2 with⟨h1,h2⟩|h1
    · exact h.dis _ _ b hdi h1 e1 h2
    · have:=h.lt hdi e1;omega
   · have hd:D j:=(hD j hj).resolve_right ej;rw[hR j hj ej]at e2;exact h.dis _ _ b hdi hd e1 e2
theorem Rws.set (h:Rws D R w) (k:K) (hk:D k) {g cap:Nat} (hv:(R k).v=.slice (some ⟨g,0,none⟩) (R k).n cap) {i j:Nat} (hi:i<(R k).n) (hj:j<(R k).sz) (x:Value) (hl:∀m,m<(R k).n→((R k).f m).length=(R k).sz)
  (hR:∀j,D j→j≠k→R' j=R j) (hRk:R' k={ R k with f:=(R' k).f }) (h1:(R' k).f i=((R k).f i).set j x) (h2:∀m,m<(R k).n→m≠i→(R' k).f m=(R k).f m):Rws D R' (w.setCell ⟨g,i*(R k).sz+j,none⟩ x):=by
 refine h.upd k (fun j hj=>Or.inl hj) hR (fun _=>?_) (fun b hb=>Or.inl ⟨hk,?_⟩) (fun m b hm _ hne hb=>?_)
 · have h0:=h.ok k hk;unfold Rw.ok at h0 ⊢;rw[hRk];rw[hv]at h0 ⊢;exact h0.set hi hj x hl h1 h2
 · rw[hRk]at hb;exact hb
 ·
  refine heap_setCell_other w ⟨g,_,none⟩ b x (fun e=>hne ?_)
  exact h.dis m k b hm hk hb (by rw[hv,e];rfl)
end
end Sat
namespace Sat
def ng (l:Nat):Nat:=if l % 2=0 then l+1 else l - 1
theorem ng_ng (l:Nat):ng (ng l)=l:=by unfold ng;split<;>split<;>omega
theorem ng_ne (l:Nat):ng l≠l:=by unfold ng;split<;>omega
theorem ng_var (l:Nat):ng l / 2=l / 2:=by unfold ng;split<;>omega
theorem var_eq {a b:Nat} (h:a / 2=b / 2):a=b∨a=ng b:=by unfold ng;split<;>omega
theorem ng_lt {l n:Nat} (h:l<2*n):ng l<2*n:=by unfold ng;split<;>omega
theorem ng_ge {l:Nat} (h:2≤l):2≤ng l:=by unfold ng;split<;>omega
theorem ng_inj {a b:Nat} (h:ng a=ng b):a=b:=by rw[← ng_ng a,h,ng_ng]
structure Fc where
  level:Int
  place:Int
  reason:Int
  unit:Int
  last:Bool
  mark:Int
structure Cl where
  lits:List Nat
  num:Int
  first:Int
  links:List (Nat × Nat)
def upd {α:Type} (f:Nat→α) (k:Nat) (x:α):Nat→α:=fun i=>if i=k then x else f i
theorem upd_same {α:Type} (f:Nat→α) (k:Nat) (x:α):upd f k x k=x:=by simp[upd]
theorem upd_other {α:Type} (f:Nat→α) {k i:Nat} (x:α) (h:i≠k):upd f k x i=f i:=by simp[upd,h]
def lvl (S:List Nat) (i:Nat):Nat:=(S.filter (fun s=>decide (s≤i))).length
theorem lvl_le (S:List Nat) (i:Nat):lvl S i≤S.length:=List.length_filter_le _ _
theorem lvl_mono (S:List Nat) {i j:Nat} (h:i≤j):lvl S i≤lvl S j:=by
 unfold lvl;induction S with
 | nil=>simp
 | cons s S ih =>
  simp only[List.filter_cons];by_cases h1:s≤i
  ·
   have h2:s≤j:=by omega
   simp[h1,h2];omega
  ·
   by_cases h2:s≤j
   · simp[h1,h2];omega
   · simp[h1,h2];omega
theorem lvl_append (S:List Nat) (s i:Nat):lvl (S++[s]) i=lvl S i+if s≤i then 1 else 0:=by
 unfold lvl;rw[List.filter_append];by_cases h:s≤i<;>simp[h]
theorem lvl_full {S:List Nat} {i:Nat} (h:∀s∈S,s≤i):lvl S i=S.length:=by
 unfold lvl;rw[List.filter_eq_self.2];intro s hs;simpa using h s hs
theorem lvl_full_iff {S:List Nat} {i:Nat}:lvl S i=S.length↔∀s∈S,s≤i:=by
 refine⟨fun h s hs=>?_,lvl_full⟩
 unfold lvl at h;have:=(List.length_filter_eq_length_iff).1 h s hs;simpa using this
theorem lvl_zero {S:List Nat} {i:Nat}:lvl S i=0↔∀s∈S,i<s:=by
 unfold lvl;rw[List.length_eq_zero_iff,List.filter_eq_nil_iff];simp
theorem lvl_take {S:List Nat} (hs:S.Pairwise (·<·)):∀{k i:Nat} (hk:k<S.length),lvl S i≤k↔i<S[k]:=by
 induction S with
 | nil=>intro k i hk;simp at hk
 | cons s S ih =>
  intro k i hk;obtain⟨h1,h2⟩:=List.pairwise_cons.1 hs;have e:lvl (s::S) i=(if s≤i then 1 else 0)+lvl S i:=by
   unfold lvl;rw[List.filter_cons];by_cases h:s≤i<;>simp[h];omega
  rw[e];cases k with
  | zero =>
   simp only[List.getElem_cons_zero];by_cases h:s≤i
   · rw[if_pos h];omega
   ·
    have:lvl S i=0:=lvl_zero.2 (fun t ht=>by have:=h1 t ht;omega)
    rw[if_neg h,this];omega
  | succ k =>
   simp only[List.getElem_cons_succ];have hk':k<S.length:=by simpa using hk
   have:=ih h2 (i:=i) hk';by_cases h:s≤i
   · simp[h];omega
   ·
    have h3:lvl S i=0:=lvl_zero.2 (fun t ht=>by have:=h1 t ht;omega)
    have h4:=h1 _ (List.getElem_mem hk');simp[h,h3];omega
theorem lvl_pre {S:List Nat} (hs:S.Pairwise (·<·)) {k i:Nat} (h:lvl S i≤k):lvl (S.take k) i=lvl S i:=by
 induction S generalizing k with
 | nil=>simp
 | cons s S ih =>
  obtain⟨h1,h2⟩:=List.pairwise_cons.1 hs;have e:∀S:List Nat,lvl (s::S) i=(if s≤i then 1 else 0)+lvl S i:=by
   intro S;unfold lvl;rw[List.filter_cons];by_cases h:s≤i<;>simp[h];omega
  cases k with
  | zero=>simp only[List.take_zero];rw[show lvl ([]:List Nat) i=0 from rfl];omega
  | succ k =>
   rw[List.take_succ_cons,e,e];rw[e]at h;by_cases h3:s≤i
   · simp only[h3,if_true]at h ⊢;rw[ih h2 (by omega)]
   ·
    have h4:lvl S i=0:=lvl_zero.2 (fun t ht=>by have:=h1 t ht;omega)
    have h5:lvl (S.take k) i=0:=lvl_zero.2 (fun t ht=>by have:=h1 t (List.mem_of_mem_take ht);omega)
    simp[h3,h4,h5]
def vl (T:List Nat) (l:Nat):Int:=if l∈T then 1 else if ng l∈T then -1 else 0
structure TI (nv:Nat) (V:Nat→Int) (T S:List Nat) (F:Nat→Fc) (nc:Nat) (C:Nat→Cl):Prop where
  ok:∀l∈T,2≤l∧l<2*(nv+1)
  nd:(T.map (· / 2)).Nodup
  va:∀l,l<2*(nv+1)→V l=vl T l
  up:S.Pairwise (·<·)
  st:∀s∈S,s<T.length
  pl:∀i (h:i<T.length),(F (T[i] / 2)).place=i∧(F (T[i] / 2)).level=lvl S i
  ch:∀i (h:i<T.length),i∈S→(F (T[i] / 2)).reason=-1
  re:∀i (h:i<T.length),i ∉ S→∃r,r<nc∧(F (T[i] / 2)).reason=(r:Int)∧T[i]∈(C r).lits∧∀m∈(C r).lits,m≠T[i]→ng m∈T.take i
  un:∀i (h:i<T.length),lvl S i=0→∃u,u<nc∧(F (T[i] / 2)).unit=(u:Int)∧(C u).lits=[T[i]]
section
variable {nv:Nat} {V:Nat→Int} {T S:List Nat} {F:Nat→Fc} {nc:Nat} {C:Nat→Cl}
theorem nd_inj (nd:(T.map (· / 2)).Nodup) {i j:Nat} (hi:i<T.length) (hj:j<T.length) (e:T[i] / 2=T[j] / 2):i=j:=by
 have h1:(T.map (· / 2))[i]'(by simpa using hi)=(T.map (· / 2))[j]'(by simpa using hj):=by simpa using e
 exact (List.getElem_inj nd).1 h1
theorem nd_one (nd:(T.map (· / 2)).Nodup) {a b:Nat} (ha:a∈T) (hb:b∈T) (e:a / 2=b / 2):a=b:=by
 obtain⟨i,hi,rfl⟩:=List.mem_iff_getElem.1 ha;obtain⟨j,hj,rfl⟩:=List.mem_iff_getElem.1 hb;have:=nd_inj nd hi hj e;subst this;rfl
theorem nd_ng (nd:(T.map (· / 2)).Nodup) {a:Nat} (ha:a∈T):ng a ∉ T:=fun h=>ng_ne a (nd_one nd h ha (ng_var a))
theorem vl_one {l:Nat}:vl T l=1↔l∈T:=by unfold vl;split<;>simp_all;split<;>simp
theorem vl_neg (nd:(T.map (· / 2)).Nodup) {l:Nat}:vl T l=-1↔ng l∈T:=by
 unfold vl;constructor
 ·
  intro h;split at h
  · cases h
  ·
   split at h
   · assumption
   · cases h
 ·
  intro h;have:l ∉ T:=fun h2=>nd_ng nd h2 h
  simp[this,h]
theorem vl_zero {l:Nat}:vl T l=0↔l ∉ T∧ng l ∉ T:=by
 unfold vl;constructor
 ·
  intro h;split at h
  · cases h
  ·
   split at h
   · cases h
   · exact⟨by assumption,by assumption⟩
 · rintro⟨h1,h2⟩;simp[h1,h2]
theorem vl_push {l x:Nat} (hx:vl T x=0):vl (T++[x]) l=if l=x then 1 else if l=ng x then -1 else vl T l:=by
 obtain⟨h1,h2⟩:=vl_zero.1 hx;unfold vl;by_cases e:l=x
 · subst e;simp
 ·
  by_cases e2:l=ng x
  · subst e2;simp[e,h2,ng_ng]
  ·
   have:ng l≠x:=fun h=>e2 (by rw[← h,ng_ng])
   simp[e,e2,this]
theorem TI.push (h:TI nv V T S F nc C) {l r:Nat} {u:Int} {lst:Bool} {mk:Int} (hl:2≤l∧l<2*(nv+1)) (h0:vl T l=0) (hr:r<nc) (hm:l∈(C r).lits) (hf:∀m∈(C r).lits,m≠l→ng m∈T)
  (hu:S=[]→∃k,k<nc∧u=(k:Int)∧(C k).lits=[l]) {V':Nat→Int} (hV:∀k,k<2*(nv+1)→V' k=if k=l then 1 else if k=ng l then -1 else V k) :
  TI nv V' (T++[l]) S (upd F (l / 2) { level:=S.length,place:=T.length,reason:=r,unit:=u,last:=lst,mark:=mk }) nc C:=by
 obtain⟨z1,z2⟩:=vl_zero.1 h0;have key:∀i,(hi:i<T.length)→T[i] / 2≠l / 2:=fun i hi e=>by
  rcases var_eq e with e|e
  · exact z1 (e ▸ List.getElem_mem hi)
  · exact z2 (e ▸ List.getElem_mem hi)
 have fu:lvl S T.length=S.length:=lvl_full (fun s hs=>Nat.le_of_lt (h.st s hs))
 refine { ok:=?_,nd:=?_,va:=?_,up:=h.up,st:=?_,pl:=?_,ch:=?_,re:=?_,un:=?_ }
 ·
  intro k hk;rcases List.mem_append.1 hk with hk|hk
  · exact h.ok k hk
  · simp at hk;subst hk;exact hl
 ·
  rw[List.map_append,List.nodup_append];refine⟨h.nd,by simp,?_⟩
  intro a ha b hb;simp at hb;obtain⟨k,hk,rfl⟩:=List.mem_map.1 ha;obtain⟨i,hi,rfl⟩:=List.mem_iff_getElem.1 hk;subst hb;exact key i hi
 · intro k hk;rw[hV k hk,vl_push h0,h.va k hk]
 · intro s hs;have:=h.st s hs;simp;omega
 ·
  intro i hi;by_cases e:i<T.length
  · rw[List.getElem_append_left e,upd_other _ _ (key i e)];exact h.pl i e
  ·
   obtain rfl:i=T.length:=by simp at hi;omega
   rw[List.getElem_append_right (Nat.le_refl _)];simp only[Nat.sub_self,List.getElem_cons_zero,upd_same];rw[fu];exact⟨trivial,rfl⟩
 · intro i hi hs;have e:=h.st i hs;rw[List.getElem_append_left e,upd_other _ _ (key i e)];exact h.ch i e hs
 ·
  intro i hi hs;by_cases e:i<T.length
  · rw[List.getElem_append_left e,upd_other _ _ (key i e),List.take_append_of_le_length (by omega)];exact h.re i e hs
  ·
   obtain rfl:i=T.length:=by simp at hi;omega
   rw[List.getElem_append_right (Nat.le_refl _)];simp only[Nat.sub_self,List.getElem_cons_zero,upd_same];refine⟨r,hr,rfl,hm,?_⟩;rw[List.take_append_of_le_length (Nat.le_refl _),List.take_length];exact hf
 ·
  intro i hi hz;by_cases e:i<T.length
  · rw[List.getElem_append_left e,upd_other _ _ (key i e)];exact h.un i e hz
  ·
   obtain rfl:i=T.length:=by simp at hi;omega
   rw[List.getElem_append_right (Nat.le_refl _)];simp only[Nat.sub_self,List.getElem_cons_zero,upd_same];rw[fu]at hz;exact hu (List.length_eq_zero_iff.1 hz)
theorem TI.pick (h:TI nv V T S F nc C) {l:Nat} {u:Int} {lst:Bool} {mk:Int} (hl:2≤l∧l<2*(nv+1)) (h0:vl T l=0)
  {V':Nat→Int} (hV:∀k,k<2*(nv+1)→V' k=if k=l then 1 else if k=ng l then -1 else V k) :
  TI nv V' (T++[l]) (S++[T.length]) (upd F (l / 2) { level:=(S.length+1:Nat),place:=T.length,reason:=-1,unit:=u,last:=lst,mark:=mk }) nc C:=by
 obtain⟨z1,z2⟩:=vl_zero.1 h0;have key:∀i,(hi:i<T.length)→T[i] / 2≠l / 2:=fun i hi e=>by
  rcases var_eq e with e|e
  · exact z1 (e ▸ List.getElem_mem hi)
  · exact z2 (e ▸ List.getElem_mem hi)
 have lo:∀i,i<T.length→lvl (S++[T.length]) i=lvl S i:=fun i hi=>by rw[lvl_append,if_neg (by omega)];rfl
 refine { ok:=?_,nd:=?_,va:=?_,up:=?_,st:=?_,pl:=?_,ch:=?_,re:=?_,un:=?_ }
 ·
  intro k hk;rcases List.mem_append.1 hk with hk|hk
  · exact h.ok k hk
  · simp at hk;subst hk;exact hl
 ·
  rw[List.map_append,List.nodup_append];refine⟨h.nd,by simp,?_⟩
  intro a ha b hb;simp at hb;obtain⟨k,hk,rfl⟩:=List.mem_map.1 ha;obtain⟨i,hi,rfl⟩:=List.mem_iff_getElem.1 hk;subst hb;exact key i hi
 · intro k hk;rw[hV k hk,vl_push h0,h.va k hk]
 · rw[List.pairwise_append];exact⟨h.up,by simp,fun a ha b hb=>by simp at hb;subst hb;exact h.st a ha⟩
 ·
  intro s hs;rcases List.mem_append.1 hs with hs|hs
  · have:=h.st s hs;simp;omega
  · simp at hs;subst hs;simp
 ·
  intro i hi;by_cases e:i<T.length
  · rw[List.getElem_append_left e,upd_other _ _ (key i e),lo i e];exact h.pl i e
  ·
   obtain rfl:i=T.length:=by simp at hi;omega
   rw[List.getElem_append_right (Nat.le_refl _)];simp only[Nat.sub_self,List.getElem_cons_zero,upd_same];refine⟨trivial,?_⟩;rw[lvl_full]
   · simp
   ·
    intro s hs;rcases List.mem_append.1 hs with hs|hs
    · exact Nat.le_of_lt (h.st s hs)
    · simp at hs;omega
 ·
  intro i hi hs;by_cases e:i<T.length
  ·
   rw[List.getElem_append_left e,upd_other _ _ (key i e)];rcases List.mem_append.1 hs with hs|hs
   · exact h.ch i e hs
   · simp at hs;omega
  ·
   obtain rfl:i=T.length:=by simp at hi;omega
   rw[List.getElem_append_right (Nat.le_refl _)];simp only[Nat.sub_self,List.getElem_cons_zero,upd_same]
 ·
  intro i hi hs;by_cases e:i<T.length
  ·
   rw[List.getElem_append_left e,upd_other _ _ (key i e),List.take_append_of_le_length (by omega)]
   exact h.re i e (fun hh=>hs (List.mem_append_left _ hh))
  ·
   obtain rfl:i=T.length:=by simp at hi;omega
   exact absurd (List.mem_append_right _ (by simp)) hs
 ·
  intro i hi hz;by_cases e:i<T.length
  · rw[List.getElem_append_left e,upd_other _ _ (key i e)];rw[lo i e]at hz;exact h.un i e hz
  ·
   obtain rfl:i=T.length:=by simp at hi;omega
   rw[lvl_append,if_pos (Nat.le_refl _)]at hz;omega
theorem TI.cut (h:TI nv V T S F nc C) {k:Nat} (hk:k<S.length) {V':Nat→Int} {F':Nat→Fc} (hV:∀l,l<2*(nv+1)→V' l=vl (T.take S[k]) l)
  (hF:∀i (hi:i<T.length),(F' (T[i] / 2)).level=(F (T[i] / 2)).level∧(F' (T[i] / 2)).place=(F (T[i] / 2)).place∧(F' (T[i] / 2)).reason=(F (T[i] / 2)).reason∧(F' (T[i] / 2)).unit=(F (T[i] / 2)).unit) :
  TI nv V' (T.take S[k]) (S.take k) F' nc C:=by
 have hb:=h.st _ (List.getElem_mem hk);have len:(T.take S[k]).length=S[k]:=by rw[List.length_take];omega
 have get:∀i (hi:i<(T.take S[k]).length),(T.take S[k])[i]=T[i]'(by rw[len]at hi;omega):=fun i hi=>List.getElem_take
 have lv:∀i,i<S[k]→lvl (S.take k) i=lvl S i:=fun i hi=>lvl_pre h.up ((lvl_take h.up hk).2 hi)
 have mem:∀i,i<S[k]→(i∈S.take k↔i∈S):=fun i hi=>by
  refine⟨List.mem_of_mem_take,fun hs=>?_⟩
  obtain⟨j,hj,rfl⟩:=List.mem_iff_getElem.1 hs;have hjk:j<k:=by
   rcases Nat.lt_or_ge j k with h9|h9
   · exact h9
   ·
    rcases Nat.lt_or_eq_of_le h9 with h8|h8
    · have:=List.pairwise_iff_getElem.1 h.up k j hk hj h8;omega
    · subst h8;omega
  exact List.mem_iff_getElem.2 ⟨j,by rw[List.length_take];omega,List.getElem_take⟩
 refine { ok:=fun l hl=>h.ok l (List.mem_of_mem_take hl),nd:=?_,va:=hV,up:=h.up.sublist (List.take_sublist _ _),st:=?_,pl:=?_,ch:=?_,re:=?_,un:=?_ }
 · rw[List.map_take];exact h.nd.sublist (List.take_sublist _ _)
 · intro s hs;rw[len];obtain⟨j,hj,rfl⟩:=List.mem_iff_getElem.1 hs;rw[List.length_take]at hj;rw[List.getElem_take];exact List.pairwise_iff_getElem.1 h.up j k (by omega) hk (by omega)
 ·
  intro i hi;rw[get i hi];rw[len]at hi;obtain⟨f1,f2,f3,f4⟩:=hF i (by omega)
  rw[f1,f2,lv i hi];exact h.pl i (by omega)
 ·
  intro i hi hs;rw[get i hi];rw[len]at hi;obtain⟨f1,f2,f3,f4⟩:=hF i (by omega)
  rw[f3];exact h.ch i (by omega) ((mem i hi).1 hs)
 ·
  intro i hi hs;rw[get i hi];rw[len]at hi;obtain⟨f1,f2,f3,f4⟩:=hF i (by omega)
  rw[f3,List.take_take,Nat.min_eq_left (by omega)];exact h.re i (by omega) (fun hh=>hs ((mem i hi).2 hh))
 ·
  intro i hi hz;rw[get i hi];rw[len]at hi;obtain⟨f1,f2,f3,f4⟩:=hF i (by omega)
  rw[lv i hi]at hz;rw[f4];exact h.un i (by omega) hz
theorem TI.turn (h:TI nv V T S F nc C) {nc':Nat} {C':Nat→Cl} {F':Nat→Fc} (hn:nc≤nc') (hC:∀c,c<nc→(C' c).lits.Perm (C c).lits)
  (hF:∀i (hi:i<T.length),(F' (T[i] / 2)).level=(F (T[i] / 2)).level∧(F' (T[i] / 2)).place=(F (T[i] / 2)).place∧(F' (T[i] / 2)).reason=(F (T[i] / 2)).reason∧(F' (T[i] / 2)).unit=(F (T[i] / 2)).unit):TI nv V T S F' nc' C':=by
 refine { ok:=h.ok,nd:=h.nd,va:=h.va,up:=h.up,st:=h.st,pl:=?_,ch:=?_,re:=?_,un:=?_ }
 · intro i hi;obtain⟨f1,f2,f3,f4⟩:=hF i hi;rw[f1,f2];exact h.pl i hi
 · intro i hi hs;obtain⟨f1,f2,f3,f4⟩:=hF i hi;rw[f3];exact h.ch i hi hs
 · intro i hi hs;obtain⟨f1,f2,f3,f4⟩:=hF i hi;obtain⟨r,hr,e,hm,ha⟩:=h.re i hi hs;exact⟨r,by omega,f3.trans e,(hC r hr).mem_iff.2 hm,fun m h1 h2=>ha m ((hC r hr).mem_iff.1 h1) h2⟩
 ·
  intro i hi hz;obtain⟨f1,f2,f3,f4⟩:=hF i hi;obtain⟨u,hu,e,hm⟩:=h.un i hi hz;refine⟨u,by omega,f4.trans e,?_⟩
  have:=hC u hu;rw[hm]at this;exact List.perm_singleton.1 this
end
end Sat
namespace Sat
open Euf (OL App)
structure Dt where
  nv:Nat
  added:Nat
  nc:Nat
  C:Nat→Cl
  Q:List Nat
  clash:Int
  refuted:Bool
  V:Nat→Int
  W:Nat→List (Nat × Nat)
  F:Nat→Fc
  T:List Nat
  S:List Nat
  head:Nat
  hp:List Nat
  at_:Nat→Nat
  bz:Nat→Int
  wt:Int
  mks:List Nat
  steps:Int
  mo:List Bool
abbrev Key:=Nat × Nat
abbrev kVal:Key:=(0,0)
abbrev kWat:Key:=(1,0)
abbrev kFac:Key:=(2,0)
abbrev kTra:Key:=(3,0)
abbrev kSta:Key:=(4,0)
abbrev kHea:Key:=(5,0)
abbrev kAtv:Key:=(6,0)
abbrev kBus:Key:=(7,0)
abbrev kMar:Key:=(8,0)
abbrev kWai:Key:=(9,0)
abbrev kMod:Key:=(10,0)
abbrev kClz:Key:=(11,0)
abbrev kLit (i:Nat):Key:=(12,i)
abbrev kWl (l:Nat):Key:=(13,l)
abbrev kLnk (i:Nat):Key:=(14,i)
def updK (a:Key→Value) (k:Key) (v:Value):Key→Value:=fun j=>if j=k then v else a j
theorem updK_same (a:Key→Value) (k:Key) (v:Value):updK a k v k=v:=by simp[updK]
theorem updK_other (a:Key→Value) {k j:Key} (v:Value) (h:j≠k):updK a k v j=a j:=by simp[updK,h]
def i64C (l:List Nat) (i:Nat):List Value:=[.int .i64 (l.getD i 0:Nat)]
def i32C (l:List Nat) (i:Nat):List Value:=[.int .i32 (l.getD i 0:Nat)]
def prC (l:List (Nat × Nat)) (i:Nat):List Value:=[.int .i32 ((l.getD i (0,0)).1:Nat),.int .i32 ((l.getD i (0,0)).2:Nat)]
def facC (F:Nat→Fc) (v:Nat):List Value:=[.int .i64 (F v).level,.int .i64 (F v).place,.int .i64 (F v).reason,.int .i64 (F v).unit,.bool (F v).last,.int .i8 (F v).mark]
def clC (C:Nat→Cl) (a:Key→Value) (i:Nat):List Value:=[a (kLit i),.int .i64 (C i).num,.int .i64 (C i).first,a (kLnk i)]
def rows (d:Dt) (a:Key→Value) (k:Key):Rw :=
  match k.1 with
  | 0=>⟨1,111,a k,2*(d.nv+1),fun l=>[.int .i8 (d.V l)]⟩
  | 1=>⟨1,131,a k,2*(d.nv+1),fun l=>[a (kWl l)]⟩
  | 2=>⟨6,116,a k,d.nv+1,facC d.F⟩
  | 3=>⟨1,106,a k,d.T.length,i32C d.T⟩
  | 4=>⟨1,3,a k,d.S.length,i64C d.S⟩
  | 5=>⟨1,3,a k,d.hp.length,i64C d.hp⟩
  | 6=>⟨1,3,a k,d.nv+1,fun v=>[.int .i64 (d.at_ v:Nat)]⟩
  | 7=>⟨1,2,a k,d.nv+1,fun v=>[.int .i64 (d.bz v)]⟩
  | 8=>⟨1,3,a k,d.mks.length,i64C d.mks⟩
  | 9=>⟨1,3,a k,d.Q.length,i64C d.Q⟩
  | 10=>⟨1,4,a k,d.mo.length,fun i=>[.bool (d.mo.getD i false)]⟩
  | 11=>⟨4,86,a k,d.nc,clC d.C a⟩
  | 12=>⟨1,106,a k,(d.C k.2).lits.length,i32C (d.C k.2).lits⟩
  | 13=>⟨2,133,a k,(d.W k.2).length,prC (d.W k.2)⟩
  | _=>⟨2,127,a k,(d.C k.2).links.length,prC (d.C k.2).links⟩
def dom (d:Dt) (k:Key):Prop :=
  match k.1 with
  | 12=>k.2<d.nc
  | 13=>k.2<2*(d.nv+1)
  | 14=>k.2<d.nc
  | t=>t<12∧k.2=0
def cellsOf (d:Dt) (a:Key→Value):Array Value:=#[.int .i64 (d.nv:Nat),.int .i64 (d.added:Nat),a kClz,a kWai,.int .i64 d.clash,.bool d.refuted,a kVal,a kWat,a kFac,a kTra,a kSta,.int .i64 (d.head:Nat),a kHea,a kAtv,a kBus,.int .i64 d.wt,a kMar,.int .i64 d.steps,a kMod,.int .u32 0,.int .i32 0,.int .u32 0,.slice none 0 0]
structure SW (w:World) (g:Nat) (d:Dt) (a:Key→Value):Prop where
  blk:w.heap[g]?=some (.cells (cellsOf d a) 78 (0,0))
  rw_:Rws (dom d) (rows d a) w
def Fo (g:Nat) (d:Dt) (a:Key→Value) (b:Nat):Prop:=b=g∨∃k,dom d k∧(a k).ownBlock=some b
def stab (d:Dt) (k:Key):Prop :=
  match k.1 with
  | 0=>True
  | 1=>True
  | 2=>True
  | 6=>True
  | 7=>True
  | 9=>True
  | 12=>k.2<d.nc
  | _=>False
theorem stab_nc {d d':Dt} (h:d.nc≤d'.nc):∀k,stab d k→stab d' k
  | (0,_),_=>trivial
  | (1,_),_=>trivial
  | (2,_),_=>trivial
  | (3,_),hk=>hk
  | (4,_),hk=>hk
  | (5,_),hk=>hk
  | (6,_),_=>trivial
  | (7,_),_=>trivial
  | (8,_),hk=>hk
  | (9,_),_=>trivial
  | (10,_),hk=>hk
  | (11,_),hk=>hk
  | (12,_),hk=>Nat.lt_of_lt_of_le hk h
  | (n+13,_),hk=>hk
theorem dom_nc {d d':Dt} (h:dom d'=dom d):d'.nc=d.nc:=by
 have e:∀i,(i<d'.nc)=(i<d.nc):=fun i=>congrFun h (12,i)
 have h1:=e d.nc;have h2:=e d'.nc;simp at h1 h2;omega
structure Mo (g:Nat) (d:Dt) (a:Key→Value) (w:World) (d':Dt) (a':Key→Value) (w':World):Prop where
  mv:Mv (Fo g d a) w w'
  fo:∀b,Fo g d' a' b→Fo g d a b∨w.heap.size≤b
  ad:∀k,stab d k→a' k=a k
  nn:d.nc≤d'.nc
structure Mq (g:Nat) (d:Dt) (a:Key→Value) (w:World) (d':Dt) (a':Key→Value) (w':World):Prop where
  mv:Mv (Fo g d a) w w'
  fo:∀b,Fo g d' a' b→Fo g d a b∨w.heap.size≤b
theorem rows_v (d:Dt) (a:Key→Value) (k:Key):(rows d a k).v=a k:=by
 unfold rows;split<;>rfl
theorem rows_e (d:Dt) (a:Key→Value) (k:Key):(rows d a k).e≠78:=by
 unfold rows;split<;>(dsimp only;decide)
theorem rows_len (d:Dt) (a:Key→Value) (k:Key) (m:Nat):((rows d a k).f m).length=(rows d a k).sz:=by
 unfold rows;split<;>rfl
section
variable {w w' w1:World} {g:Nat} {d d' d'':Dt} {a a' a'':Key→Value}
theorem Mo.refl (g:Nat) (d:Dt) (a:Key→Value) (w:World):Mo g d a w d a w:=⟨Mv.refl _ _,fun b hb=>Or.inl hb,fun _ _=>rfl,Nat.le_refl _⟩
theorem Mo.trans (h:Mo g d a w d' a' w') (k:Mo g d' a' w' d'' a'' w1):Mo g d a w d'' a'' w1 :=
  ⟨h.mv.trans k.mv h.fo,fun b hb=>by
    rcases k.fo b hb with h1|h1
    · exact h.fo b h1
    · exact Or.inr (Nat.le_trans h.mv.size h1),fun j hj=>(k.ad j (stab_nc h.nn j hj)).trans (h.ad j hj),Nat.le_trans h.nn k.nn⟩
theorem Mo.below (h:Mo g d a w d' a' w') (hb:Below w'.heap.size w' w1):Mo g d a w d' a' w1 :=
  ⟨h.mv.trans (Mv.below (F:=fun _=>False) hb) (fun b hf=>hf.elim),h.fo,h.ad,h.nn⟩
theorem Mo.drewN (h:Mo g d a w d' a' w') (n:Nat):Mo g d a w d' a' (w'.drewN n):=⟨h.mv.drewN n,h.fo,h.ad,h.nn⟩
theorem SW.lt (h:SW w g d a):g<w.heap.size:=(Array.getElem?_eq_some_iff.1 h.blk).1
theorem SW.foLt (h:SW w g d a) {b:Nat} (hb:Fo g d a b):b<w.heap.size:=by
 rcases hb with rfl|⟨k,hk,e⟩
 · exact h.lt
 · exact h.rw_.lt hk (by rw[rows_v];exact e)
theorem SW.keep (h:SW w g d a) (hb:∀b,Fo g d a b→w'.heap[b]?=w.heap[b]?):SW w' g d a :=
  ⟨(hb g (Or.inl rfl)).trans h.blk,h.rw_.keep (fun k b hk e=>hb b (Or.inr ⟨k,hk,by rw[← rows_v d a k];exact e⟩))⟩
theorem SW.below (h:SW w g d a) (hb:Below w.heap.size w w'):SW w' g d a:=h.keep (fun b hf=>hb.block b (h.foLt hf))
theorem SW.drewN (h:SW w g d a) (n:Nat):SW (w.drewN n) g d a:=h.keep (fun _ _=>rfl)
theorem SW.drew (h:SW w g d a):SW w.drew g d a:=h.keep (fun _ _=>rfl)
theorem Mo.drew (g:Nat) (d:Dt) (a:Key→Value) (w:World):Mo g d a w d a w.drew:=⟨(Mv.refl _ w).drew,fun b hb=>Or.inl hb,fun _ _=>rfl,Nat.le_refl _⟩
theorem SW.cell (h:SW w g d a) (i:Nat):w.cell? ⟨g,i,none⟩=(cellsOf d a)[i]?:=cell_of_row w g i _ 78 (0,0) h.blk
theorem SW.frozen (h:SW w g d a) (i:Nat):w.frozen? ⟨g,i,none⟩=false:=frozen_of_row w g i _ 78 h.blk
theorem SW.ol (h:SW w g d a) {k:Key} (hk:dom d k):OL (rows d a k).sz (rows d a k).e w (a k) (rows d a k).n (rows d a k).f:=by
 have h0:=h.rw_.ok k hk;unfold Rw.ok at h0;rwa [rows_v]at h0
theorem SW.ne (h:SW w g d a) {k:Key} (hk:dom d k):(a k).ownBlock≠some g:=(h.ol hk).neB h.blk (rows_e d a k)
theorem SW.apart (h:SW w g d a) {j k:Key} {b:Nat} (hj:dom d j) (hk:dom d k) (hne:j≠k) (hb:(a j).ownBlock=some b):(a k).ownBlock≠some b:=fun e=>hne (h.rw_.dis j k b hj hk (by rw[rows_v];exact hb) (by rw[rows_v];exact e))
theorem SW.set (h:SW w g d a) (k:Key) (hk:dom d k) {b cap:Nat} (hv:a k=.slice (some ⟨b,0,none⟩) (rows d a k).n cap) {i j:Nat} (hi:i<(rows d a k).n) (hj:j<(rows d a k).sz) (x:Value)
  (hdom:dom d'=dom d) (hR:∀j,dom d j→j≠k→rows d' a j=rows d a j) (hRk:rows d' a k={ rows d a k with f:=(rows d' a k).f }) (h1:(rows d' a k).f i=((rows d a k).f i).set j x) (h2:∀m,m<(rows d a k).n→m≠i→(rows d' a k).f m=(rows d a k).f m) (hc:cellsOf d' a=cellsOf d a) :
  SW (w.setCell ⟨b,i*(rows d a k).sz+j,none⟩ x) g d' a:=by
 have hb:(a k).ownBlock=some b:=by rw[hv];rfl
 refine⟨?_,?_⟩
 ·
  rw[hc];refine (heap_setCell_other w ⟨b,_,none⟩ g x (fun e=>h.ne hk ?_)).trans h.blk
  rw[hb,e]
 · rw[hdom];exact h.rw_.set k hk (by rw[rows_v];exact hv) hi hj x (fun m _=>rows_len d a k m) hR hRk h1 h2
theorem Mo.set (h:SW w g d a) {k:Key} (hk:dom d k) {b:Nat} (hb:(a k).ownBlock=some b) (o:Nat) (x:Value) (hdom:dom d'=dom d):Mo g d a w d' a (w.setCell ⟨b,o,none⟩ x) :=
  ⟨(Mv.refl _ w).set (a:=⟨b,o,none⟩) (Or.inl (Or.inr ⟨k,hk,hb⟩)) x,fun b hb=>Or.inl (by
    rcases hb with hb|⟨j,hj,e⟩
    · exact Or.inl hb
    · exact Or.inr ⟨j,by rw[← hdom];exact hj,e⟩),fun _ _=>rfl,Nat.le_of_eq (dom_nc hdom).symm⟩
theorem SW.put (h:SW w g d a) (k:Key) (hk:dom d k) (i:Nat) (v':Value) (hsz:w.heap.size≤w1.heap.size) (hown:∀b,v'.ownBlock=some b→(a k).ownBlock=some b∨w.heap.size≤b) (hoth:∀b,b<w.heap.size→(a k).ownBlock≠some b→w1.heap[b]?=w.heap[b]?)
  (hdom:dom d'=dom d) (hR:∀j,dom d j→j≠k→rows d' (updK a k v') j=rows d a j) (hok:(rows d' (updK a k v') k).ok w1) (hc:cellsOf d' (updK a k v')=(cellsOf d a).setIfInBounds i v') :
  SW (w1.setCell ⟨g,i,none⟩ v') g d' (updK a k v'):=by
 have hb1:w1.heap[g]?=some (.cells (cellsOf d a) 78 (0,0)):=(hoth g h.lt (h.ne hk)).trans h.blk;have r1:Rws (dom d') (rows d' (updK a k v')) w1:=by
  rw[hdom];refine h.rw_.upd k (fun j hj=>Or.inl hj) hR (fun _=>hok) (fun b hb=>?_) (fun j b hj _ hne hb=>?_)
  ·
   rw[rows_v,updK_same]at hb;rcases hown b hb with h1|h1
   · exact Or.inl ⟨hk,by rw[rows_v];exact h1⟩
   · exact Or.inr h1
  · rw[rows_v]at hb;exact hoth b (h.foLt (Or.inr ⟨j,hj,hb⟩)) (h.apart hj hk hne hb)
 refine⟨by rw[hc];exact heap_setCell_same w1 g i _ 78 v' hb1,r1.keep (fun j b hj hb=>heap_setCell_other w1 ⟨g,i,none⟩ b v' (fun e=>?_))⟩
 have e':b=g:=e;subst e';exact (r1.ok j hj).neB hb1 (rows_e _ _ j) hb
theorem Mo.put (h:SW w g d a) (k:Key) (hk:dom d k) (hst:¬ stab d k) (i:Nat) (v':Value) (h1:Mv (fun b=>(a k).ownBlock=some b) w w1) (hown:∀b,v'.ownBlock=some b→(a k).ownBlock=some b∨w.heap.size≤b) (hdom:dom d'=dom d):Mo g d a w d' (updK a k v') (w1.setCell ⟨g,i,none⟩ v'):=by
 refine⟨((Mv.refl (Fo g d a) w).trans h1 (fun b hb=>Or.inl (Or.inr ⟨k,hk,hb⟩))).set (a:=⟨g,i,none⟩) (Or.inl (Or.inl rfl)) v',fun b hb=>?_,fun j hj=>updK_other _ _ (fun e=>hst (e ▸ hj)),Nat.le_of_eq (dom_nc hdom).symm⟩
 rcases hb with hb|⟨j,hj,e⟩
 · exact Or.inl (Or.inl hb)
 ·
  by_cases ej:j=k
  ·
   subst ej;rw[updK_same]at e;rcases hown b e with h2|h2
   · exact Or.inl (Or.inr ⟨j,hk,h2⟩)
   · exact Or.inr h2
  · rw[updK_other _ _ ej]at e;exact Or.inl (Or.inr ⟨j,by rw[← hdom];exact hj,e⟩)
theorem Mo.q (h:Mo g d a w d' a' w'):Mq g d a w d' a' w':=⟨h.mv,h.fo⟩
theorem Mq.trans (h:Mq g d a w d' a' w') (k:Mq g d' a' w' d'' a'' w1):Mq g d a w d'' a'' w1 :=
  ⟨h.mv.trans k.mv h.fo,fun b hb=>by
    rcases k.fo b hb with h1|h1
    · exact h.fo b h1
    · exact Or.inr (Nat.le_trans h.mv.size h1)⟩
theorem Mq.below (h:Mq g d a w d' a' w') (hb:Below w'.heap.size w' w1):Mq g d a w d' a' w1 :=
  ⟨h.mv.trans (Mv.below (F:=fun _=>False) hb) (fun b hf=>hf.elim),h.fo⟩
theorem Mq.drewN (h:Mq g d a w d' a' w') (n:Nat):Mq g d a w d' a' (w'.drewN n):=⟨h.mv.drewN n,h.fo⟩
theorem Mq.put (h:SW w g d a) (k:Key) (hk:dom d k) (i:Nat) (v':Value) (h1:Mv (fun b=>(a k).ownBlock=some b) w w1) (hown:∀b,v'.ownBlock=some b→(a k).ownBlock=some b∨w.heap.size≤b) (hdom:dom d'=dom d):Mq g d a w d' (updK a k v') (w1.setCell ⟨g,i,none⟩ v'):=by
 refine⟨((Mv.refl (Fo g d a) w).trans h1 (fun b hb=>Or.inl (Or.inr ⟨k,hk,hb⟩))).set (a:=⟨g,i,none⟩) (Or.inl (Or.inl rfl)) v',fun b hb=>?_⟩
 rcases hb with hb|⟨j,hj,e⟩
 · exact Or.inl (Or.inl hb)
 ·
  by_cases ej:j=k
  ·
   subst ej;rw[updK_same]at e;rcases hown b e with h2|h2
   · exact Or.inl (Or.inr ⟨j,hk,h2⟩)
   · exact Or.inr h2
  · rw[updK_other _ _ ej]at e;exact Or.inl (Or.inr ⟨j,by rw[← hdom];exact hj,e⟩)
theorem SW.num (h:SW w g d a) (i:Nat) (x:Value) (hdom:dom d'=dom d) (hR:∀j,dom d j→rows d' a j=rows d a j) (hc:cellsOf d' a=(cellsOf d a).setIfInBounds i x):SW (w.setCell ⟨g,i,none⟩ x) g d' a:=by
 refine⟨by rw[hc];exact heap_setCell_same w g i _ 78 x h.blk,?_⟩
 have r1:Rws (dom d') (rows d' a) w:=by
  rw[hdom];exact⟨fun k hk=>by rw[hR k hk];exact h.rw_.ok k hk,fun j k b hj hk e1 e2=>h.rw_.dis j k b hj hk (by rw[← hR j hj];exact e1) (by rw[← hR k hk];exact e2)⟩
 refine r1.keep (fun j b hj hb=>heap_setCell_other w ⟨g,i,none⟩ b x (fun e=>?_))
 have e':b=g:=e;subst e';exact (r1.ok j hj).neB h.blk (rows_e _ _ j) hb
theorem Mo.num (h:SW w g d a) (i:Nat) (x:Value) (hdom:dom d'=dom d):Mo g d a w d' a (w.setCell ⟨g,i,none⟩ x) :=
  ⟨(Mv.refl _ w).set (a:=⟨g,i,none⟩) (Or.inl (Or.inl rfl)) x,fun b hb=>Or.inl (by
    rcases hb with hb|⟨j,hj,e⟩
    · exact Or.inl hb
    · exact Or.inr ⟨j,by rw[← hdom];exact hj,e⟩),fun _ _=>rfl,Nat.le_of_eq (dom_nc hdom).symm⟩
end
end Sat
end Go.Proofs.YtbmkkhpoaicclabGreat
