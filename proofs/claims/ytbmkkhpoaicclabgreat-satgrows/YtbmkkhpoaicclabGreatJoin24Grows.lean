/- Joined: SatNw, SatRm, SatGz, SatGy: words and contracts; no statement of the seat is proved here. -/
import Derived.Test.YtbmkkhpoaicclabGreatJoin21Grows
import Derived.Lib.AppendZeros
import Derived.Test.YtbmkkhpoaicclabGreatJoin14Grows
import Derived.Lib.AppendZerosOnto
namespace Go.Proofs.YtbmkkhpoaicclabGreat
open Go.RowKit
set_option linter.unusedVariables false
namespace Sat
open Euf (OL App)
theorem zeroCells_get (z:Array Value) (n i j:Nat) (hi:i<n) (hj:j<z.size):(Builtin.zeroCells z n)[i*z.size+j]?=z[j]?:=by
 have h1:i*z.size+j<n*z.size:=by
  have:=Nat.mul_le_mul_right z.size (show i+1≤n by omega)
  rw[Nat.add_mul]at this;omega
 have h2:(i*z.size+j) % z.size=j:=by rw[Nat.mul_add_mod_self_right,Nat.mod_eq_of_lt hj]
 unfold Builtin.zeroCells;rw[Array.getElem?_map,Array.getElem?_range,if_pos h1,Option.map_some,h2,getElem!_pos z j hj,Array.getElem?_eq_getElem hj]
theorem run_zeros_nil {P:Program} (w:World) (t tn ty e:TypeId) (z:Value) (sz bytes:Nat) (k kn:IntKind) (ht:P.underlying t=some (.slice e)) (htn:P.underlying tn=some (.int kn)) (h2:(P.info? e).map (fun i=>(i.zero,i.size,i.bytes))=some (some z,sz,bytes)) (hzs:z.cells.size=sz) (hs:0<sz) (hby:bytes≤1000) (n:Nat) (h0:0<n) (hn:n≤20000) (x:Int) (hx:x=(n:Int)) :
  ∃v' w',(Builtin.append_ #[t,tn] ty #[.slice none 0 0,.int k x]).run P w=.ok v' w'∧OL sz e w' v' n (fun _=>z.cells.toList)∧App (.slice none 0 0) v' w w'∧v'.ownBlock=some w.heap.size∧w'.heap.size=w.heap.size+1:=by
 subst hx;obtain⟨i,hi,hz0,hz1,hz2⟩:=info_parts h2;have hmx:2000000000≤maxLen:=by unfold maxLen;decide
 have b1:n*i.bytes≤20000*1000:=Nat.mul_le_mul hn (by omega)
 have hr:=Lib.run_append_nil_zeros (P:=P) w t tn ty e i z k kn ht htn hi hz0 n h0 (by omega) (by omega) (by omega)
 have hge:=grownCap_ge w n 0 e;have hle:=grownCap_le_maxLen w n 0 e (by omega)
 refine⟨_,_,hr,Or.inr ⟨w.heap.size,_,_,rfl,by show (w.heap.push _)[w.heap.size]?=_;simp;rfl,hge,hle,?_,fun i' hi' j hj=>?_⟩,?_,rfl,by show (w.heap.push _).size=_;simp⟩
 · rw[Array.size_append,size_zeroCells,size_zeroCells,hzs,← Nat.add_mul];congr 1;omega
 ·
  have h1:i'*sz+j<n*sz:=by
   have:=Nat.mul_le_mul_right sz (show i'+1≤n by omega)
   rw[Nat.add_mul]at this;omega
  rw[Array.getElem?_append_left (by rw[size_zeroCells,hzs];exact h1)]
  have h9:=zeroCells_get z.cells n i' j hi' (by omega)
  rw[hzs]at h9;rw[h9];simp
 · exact⟨rfl,rfl,rfl,by show _≤(w.heap.push _).size;simp,fun b hb _=>by show (w.heap.push _)[b]?=_;rw[Array.getElem?_push,if_neg (by omega)],Or.inr ⟨w.heap.size,rfl,Nat.le_refl _⟩⟩
def fresh (n:Nat):Dt:={ nv:=n,added:=0,nc:=0,C:=fun _=>⟨[],0,0,[]⟩,Q:=[],clash:=-1,refuted:=false,V:=fun _=>0,W:=fun _=>[],F:=fun _=>⟨0,0,0,0,false,0⟩,T:=[],S:=[],head:=0,hp:=[],at_:=fun _=>0,bz:=fun _=>0,wt:=256,mks:=[],steps:=0,mo:=[] }
def aF (v6 v7 v8 v13 v14:Value) (k:Key):Value:=match k.1 with
  | 0=>v6
  | 1=>v7
  | 2=>v8
  | 6=>v13
  | 7=>v14
  | _=>.slice none 0 0
theorem aF_own {v6 v7 v8 v13 v14:Value} {k:Key} {b:Nat} (h:(aF v6 v7 v8 v13 v14 k).ownBlock=some b):(k.1=0∧v6.ownBlock=some b)∨(k.1=1∧v7.ownBlock=some b)∨(k.1=2∧v8.ownBlock=some b)∨(k.1=6∧v13.ownBlock=some b)∨(k.1=7∧v14.ownBlock=some b):=by
 obtain⟨i,j⟩:=k;unfold aF at h;split at h
 · next e=>exact Or.inl ⟨e,h⟩
 · next e=>exact Or.inr (Or.inl ⟨e,h⟩)
 · next e=>exact Or.inr (Or.inr (Or.inl ⟨e,h⟩))
 · next e=>exact Or.inr (Or.inr (Or.inr (Or.inl ⟨e,h⟩)))
 · next e=>exact Or.inr (Or.inr (Or.inr (Or.inr ⟨e,h⟩)))
 · cases h
theorem fresh_idl (n:Nat):Idl (fresh n) [] 0 []:=by
 have ti:TI n (fun _=>0) [] [] (fun _=>⟨0,0,0,0,false,0⟩) 0 (fun _=>(⟨[],0,0,[]⟩:Cl)):=⟨fun l hl=>(by cases hl),List.nodup_nil,fun l hl=>by simp[vl],List.Pairwise.nil,fun s hs=>(by cases hs),fun i h=>absurd h (Nat.not_lt_zero _),fun i h=>absurd h (Nat.not_lt_zero _),fun i h=>absurd h (Nat.not_lt_zero _),fun i h=>absurd h (Nat.not_lt_zero _)⟩
 have ci:CI n 0 (fun _=>(⟨[],0,0,[]⟩:Cl)):=⟨fun c h=>absurd h (Nat.not_lt_zero _),fun c h=>absurd h (Nat.not_lt_zero _)⟩
 have wi:WI n 0 (fun _=>(⟨[],0,0,[]⟩:Cl)) (fun _=>[]):=⟨fun l hl p hp=>(by cases hp),fun l hl=>List.nodup_nil⟩
 refine⟨⟨fun _=>rfl,rfl,fun L hL=>(by cases hL),List.nodup_nil,fun x hx=>(by cases hx),fun x hx=>(by cases hx),fun u hu=>(by cases hu),rfl,rfl⟩,⟨⟨ti,ci,fun c h=>absurd h (Nat.not_lt_zero _),fun t ht=>(by cases ht),fun c h=>absurd h (Nat.not_lt_zero _),Nat.zero_le _⟩,wi,fun l hl p hp=>(by cases hp),⟨?_,fun v hv=>(by cases hv),fun u hu=>(by cases hu),fun u hu=>(by cases hu),List.nodup_nil⟩,rfl,Or.inl ⟨rfl,ti,ci,wi,fun l hl p hp=>(by cases hp),fun c h=>absurd h (Nat.not_lt_zero _),fun c h=>absurd h (Nat.not_lt_zero _),Nat.le_refl _,fun s hs=>(by cases hs),fun c h=>absurd h (Nat.not_lt_zero _),fun t ht=>by cases ht⟩⟩⟩
 exact⟨fun i h=>absurd h (Nat.not_lt_zero _),fun v _ h=>absurd rfl h,fun v hv=>(by cases hv)⟩
end Sat
open Go Go.RowKit
namespace Sat
open Euf (OL App)
theorem uI8s:Tryz.prog.underlying 58=some (.slice 111):=by kernel_rfl
theorem nI8:(Tryz.prog.info? 111).map (fun i=>(i.zero,i.size,i.bytes))=some (some (.int .i8 0),1,1):=by kernel_rfl
theorem uWss:Tryz.prog.underlying 59=some (.slice 131):=by kernel_rfl
theorem nWs:(Tryz.prog.info? 131).map (fun i=>(i.zero,i.size,i.bytes))=some (some (.slice none 0 0),1,24):=by kernel_rfl
theorem uFas:Tryz.prog.underlying 60=some (.slice 116):=by kernel_rfl
theorem nFa:(Tryz.prog.info? 116).map (fun i=>(i.zero,i.size,i.bytes))=some (some (.agg #[.int .i64 0,.int .i64 0,.int .i64 0,.int .i64 0,.bool false,.int .i8 0]),6,40):=by kernel_rfl
theorem uI64s:Tryz.prog.underlying 54=some (.slice 2):=by kernel_rfl
theorem nI64:(Tryz.prog.info? 2).map (fun i=>(i.zero,i.size,i.bytes))=some (some (.int .i64 0),1,8):=by kernel_rfl
theorem uIntT:Tryz.prog.underlying 3=some (.int .i64):=by kernel_rfl
def cells0 (v6 v7 v8 v13 v14:Value) (n:Nat):Array Value:=#[.int .i64 (n:Nat),.int .i64 0,.slice none 0 0,.slice none 0 0,.int .i64 (-1),.bool false,v6,v7,v8,.slice none 0 0,.slice none 0 0,.int .i64 0,.slice none 0 0,v13,v14,.int .i64 256,.slice none 0 0,.int .i64 0,.slice none 0 0,.int .u32 0,.int .i32 0,.int .u32 0,.slice none 0 0]
end Sat
namespace Sat
open Euf (OL App)
theorem run_zeros {P:Program} (w:World) (t tn ty e:TypeId) (z:Value) (sz bytes:Nat) (k kn:IntKind) (ht:P.underlying t=some (.slice e)) (htn:P.underlying tn=some (.int kn)) (h2:(P.info? e).map (fun i=>(i.zero,i.size,i.bytes))=some (some z,sz,bytes)) (hzs:z.cells.size=sz) (hs:0<sz) (hby:bytes≤1000) (hone:∀u∈z.cells.toList,u.oneCell'=true)
  (v:Value) (n:Nat) (hown:OL sz e w v n (fun _=>z.cells.toList)) (m:Nat) (hn:n+m≤20000) (x:Int) (hx:x=(m:Int)) :
  ∃v' w',(Builtin.append_ #[t,tn] ty #[v,.int k x]).run P w=.ok v' w'∧OL sz e w' v' (n+m) (fun _=>z.cells.toList)∧App v v' w w':=by
 subst hx;obtain⟨i,hi,hz0,hz1,hz2⟩:=info_parts h2;have hmx:2000000000≤maxLen:=by unfold maxLen;decide
 have b1:(n+m)*i.bytes≤20000*1000:=Nat.mul_le_mul hn (by omega)
 have b2:m*i.bytes≤20000*1000:=Nat.mul_le_mul (by omega) (by omega)
 have hw:IntKind.i64.wrap (m:Int)=m:=by rw[IntKind.wrap_i64];omega
 have hw0:IntKind.i64.wrap 0=0:=by rw[IntKind.wrap_i64];omega
 have hneg:¬ ((m:Int)<0):=by omega
 have h48i:¬ (281474976710656<(m:Int)*(i.bytes:Int)):=by
  rw[← Int.natCast_mul];omega
 rcases hown with⟨rfl,rfl⟩|⟨g,cap,cur,rfl,hg,hnc,hcm,hcs,hcell⟩
 ·
  by_cases h0:m=0
  · subst h0;refine⟨.slice none 0 0,w,?_,OL.nil _ _ _ _,App.refl _ _⟩;simp[Builtin.append_,run_underlying ht,run_underlying htn,sizeOf,typeInfo,hi,asInt,asIntOf,hw0]
  ·
   obtain⟨v',w',hr,ho,ha,-,-⟩:=run_zeros_nil (P:=P) w t tn ty e z sz bytes k kn ht htn h2 hzs hs hby m (by omega) (by omega) (m:Int) rfl
   exact⟨v',w',hr,by rw[Nat.zero_add];exact ho,ha⟩
 ·
  have hown:OL sz e w (.slice (some ⟨g,0,none⟩) n cap) n (fun _=>z.cells.toList):=Or.inr ⟨g,cap,cur,rfl,hg,hnc,hcm,hcs,hcell⟩
  have zl:(Builtin.zeroCells z.cells m).toList.length=m*sz:=by rw[Array.length_toList,size_zeroCells,hzs]
  have zget:∀d,d<m→∀j,j<sz→(Builtin.zeroCells z.cells m).toList[d*sz+j]?=z.cells.toList[j]?:=fun d hd j hj=>by
   have h9:=zeroCells_get z.cells m d j hd (by omega)
   rw[hzs]at h9;rw[Array.getElem?_toList,h9,Array.getElem?_toList]
  by_cases hroom:n+m≤cap
  ·
   by_cases h0:m=0
   ·
    subst h0;refine⟨.slice (some ⟨g,0,none⟩) n cap,w,?_,by rw[Nat.add_zero];exact hown,App.refl _ _⟩
    simp[Builtin.append_,run_underlying ht,run_underlying htn,sizeOf,typeInfo,hi,asInt,asIntOf,hw0,hnc,storeCells]
   ·
    have hfit:n*i.size+(Builtin.zeroCells z.cells m).toList.length≤cur.size:=by rw[hz1,hcs,zl,← Nat.add_mul];exact Nat.mul_le_mul_right _ hroom
    have hst:=run_storeCells_at P g (n*i.size) e (Builtin.zeroCells z.cells m).toList 0 cur w hg (by simpa using hfit) (fun u hu=>by
     obtain⟨ix,hix⟩:=List.mem_iff_getElem?.1 hu;have hlt:ix<m*sz:=by rw[← zl];exact (List.getElem?_eq_some_iff.1 hix).1
     have h9:=zget (ix / sz) (Nat.div_lt_of_lt_mul (by rw[Nat.mul_comm];exact hlt)) (ix % sz) (Nat.mod_lt _ hs)
     rw[show ix / sz*sz+ix % sz=ix by rw[Nat.mul_comm];exact Nat.div_add_mod ix sz,hix]at h9
     exact hone u (List.mem_of_getElem? h9.symm))
    simp only[Nat.add_zero]at hst;have hns:¬ (m*i.size=0):=Nat.mul_ne_zero h0 (by omega)
    have hr:(Builtin.append_ #[t,tn] ty #[.slice (some ⟨g,0,none⟩) n cap,.int k (m:Int)]).run P w=.ok (.slice (some ⟨g,0,none⟩) (n+m) cap) (w.setRow g (cur.toList.take (n*i.size)++(Builtin.zeroCells z.cells m).toList++cur.toList.drop (n*i.size+(Builtin.zeroCells z.cells m).toList.length)).toArray):=by
     simp[Builtin.append_,run_underlying ht,run_underlying htn,sizeOf,typeInfo,zeroValue,hi,hz0,asInt,asIntOf,hw,hneg,hns,h48i,hroom,Addr.add_lit,hst]
    rw[hz1]at hr hfit;refine⟨_,_,hr,Or.inr ⟨g,cap,_,rfl,setRow_heap w g cur _ e _ hg,hroom,hcm,?_,?_⟩,⟨rfl,rfl,rfl,by simp,fun b hb hk=>setRow_other w g b _ (fun e=>hk (by simp[Value.ownBlock,e])),Or.inl rfl⟩⟩
    ·
     have ln:n*sz≤cur.size:=by rw[hcs];exact Nat.mul_le_mul_right _ hnc
     simp only[List.size_toArray,List.length_append,List.length_take,List.length_drop,Array.length_toList];rw[Array.length_toList]at hfit;omega
    ·
     intro k9 hk j hj;have ln:n*sz≤cur.size:=by rw[hcs];exact Nat.mul_le_mul_right _ hnc
     have lt:(cur.toList.take (n*sz)).length=n*sz:=by rw[List.length_take,Array.length_toList];omega
     rw[List.getElem?_toArray];by_cases hk1:k9<n
     ·
      have h9:=Nat.mul_le_mul_right sz (show k9+1≤n by omega)
      rw[Nat.add_mul]at h9;rw[List.append_assoc,List.getElem?_append_left (by rw[lt];omega),List.getElem?_take,if_pos (by omega),Array.getElem?_toList]
      exact hcell k9 hk1 j hj
     ·
      obtain⟨d,rfl⟩:∃d,k9=n+d:=⟨k9 - n,by omega⟩
      have h9:=Nat.mul_le_mul_right sz (show d+1≤m by omega)
      rw[Nat.add_mul]at h9;have e9:(n+d)*sz+j=n*sz+(d*sz+j):=by rw[Nat.add_mul];omega
      rw[e9,List.append_assoc,List.getElem?_append_right (by rw[lt];omega),lt,Nat.add_sub_cancel_left,List.getElem?_append_left (by rw[zl];omega)]
      exact zget d (by omega) j hj
  ·
   have h0:0<m:=by omega
   have hlf:∀k,k<n→((fun _=>z.cells.toList) k:List Value).length=sz:=fun _ _=>by simp[hzs]
   have fl:=Euf.flat_length (f:=fun _=>z.cells.toList) hlf n (Nat.le_refl _)
   have holds:∀j u,(Euf.flat (fun _=>z.cells.toList) n)[j]?=some u→w.cell? ((⟨g,0,none⟩:Addr).add j)=some u:=(hown.owns hlf hs (base:=0) (fun _ _=>Nat.zero_le _)).cells (g:=g) rfl
   have hold:=run_firstCells_some (P:=P) w.drew i.size n ⟨g,0,none⟩ n cap (Euf.flat (fun _=>z.cells.toList) n) (by rw[hz1];exact fl) holds
   have hr:=Lib.run_append_grow_zeros (P:=P) w t tn ty e i z k kn ht htn hi hz0 (some ⟨g,0,none⟩) n cap _ hold m h0 (by omega) (by omega) (by omega) (by omega) (growslice_fits (by omega) (by omega))
   have hge:=grownCap_ge w (n+m) cap e;have hle:=grownCap_le_maxLen w (n+m) cap e (by omega)
   refine⟨_,_,hr,Or.inr ⟨w.heap.size,_,_,rfl,heap_alloc_new w.drew _,hge,hle,?_,fun k9 hk j hj=>?_⟩,⟨rfl,rfl,rfl,by simp,fun b hb _=>Below.heap_alloc w.drew _ b hb,Or.inr ⟨_,rfl,Nat.le_refl _⟩⟩⟩
   ·
    simp only[Array.size_append,List.size_toArray,size_zeroCells,hzs,fl];rw[← Nat.add_mul,← Nat.add_mul];congr 1
    omega
   ·
    have h9:=Nat.mul_le_mul_right sz (show k9+1≤n+m by omega)
    rw[Nat.add_mul k9,Nat.add_mul n]at h9;rw[Array.getElem?_append_left (by simp only[Array.size_append,List.size_toArray,size_zeroCells,hzs,fl];omega)]
    by_cases hk1:k9<n
    ·
     have h8:=Nat.mul_le_mul_right sz (show k9+1≤n by omega)
     rw[Nat.add_mul]at h8;rw[Array.getElem?_append_left (by rw[List.size_toArray,fl];omega),List.getElem?_toArray]
     exact Euf.flat_get (f:=fun _=>z.cells.toList) hlf n (Nat.le_refl _) k9 j hk1 hj
    ·
     obtain⟨d,rfl⟩:∃d,k9=n+d:=⟨k9 - n,by omega⟩
     have e9:(n+d)*sz+j=n*sz+(d*sz+j):=by rw[Nat.add_mul];omega
     rw[e9,Array.getElem?_append_right (by rw[List.size_toArray,fl];omega),List.size_toArray,fl,Nat.add_sub_cancel_left]
     have h7:=zget d (by omega) j hj
     rw[Array.getElem?_toList]at h7;rw[h7]
end Sat
namespace Sat
open Euf (OL App)
structure FR (w:World) (g c nv:Nat) (v6 v7 v8 v13 v14:Value):Prop where
  bk:w.heap[g]?=some (.cells (cells0 v6 v7 v8 v13 v14 nv) 78 (0,0))
  o6:OL 1 111 w v6 (2*c) (fun _=>[.int .i8 0])
  o7:OL 1 131 w v7 (2*c) (fun _=>[.slice none 0 0])
  o8:OL 6 116 w v8 c (fun _=>[.int .i64 0,.int .i64 0,.int .i64 0,.int .i64 0,.bool false,.int .i8 0])
  o13:OL 1 3 w v13 c (fun _=>[.int .i64 0])
  o14:OL 1 2 w v14 c (fun _=>[.int .i64 0])
def Own5 (N:Nat) (v6 v7 v8 v13 v14:Value):Prop:=(∀b,v6.ownBlock=some b→N≤b)∧(∀b,v7.ownBlock=some b→N≤b)∧(∀b,v8.ownBlock=some b→N≤b)∧(∀b,v13.ownBlock=some b→N≤b)∧∀b,v14.ownBlock=some b→N≤b
section
variable {w w':World} {g c nv:Nat} {v6 v7 v8 v13 v14:Value}
theorem FR.lt (h:FR w g c nv v6 v7 v8 v13 v14):g<w.heap.size:=(Array.getElem?_eq_some_iff.1 h.bk).1
theorem ol_over {sz sz2:Nat} {e e2:TypeId} {v v2 v':Value} {n n2:Nat} {f f2:Nat→List Value} {z:Array Value} {i:Nat} (h:OL sz e w v n f) (h2:OL sz2 e2 w v2 n2 f2) (ap:App v2 v' w w') (he:e2≠e) (hb:w.heap[g]?=some (.cells z 78 (0,0))) (hg:e≠78):OL sz e (w'.setCell ⟨g,i,none⟩ v') v n f:=by
 refine h.stay (fun b hb9=>?_)
 have h1:b≠g:=fun e9=>h.neB hb hg (by rw[hb9,e9])
 rw[heap_setCell_other w' ⟨g,i,none⟩ b v' h1];exact ap.other b (h.lt hb9) (fun e9=>h2.ne h he (b:=b) e9 hb9)
theorem ol_self {sz:Nat} {e:TypeId} {v':Value} {n:Nat} {f:Nat→List Value} {z:Array Value} {i:Nat} (h:OL sz e w' v' n f) (hb:w'.heap[g]?=some (.cells z 78 (0,0))) (hg:e≠78):OL sz e (w'.setCell ⟨g,i,none⟩ v') v' n f :=
  h.stay (fun b hb9=>heap_setCell_other w' ⟨g,i,none⟩ b v' (fun e9=>h.neB hb hg (by rw[hb9,e9])))
theorem bk_over {sz2:Nat} {e2:TypeId} {v2 v':Value} {n2:Nat} {f2:Nat→List Value} {z:Array Value} (hb:w.heap[g]?=some (.cells z 78 (0,0))) (h2:OL sz2 e2 w v2 n2 f2) (ap:App v2 v' w w') (he:e2≠78):w'.heap[g]?=some (.cells z 78 (0,0)) :=
  (ap.other g (Array.getElem?_eq_some_iff.1 hb).1 (fun e9=>h2.neB hb he e9)).trans hb
theorem own_over {v2 v':Value} {N:Nat} (ap:App v2 v' w w') (h:∀b,v2.ownBlock=some b→N≤b) (hN:N≤w.heap.size):∀b,v'.ownBlock=some b→N≤b:=fun b hb=>by
  rcases ap.at_ with e|⟨b',e,h1⟩
  · exact h b (by rw[← e];exact hb)
  · rw[hb]at e;cases e;omega
theorem mv_over {v2 v':Value} {N i:Nat} (ap:App v2 v' w w') (h:∀b,v2.ownBlock=some b→N≤b) (hN:N≤w.heap.size) (hg:N≤g):Below N w (w'.setCell ⟨g,i,none⟩ v') :=
  ⟨ap.os,ap.tape,ap.output,by have:=ap.size;simp;omega,fun b hb=>by
    rw[heap_setCell_other w' ⟨g,i,none⟩ b v' (by show b≠g;omega)]
    exact ap.other b (by omega) (fun k=>absurd (h b k) (by omega))⟩
end
theorem oneI (k:IntKind) (n:Int):∀u∈(Value.int k n).cells.toList,u.oneCell'=true:=by intro u hu;simp[Value.cells]at hu;subst hu;rfl
theorem oneS:∀u∈(Value.slice none 0 0).cells.toList,u.oneCell'=true:=by intro u hu;simp[Value.cells]at hu;subst hu;rfl
theorem oneF:∀u∈(Value.agg #[.int .i64 0,.int .i64 0,.int .i64 0,.int .i64 0,.bool false,.int .i8 0]).cells.toList,u.oneCell'=true:=by
 intro u hu;have e:(Value.agg #[.int .i64 0,.int .i64 0,.int .i64 0,.int .i64 0,.bool false,.int .i8 0]).cells.toList=[.int .i64 0,.int .i64 0,.int .i64 0,.int .i64 0,.bool false,.int .i8 0]:=by rfl
 rw[e]at hu;simp at hu;rcases hu with rfl|rfl|rfl<;>rfl
set_option maxRecDepth 20000 in
set_option maxHeartbeats 8000000 in
theorem oroomF_any (N g c nv m n6 n8:Nat) (v6 v7 v8 v13 v14:Value) (w:World) (hb0:w.heap[g]?=some (.cells (cells0 v6 v7 v8 v13 v14 nv) 78 (0,0))) (h6:OL 1 111 w v6 n6 (fun _=>[.int .i8 0])) (h7:OL 1 131 w v7 n6 (fun _=>[.slice none 0 0])) (h8:OL 6 116 w v8 n8 (fun _=>[.int .i64 0,.int .i64 0,.int .i64 0,.int .i64 0,.bool false,.int .i8 0])) (h13:OL 1 3 w v13 c (fun _=>[.int .i64 0])) (h14:OL 1 2 w v14 c (fun _=>[.int .i64 0])) (hm:c+m≤6000) :
  Calls Tryz.prog 58 #[.pointer (some ⟨g,12,none⟩),.int .i64 (m:Nat)] w fun e w'=>e=.returned (.tuple #[])∧∃v13' v14',w'.heap[g]?=some (.cells (cells0 v6 v7 v8 v13' v14' nv) 78 (0,0))∧OL 1 3 w' v13' (c+m) (fun _=>[.int .i64 0])∧OL 1 2 w' v14' (c+m) (fun _=>[.int .i64 0]) ∧
   OL 1 111 w' v6 n6 (fun _=>[.int .i8 0])∧OL 1 131 w' v7 n6 (fun _=>[.slice none 0 0])∧OL 6 116 w' v8 n8 (fun _=>[.int .i64 0,.int .i64 0,.int .i64 0,.int .i64 0,.bool false,.int .i8 0])∧(N≤w.heap.size→N≤g→Own5 N v6 v7 v8 v13 v14→Own5 N v6 v7 v8 v13' v14'∧Below N w w'):=by
 have hlg:g<w.heap.size:=(Array.getElem?_eq_some_iff.1 hb0).1;obtain⟨q13,c13,hv13,-⟩:=h13.shape;obtain⟨q14,c14,hv14,-⟩:=h14.shape;subst hv13 hv14;obtain⟨v1,w1,r1,o1,a1⟩:=run_zeros (P:=Tryz.prog) w 35 3 35 3 (.int .i64 0) 1 8 .i64 .i64 u_cloneI uIntT i_cloneI rfl (by decide) (by decide) (oneI _ _) (.slice q13 c c13) c h13 m (by omega) ((m:Nat):Int) rfl
 have o1:OL 1 3 w1 v1 (c+m) (fun _=>[.int .i64 0]):=o1
 have hb1:=bk_over hb0 h13 a1 (by decide)
 obtain⟨q1,c1,hv1,-⟩:=o1.shape;subst hv1;have hb2:(w1.setCell ⟨g,13,none⟩ (.slice q1 (c+m) c1)).heap[g]?=some (.cells (cells0 v6 v7 v8 (.slice q1 (c+m) c1) (.slice q14 c c14) nv) 78 (0,0)):=heap_setCell_same w1 g 13 _ 78 _ hb1;have s13:=ol_self (i:=13) o1 hb1 (by decide)
 have s14:=ol_over (i:=13) h14 h13 a1 (by decide) hb0 (by decide)
 have s6:=ol_over (i:=13) h6 h13 a1 (by decide) hb0 (by decide)
 have s7:=ol_over (i:=13) h7 h13 a1 (by decide) hb0 (by decide)
 have s8:=ol_over (i:=13) h8 h13 a1 (by decide) hb0 (by decide)
 have mv1:∀N,N≤w.heap.size→N≤g→(∀b,(Value.slice q13 c c13).ownBlock=some b→N≤b)→Below N w (w1.setCell ⟨g,13,none⟩ (.slice q1 (c+m) c1))∧∀b,(Value.slice q1 (c+m) c1).ownBlock=some b→N≤b:=fun N h1 h2 h3=>⟨mv_over a1 h3 h1 h2,own_over a1 h3 h1⟩
 obtain⟨w2,hw2⟩:∃w2,w1.setCell ⟨g,13,none⟩ (.slice q1 (c+m) c1)=w2:=⟨_,rfl⟩;rw[hw2]at hb2 s13 s14 s6 s7 s8 mv1;obtain⟨v3,w3,r3,o3,a3⟩:=run_zeros (P:=Tryz.prog) w2 54 3 54 2 (.int .i64 0) 1 8 .i64 .i64 uI64s uIntT nI64 rfl (by decide) (by decide) (oneI _ _) (.slice q14 c c14) c s14 m (by omega) ((m:Nat):Int) rfl
 have o3:OL 1 2 w3 v3 (c+m) (fun _=>[.int .i64 0]):=o3
 have hb3:=bk_over hb2 s14 a3 (by decide)
 obtain⟨q3,c3,hv3,-⟩:=o3.shape;subst hv3;have hb4:(w3.setCell ⟨g,14,none⟩ (.slice q3 (c+m) c3)).heap[g]?=some (.cells (cells0 v6 v7 v8 (.slice q1 (c+m) c1) (.slice q3 (c+m) c3) nv) 78 (0,0)):=heap_setCell_same w3 g 14 _ 78 _ hb3;have HE:Hid (∃v13' v14',(w3.setCell ⟨g,14,none⟩ (.slice q3 (c+m) c3)).heap[g]?=some (.cells (cells0 v6 v7 v8 v13' v14' nv) 78 (0,0))∧OL 1 3 (w3.setCell ⟨g,14,none⟩ (.slice q3 (c+m) c3)) v13' (c+m) (fun _=>[.int .i64 0])∧OL 1 2 (w3.setCell ⟨g,14,none⟩ (.slice q3 (c+m) c3)) v14' (c+m) (fun _=>[.int .i64 0]) ∧
   OL 1 111 (w3.setCell ⟨g,14,none⟩ (.slice q3 (c+m) c3)) v6 n6 (fun _=>[.int .i8 0])∧OL 1 131 (w3.setCell ⟨g,14,none⟩ (.slice q3 (c+m) c3)) v7 n6 (fun _=>[.slice none 0 0])∧OL 6 116 (w3.setCell ⟨g,14,none⟩ (.slice q3 (c+m) c3)) v8 n8 (fun _=>[.int .i64 0,.int .i64 0,.int .i64 0,.int .i64 0,.bool false,.int .i8 0])∧(N≤w.heap.size→N≤g→Own5 N v6 v7 v8 (.slice q13 c c13) (.slice q14 c c14)→Own5 N v6 v7 v8 v13' v14'∧Below N w (w3.setCell ⟨g,14,none⟩ (.slice q3 (c+m) c3)))):=by
  refine⟨_,_,hb4,ol_over (i:=14) s13 s14 a3 (by decide) hb2 (by decide),ol_self (i:=14) o3 hb3 (by decide),ol_over (i:=14) s6 s14 a3 (by decide) hb2 (by decide),ol_over (i:=14) s7 s14 a3 (by decide) hb2 (by decide),ol_over (i:=14) s8 s14 a3 (by decide) hb2 (by decide),?_⟩
  rintro n1 n2 ⟨w6,w7,w8,w13,w14⟩;obtain⟨m1,m2⟩:=mv1 N n1 n2 w13;have n3:=Nat.le_trans n1 m1.size;exact⟨⟨w6,w7,w8,m2,own_over a3 w14 n3⟩,m1.trans (mv_over a3 w14 n3 n2)⟩
 have k13:w.cell? ⟨g,13,none⟩=some (.slice q13 c c13):=cell_of_row w g 13 _ _ (0,0) hb0;have k13':w1.cell? ⟨g,13,none⟩=some (.slice q13 c c13):=cell_of_row w1 g 13 _ _ (0,0) hb1;have f13:w1.frozen? ⟨g,13,none⟩=false:=frozen_of_row w1 g 13 _ _ hb1;have k14:w2.cell? ⟨g,14,none⟩=some (.slice q14 c c14):=cell_of_row w2 g 14 _ _ (0,0) hb2;have k14':w3.cell? ⟨g,14,none⟩=some (.slice q14 c c14):=cell_of_row w3 g 14 _ _ (0,0) hb3;have f14:w3.frozen? ⟨g,14,none⟩=false:=frozen_of_row w3 g 14 _ _ hb3;have l1:g<w1.heap.size:=(Array.getElem?_eq_some_iff.1 hb1).1;have l2:g<w2.heap.size:=(Array.getElem?_eq_some_iff.1 hb2).1;have l3:g<w3.heap.size:=(Array.getElem?_eq_some_iff.1 hb3).1;clear hb0 h6 h7 h8 h13 h14 hb1 hb2 hb3 hb4 o1 a1 o3 a3 s13 s14 s6 s7 s8 mv1;generalize hnn:((m:Nat):Int)=M at *;clear hnn;go_enter Tryz.func58,Tryz.ntmps58;go_wp2_with (first|(at_builtin;refine Lib.wpList_append_run _ rfl _ _ _ _ rfl _ _ rfl rfl _ _ r1 ?_)|(at_builtin;refine Lib.wpList_append_run _ rfl _ _ _ _ rfl _ _ rfl rfl _ _ r3 ?_))
 go_end0
 exact⟨rfl,HE.out⟩
end Sat
end Go.Proofs.YtbmkkhpoaicclabGreat
