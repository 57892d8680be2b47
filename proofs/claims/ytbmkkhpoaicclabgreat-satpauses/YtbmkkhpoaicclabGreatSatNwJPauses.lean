/- A solver is made; it proves no statement of the seat. -/
import Derived.Test.YtbmkkhpoaicclabGreatJoin21Pauses
import Derived.Lib.AppendZeros
namespace Go.Proofs.YtbmkkhpoaicclabGreat
open Go.RowKit
set_option linter.unusedVariables false
namespace Sat
open Euf (OL App)
theorem zeroCells_get (z:Array Value) (n i j:Nat) (hi:i < n) (hj:j < z.size):(Builtin.zeroCells z n)[i*z.size + j]?=z[j]?:=by
 have h1:i*z.size + j < n*z.size:=by
  have:=Nat.mul_le_mul_right z.size (show i + 1≤n by omega)
  rw [Nat.add_mul] at this;omega
 have h2:(i*z.size + j) % z.size=j:=by rw [Nat.mul_add_mod_self_right,Nat.mod_eq_of_lt hj]
 unfold Builtin.zeroCells;rw [Array.getElem?_map,Array.getElem?_range,if_pos h1,Option.map_some,h2,getElem!_pos z j hj,Array.getElem?_eq_getElem hj]
theorem run_zeros_nil {P:Program} (w:World) (t tn ty e:TypeId) (z:Value) (sz bytes:Nat) (k kn:IntKind) (ht:P.underlying t=some (.slice e)) (htn:P.underlying tn=some (.int kn)) (h2:(P.info? e).map (fun i=>(i.zero,i.size,i.bytes))=some (some z,sz,bytes)) (hzs:z.cells.size=sz) (hs:0 < sz) (hby:bytes≤1000) (n:Nat) (h0:0 < n) (hn:n≤20000) (x:Int) (hx:x=(n:Int)) :
  ∃ v' w',(Builtin.append_ #[t,tn] ty #[.slice none 0 0,.int k x]).run P w=.ok v' w'∧OL sz e w' v' n (fun _=>z.cells.toList)∧App (.slice none 0 0) v' w w'∧v'.ownBlock=some w.heap.size∧w'.heap.size=w.heap.size + 1:=by
 subst hx;obtain ⟨i,hi,hz0,hz1,hz2⟩:=info_parts h2;have hmx:2000000000≤maxLen:=by unfold maxLen;decide
 have b1:n*i.bytes≤20000*1000:=Nat.mul_le_mul hn (by omega)
 have hr:=Lib.run_append_nil_zeros (P:=P) w t tn ty e i z k kn ht htn hi hz0 n h0 (by omega) (by omega) (by omega)
 have hge:=grownCap_ge w n 0 e;have hle:=grownCap_le_maxLen w n 0 e (by omega)
 refine ⟨_,_,hr,Or.inr ⟨w.heap.size,_,_,rfl,by show (w.heap.push _)[w.heap.size]?=_;simp;rfl,hge,hle,?_,fun i' hi' j hj=>?_⟩,?_,rfl,by show (w.heap.push _).size=_;simp⟩
 · rw [Array.size_append,size_zeroCells,size_zeroCells,hzs,← Nat.add_mul];congr 1;omega
 ·
  have h1:i'*sz + j < n*sz:=by
   have:=Nat.mul_le_mul_right sz (show i' + 1≤n by omega)
   rw [Nat.add_mul] at this;omega
  rw [Array.getElem?_append_left (by rw [size_zeroCells,hzs];exact h1)]
  have h9:=zeroCells_get z.cells n i' j hi' (by omega)
  rw [hzs] at h9;rw [h9];simp
 · exact ⟨rfl,rfl,rfl,by show _≤(w.heap.push _).size;simp,fun b hb _=>by show (w.heap.push _)[b]?=_;rw [Array.getElem?_push,if_neg (by omega)],Or.inr ⟨w.heap.size,rfl,Nat.le_refl _⟩⟩
def fresh (n:Nat):Dt:={ nv:=n, added:=0, nc:=0, C:=fun _=>⟨[], 0, 0, []⟩, Q:=[], clash:=-1, refuted:=false, V:=fun _=>0, W:=fun _=>[], F:=fun _=>⟨0, 0, 0, 0, false, 0⟩, T:=[], S:=[], head:=0, hp:=[], at_:=fun _=>0, bz:=fun _=>0, wt:=256, mks:=[], steps:=0, mo:=[] }
def aF (v6 v7 v8 v13 v14:Value) (k:Key):Value:=match k.1 with
  | 0=>v6
  | 1=>v7
  | 2=>v8
  | 6=>v13
  | 7=>v14
  | _=>.slice none 0 0
theorem aF_own {v6 v7 v8 v13 v14:Value} {k:Key} {b:Nat} (h:(aF v6 v7 v8 v13 v14 k).ownBlock=some b):(k.1=0∧v6.ownBlock=some b)∨(k.1=1∧v7.ownBlock=some b)∨(k.1=2∧v8.ownBlock=some b)∨(k.1=6∧v13.ownBlock=some b)∨(k.1=7∧v14.ownBlock=some b):=by
 obtain ⟨i,j⟩:=k;unfold aF at h;split at h
 · next e=>exact Or.inl ⟨e,h⟩
 · next e=>exact Or.inr (Or.inl ⟨e,h⟩)
 · next e=>exact Or.inr (Or.inr (Or.inl ⟨e,h⟩))
 · next e=>exact Or.inr (Or.inr (Or.inr (Or.inl ⟨e,h⟩)))
 · next e=>exact Or.inr (Or.inr (Or.inr (Or.inr ⟨e,h⟩)))
 · cases h
theorem SW.fresh_ {w:World} {g n b6 b7 b8 b13 b14:Nat} {v6 v7 v8 v13 v14:Value} (hb:w.heap[g]?=some (.cells (cellsOf (fresh n) (aF v6 v7 v8 v13 v14)) 78 (0,0)))
  (o6:OL 1 111 w v6 (2*(n + 1)) (fun _=>[.int .i8 0])) (o7:OL 1 131 w v7 (2*(n + 1)) (fun _=>[.slice none 0 0])) (o8:OL 6 116 w v8 (n + 1) (fun _=>[.int .i64 0,.int .i64 0,.int .i64 0,.int .i64 0,.bool false,.int .i8 0])) (o13:OL 1 3 w v13 (n + 1) (fun _=>[.int .i64 0])) (o14:OL 1 2 w v14 (n + 1) (fun _=>[.int .i64 0]))
  (e6:v6.ownBlock=some b6) (e7:v7.ownBlock=some b7) (e8:v8.ownBlock=some b8) (e13:v13.ownBlock=some b13) (e14:v14.ownBlock=some b14) (l1:b6 < b7) (l2:b7 < b8) (l3:b8 < b13) (l4:b13 < b14):SW w g (fresh n) (aF v6 v7 v8 v13 v14):=by
 refine ⟨hb,?_,?_⟩
 ·
  rintro ⟨i,j⟩ hk;match i,hk with
  | 0,_=>exact o6
  | 1,_=>exact o7
  | 2,_=>exact o8
  | 3,_=>exact OL.nil _ _ _ _
  | 4,_=>exact OL.nil _ _ _ _
  | 5,_=>exact OL.nil _ _ _ _
  | 6,_=>exact o13
  | 7,_=>exact o14
  | 8,_=>exact OL.nil _ _ _ _
  | 9,_=>exact OL.nil _ _ _ _
  | 10,_=>exact OL.nil _ _ _ _
  | 11,_=>exact OL.nil _ _ _ _
  | 12,hk=>exact absurd hk (Nat.not_lt_zero _)
  | 13,_=>exact OL.nil _ _ _ _
  | 14,hk=>exact absurd hk (Nat.not_lt_zero _)
  | m + 15,hk=>exact absurd hk.1 (by show ¬ (m + 15 < 12);omega)
 ·
  rintro ⟨i,i'⟩ ⟨j,j'⟩ b hi hj h1 h2;rw [rows_v] at h1 h2;have z0:∀ {i i':Nat},dom (fresh n) (i,i')→i < 12→i'=0:=fun {i i'} h hl=>by
   match i,h,hl with
   | 0,h,_=>exact h.2
   | 1,h,_=>exact h.2
   | 2,h,_=>exact h.2
   | 3,h,_=>exact h.2
   | 4,h,_=>exact h.2
   | 5,h,_=>exact h.2
   | 6,h,_=>exact h.2
   | 7,h,_=>exact h.2
   | 8,h,_=>exact h.2
   | 9,h,_=>exact h.2
   | 10,h,_=>exact h.2
   | 11,h,_=>exact h.2
   | m + 12,_,hl=>omega
  have key:∀ {i i':Nat},dom (fresh n) (i,i')→(aF v6 v7 v8 v13 v14 (i,i')).ownBlock=some b→i'=0∧((i=0∧b=b6)∨(i=1∧b=b7)∨(i=2∧b=b8)∨(i=6∧b=b13)∨(i=7∧b=b14)):=fun {i i'} hd h=>by
   have h9:(i=0∧b=b6)∨(i=1∧b=b7)∨(i=2∧b=b8)∨(i=6∧b=b13)∨(i=7∧b=b14):=by
    rcases aF_own h with ⟨k1,k2⟩ | ⟨k1,k2⟩ | ⟨k1,k2⟩ | ⟨k1,k2⟩ | ⟨k1,k2⟩
    · rw [e6] at k2;injection k2 with k2;exact Or.inl ⟨k1,k2.symm⟩
    · rw [e7] at k2;injection k2 with k2;exact Or.inr (Or.inl ⟨k1,k2.symm⟩)
    · rw [e8] at k2;injection k2 with k2;exact Or.inr (Or.inr (Or.inl ⟨k1,k2.symm⟩))
    · rw [e13] at k2;injection k2 with k2;exact Or.inr (Or.inr (Or.inr (Or.inl ⟨k1,k2.symm⟩)))
    · rw [e14] at k2;injection k2 with k2;exact Or.inr (Or.inr (Or.inr (Or.inr ⟨k1,k2.symm⟩)))
   exact ⟨z0 hd (by omega),h9⟩
  obtain ⟨p1,p2⟩:=key hi h1;obtain ⟨q1,q2⟩:=key hj h2;have:i=j:=by omega
  rw [this,p1,q1]
theorem fresh_idl (n:Nat):Idl (fresh n) [] 0 []:=by
 have ti:TI n (fun _=>0) [] [] (fun _=>⟨0,0,0,0,false,0⟩) 0 (fun _=>(⟨[],0,0,[]⟩:Cl)):=⟨fun l hl=>(by cases hl),List.nodup_nil,fun l hl=>by simp [vl],List.Pairwise.nil,fun s hs=>(by cases hs),fun i h=>absurd h (Nat.not_lt_zero _),fun i h=>absurd h (Nat.not_lt_zero _),fun i h=>absurd h (Nat.not_lt_zero _),fun i h=>absurd h (Nat.not_lt_zero _)⟩
 have ci:CI n 0 (fun _=>(⟨[],0,0,[]⟩:Cl)):=⟨fun c h=>absurd h (Nat.not_lt_zero _),fun c h=>absurd h (Nat.not_lt_zero _)⟩
 have wi:WI n 0 (fun _=>(⟨[],0,0,[]⟩:Cl)) (fun _=>[]):=⟨fun l hl p hp=>(by cases hp),fun l hl=>List.nodup_nil⟩
 refine ⟨⟨fun _=>rfl,rfl,fun L hL=>(by cases hL),List.nodup_nil,fun x hx=>(by cases hx),fun x hx=>(by cases hx),fun u hu=>(by cases hu),rfl,rfl⟩,⟨⟨ti,ci,fun c h=>absurd h (Nat.not_lt_zero _),fun t ht=>(by cases ht),fun c h=>absurd h (Nat.not_lt_zero _),Nat.zero_le _⟩,wi,fun l hl p hp=>(by cases hp),⟨?_,fun v hv=>(by cases hv),fun u hu=>(by cases hu),fun u hu=>(by cases hu),List.nodup_nil⟩,rfl,Or.inl ⟨rfl,ti,ci,wi,fun l hl p hp=>(by cases hp),fun c h=>absurd h (Nat.not_lt_zero _),fun c h=>absurd h (Nat.not_lt_zero _),Nat.le_refl _,fun s hs=>(by cases hs),fun c h=>absurd h (Nat.not_lt_zero _),fun t ht=>by cases ht⟩⟩⟩
 exact ⟨fun i h=>absurd h (Nat.not_lt_zero _),fun v _ h=>absurd rfl h,fun v hv=>(by cases hv)⟩
end Sat
end Go.Proofs.YtbmkkhpoaicclabGreat
