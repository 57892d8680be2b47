/- Joined: SatNw, SatRm, SatRo, SatSr: words and contracts; no statement of the seat is proved here. -/
import Derived.Test.YtbmkkhpoaicclacGreatJoin21Stays
import Derived.Lib.AppendZeros
import Derived.Test.YtbmkkhpoaicclacGreatJoin14Stays
namespace Go.Proofs.YtbmkkhpoaicclacGreat
open Go.RowKit
set_option linter.unusedVariables false
namespace Sat
open Euf (OL App)
theorem zeroCells_get (z:Array Value) (n i j:Nat) (hi:i < n) (hj:j < z.size):(Builtin.zeroCells z n)[i*z.size + j]?=z[j]?:=by
 have h1:i*z.size + j < n*z.size:=by
  have:=Nat.mul_le_mul_right z.size (show i + 1≤n by omega)
  rw [Nat.add_mul] at this;omega
 have h2:(i*z.size + j) % z.size=j:=by rw [Nat.mul_add_mod_self_right,Nat.mod_eq_of_lt hj]
 unfold Builtin.zeroCells;rw [Array.getElem?_map,Array.getElem?_range,if_pos h1,Option.map_some,h2,getElem!_pos z j hj,Array.getElem?_eq_getElem hj]
theorem run_zeros_nil {P:Program} (w:World) (t tn ty e:TypeId) (z:Value) (sz bytes:Nat) (k kn:IntKind) (ht:P.underlying t=some (.slice e)) (htn:P.underlying tn=some (.int kn)) (h2:(P.info? e).map (fun i=>(i.zero,i.size,i.bytes))=some (some z,sz,bytes)) (hzs:z.cells.size=sz) (hs:0 < sz) (hby:bytes≤1000) (n:Nat) (h0:0 < n) (hn:n≤20000) (x:Int) (hx:x=(n:Int)) :
  ∃ v' w',(Builtin.append_ #[t,tn] ty #[.slice none 0 0,.int k x]).run P w=.ok v' w'∧OL sz e w' v' n (fun _=>z.cells.toList)∧App (.slice none 0 0) v' w w'∧v'.ownBlock=some w.heap.size∧w'.heap.size=w.heap.size + 1:=by
 subst hx;obtain ⟨i,hi,hz0,hz1,hz2⟩:=info_parts h2;have hmx:2000000000≤maxLen:=by unfold maxLen;decide
 have b1:n*i.bytes≤20000*1000:=Nat.mul_le_mul hn (by omega)
 have hr:=Lib.run_append_nil_zeros (P:=P) w t tn ty e i z k kn ht htn hi hz0 n h0 (by omega) (by omega) (by omega)
 have hge:=grownCap_ge w n 0 e;have hle:=grownCap_le_maxLen w n 0 e (by omega)
 refine ⟨_,_,hr,Or.inr ⟨w.heap.size,_,_,rfl,by show (w.heap.push _)[w.heap.size]?=_;simp;rfl,hge,hle,?_,fun i' hi' j hj=>?_⟩,?_,rfl,by show (w.heap.push _).size=_;simp⟩
 · rw [Array.size_append,size_zeroCells,size_zeroCells,hzs,← Nat.add_mul];congr 1;omega
 ·
  have h1:i'*sz + j < n*sz:=by
   have:=Nat.mul_le_mul_right sz (show i' + 1≤n by omega)
   rw [Nat.add_mul] at this;omega
  rw [Array.getElem?_append_left (by rw [size_zeroCells,hzs];exact h1)]
  have h9:=zeroCells_get z.cells n i' j hi' (by omega)
  rw [hzs] at h9;rw [h9];simp
 · exact ⟨rfl,rfl,rfl,by show _≤(w.heap.push _).size;simp,fun b hb _=>by show (w.heap.push _)[b]?=_;rw [Array.getElem?_push,if_neg (by omega)],Or.inr ⟨w.heap.size,rfl,Nat.le_refl _⟩⟩
def fresh (n:Nat):Dt:={ nv:=n, added:=0, nc:=0, C:=fun _=>⟨[], 0, 0, []⟩, Q:=[], clash:=-1, refuted:=false, V:=fun _=>0, W:=fun _=>[], F:=fun _=>⟨0, 0, 0, 0, false, 0⟩, T:=[], S:=[], head:=0, hp:=[], at_:=fun _=>0, bz:=fun _=>0, wt:=256, mks:=[], steps:=0, mo:=[] }
def aF (v6 v7 v8 v13 v14:Value) (k:Key):Value:=match k.1 with
  | 0=>v6
  | 1=>v7
  | 2=>v8
  | 6=>v13
  | 7=>v14
  | _=>.slice none 0 0
theorem aF_own {v6 v7 v8 v13 v14:Value} {k:Key} {b:Nat} (h:(aF v6 v7 v8 v13 v14 k).ownBlock=some b):(k.1=0∧v6.ownBlock=some b)∨(k.1=1∧v7.ownBlock=some b)∨(k.1=2∧v8.ownBlock=some b)∨(k.1=6∧v13.ownBlock=some b)∨(k.1=7∧v14.ownBlock=some b):=by
 obtain ⟨i,j⟩:=k;unfold aF at h;split at h
 · next e=>exact Or.inl ⟨e,h⟩
 · next e=>exact Or.inr (Or.inl ⟨e,h⟩)
 · next e=>exact Or.inr (Or.inr (Or.inl ⟨e,h⟩))
 · next e=>exact Or.inr (Or.inr (Or.inr (Or.inl ⟨e,h⟩)))
 · next e=>exact Or.inr (Or.inr (Or.inr (Or.inr ⟨e,h⟩)))
 · cases h
theorem SW.fresh_ {w:World} {g n b6 b7 b8 b13 b14:Nat} {v6 v7 v8 v13 v14:Value} (hb:w.heap[g]?=some (.cells (cellsOf (fresh n) (aF v6 v7 v8 v13 v14)) 68 (0,0)))
  (o6:OL 1 95 w v6 (2*(n + 1)) (fun _=>[.int .i8 0])) (o7:OL 1 116 w v7 (2*(n + 1)) (fun _=>[.slice none 0 0])) (o8:OL 6 102 w v8 (n + 1) (fun _=>[.int .i64 0,.int .i64 0,.int .i64 0,.int .i64 0,.bool false,.int .i8 0])) (o13:OL 1 3 w v13 (n + 1) (fun _=>[.int .i64 0])) (o14:OL 1 2 w v14 (n + 1) (fun _=>[.int .i64 0]))
  (e6:v6.ownBlock=some b6) (e7:v7.ownBlock=some b7) (e8:v8.ownBlock=some b8) (e13:v13.ownBlock=some b13) (e14:v14.ownBlock=some b14) (l1:b6 < b7) (l2:b7 < b8) (l3:b8 < b13) (l4:b13 < b14):SW w g (fresh n) (aF v6 v7 v8 v13 v14):=by
 refine ⟨hb,?_,?_⟩
 ·
  rintro ⟨i,j⟩ hk;match i,hk with
  | 0,_=>exact o6
  | 1,_=>exact o7
  | 2,_=>exact o8
  | 3,_=>exact OL.nil _ _ _ _
  | 4,_=>exact OL.nil _ _ _ _
  | 5,_=>exact OL.nil _ _ _ _
  | 6,_=>exact o13
  | 7,_=>exact o14
  | 8,_=>exact OL.nil _ _ _ _
  | 9,_=>exact OL.nil _ _ _ _
  | 10,_=>exact OL.nil _ _ _ _
  | 11,_=>exact OL.nil _ _ _ _
  | 12,hk=>exact absurd hk (Nat.not_lt_zero _)
  | 13,_=>exact OL.nil _ _ _ _
  | 14,hk=>exact absurd hk (Nat.not_lt_zero _)
  | m + 15,hk=>exact absurd hk.1 (by show ¬ (m + 15 < 12);omega)
 ·
  rintro ⟨i,i'⟩ ⟨j,j'⟩ b hi hj h1 h2;rw [rows_v] at h1 h2;have z0:∀ {i i':Nat},dom (fresh n) (i,i')→i < 12→i'=0:=fun {i i'} h hl=>by
   match i,h,hl with
   | 0,h,_=>exact h.2
   | 1,h,_=>exact h.2
   | 2,h,_=>exact h.2
   | 3,h,_=>exact h.2
   | 4,h,_=>exact h.2
   | 5,h,_=>exact h.2
   | 6,h,_=>exact h.2
   | 7,h,_=>exact h.2
   | 8,h,_=>exact h.2
   | 9,h,_=>exact h.2
   | 10,h,_=>exact h.2
   | 11,h,_=>exact h.2
   | m + 12,_,hl=>omega
  have key:∀ {i i':Nat},dom (fresh n) (i,i')→(aF v6 v7 v8 v13 v14 (i,i')).ownBlock=some b→i'=0∧((i=0∧b=b6)∨(i=1∧b=b7)∨(i=2∧b=b8)∨(i=6∧b=b13)∨(i=7∧b=b14)):=fun {i i'} hd h=>by
   have h9:(i=0∧b=b6)∨(i=1∧b=b7)∨(i=2∧b=b8)∨(i=6∧b=b13)∨(i=7∧b=b14):=by
    rcases aF_own h with ⟨k1,k2⟩ | ⟨k1,k2⟩ | ⟨k1,k2⟩ | ⟨k1,k2⟩ | ⟨k1,k2⟩
    · rw [e6] at k2;injection k2 with k2;exact Or.inl ⟨k1,k2.symm⟩
    · rw [e7] at k2;injection k2 with k2;exact Or.inr (Or.inl ⟨k1,k2.symm⟩)
    · rw [e8] at k2;injection k2 with k2;exact Or.inr (Or.inr (Or.inl ⟨k1,k2.symm⟩))
    · rw [e13] at k2;injection k2 with k2;exact Or.inr (Or.inr (Or.inr (Or.inl ⟨k1,k2.symm⟩)))
    · rw [e14] at k2;injection k2 with k2;exact Or.inr (Or.inr (Or.inr (Or.inr ⟨k1,k2.symm⟩)))
   exact ⟨z0 hd (by omega),h9⟩
  obtain ⟨p1,p2⟩:=key hi h1;obtain ⟨q1,q2⟩:=key hj h2;have:i=j:=by omega
  rw [this,p1,q1]
theorem fresh_idl (n:Nat):Idl (fresh n) [] 0 []:=by
 have ti:TI n (fun _=>0) [] [] (fun _=>⟨0,0,0,0,false,0⟩) 0 (fun _=>(⟨[],0,0,[]⟩:Cl)):=⟨fun l hl=>(by cases hl),List.nodup_nil,fun l hl=>by simp [vl],List.Pairwise.nil,fun s hs=>(by cases hs),fun i h=>absurd h (Nat.not_lt_zero _),fun i h=>absurd h (Nat.not_lt_zero _),fun i h=>absurd h (Nat.not_lt_zero _),fun i h=>absurd h (Nat.not_lt_zero _)⟩
 have ci:CI n 0 (fun _=>(⟨[],0,0,[]⟩:Cl)):=⟨fun c h=>absurd h (Nat.not_lt_zero _),fun c h=>absurd h (Nat.not_lt_zero _)⟩
 have wi:WI n 0 (fun _=>(⟨[],0,0,[]⟩:Cl)) (fun _=>[]):=⟨fun l hl p hp=>(by cases hp),fun l hl=>List.nodup_nil⟩
 refine ⟨⟨fun _=>rfl,rfl,fun L hL=>(by cases hL),List.nodup_nil,fun x hx=>(by cases hx),fun x hx=>(by cases hx),fun u hu=>(by cases hu),rfl,rfl⟩,⟨⟨ti,ci,fun c h=>absurd h (Nat.not_lt_zero _),fun t ht=>(by cases ht),fun c h=>absurd h (Nat.not_lt_zero _),Nat.zero_le _⟩,wi,fun l hl p hp=>(by cases hp),⟨?_,fun v hv=>(by cases hv),fun u hu=>(by cases hu),fun u hu=>(by cases hu),List.nodup_nil⟩,rfl,Or.inl ⟨rfl,ti,ci,wi,fun l hl p hp=>(by cases hp),fun c h=>absurd h (Nat.not_lt_zero _),fun c h=>absurd h (Nat.not_lt_zero _),Nat.le_refl _,fun s hs=>(by cases hs),fun c h=>absurd h (Nat.not_lt_zero _),fun t ht=>by cases ht⟩⟩⟩
 exact ⟨fun i h=>absurd h (Nat.not_lt_zero _),fun v _ h=>absurd rfl h,fun v hv=>(by cases hv)⟩
end Sat
open Go Go.RowKit
namespace Sat
open Euf (OL App)
theorem uI8s:Tryz.prog.underlying 45=some (.slice 95):=by kernel_rfl
theorem nI8:(Tryz.prog.info? 95).map (fun i=>(i.zero,i.size,i.bytes))=some (some (.int .i8 0),1,1):=by kernel_rfl
theorem uWss:Tryz.prog.underlying 46=some (.slice 116):=by kernel_rfl
theorem nWs:(Tryz.prog.info? 116).map (fun i=>(i.zero,i.size,i.bytes))=some (some (.slice none 0 0),1,24):=by kernel_rfl
theorem uFas:Tryz.prog.underlying 47=some (.slice 102):=by kernel_rfl
theorem nFa:(Tryz.prog.info? 102).map (fun i=>(i.zero,i.size,i.bytes))=some (some (.agg #[.int .i64 0,.int .i64 0,.int .i64 0,.int .i64 0,.bool false,.int .i8 0]),6,40):=by kernel_rfl
theorem uI64s:Tryz.prog.underlying 49=some (.slice 2):=by kernel_rfl
theorem nI64:(Tryz.prog.info? 2).map (fun i=>(i.zero,i.size,i.bytes))=some (some (.int .i64 0),1,8):=by kernel_rfl
theorem uIntT:Tryz.prog.underlying 3=some (.int .i64):=by kernel_rfl
def cells0 (v6 v7 v8 v13 v14:Value) (n:Nat):Array Value:=#[.int .i64 (n:Nat), .int .i64 0, .slice none 0 0, .slice none 0 0, .int .i64 (-1), .bool false, v6, v7, v8, .slice none 0 0, .slice none 0 0, .int .i64 0, .slice none 0 0, v13, v14, .int .i64 256, .slice none 0 0, .int .i64 0, .slice none 0 0, .int .u32 0, .int .i32 0, .int .u32 0, .slice none 0 0]
theorem OL.app {sz:Nat} {e:TypeId} {v:Value} {n:Nat} {f:Nat→List Value} {w w':World} {x y:Value} (h:OL sz e w v n f) (a:App x y w w') (hx:∀ b, v.ownBlock=some b→x.ownBlock≠some b):OL sz e w' v n f:=h.stay (fun b hb=>a.other b (h.lt hb) (hx b hb))
theorem OL.setg {sz:Nat} {e:TypeId} {v:Value} {n:Nat} {f:Nat→List Value} {w:World} (h:OL sz e w v n f) {g i:Nat} (x:Value) (hx:v.ownBlock≠some g):OL sz e (w.setCell ⟨g, i, none⟩ x) v n f:=h.stay (fun b hb=>heap_setCell_other w ⟨g, i, none⟩ b x (fun e=>hx (by rw [hb]; exact congrArg some e)))
set_option maxRecDepth 20000 in
set_option maxHeartbeats 8000000 in
theorem oroom_any (g n:Nat) (v6 v7 v8:Value) (w:World) (hb:w.heap[g]?=some (.cells (cells0 v6 v7 v8 (.slice none 0 0) (.slice none 0 0) 0) 68 (0,0))) (hn:n≤5000) :
  Calls Tryz.prog 63 #[.pointer (some ⟨g,12,none⟩),.int .i64 ((n + 1:Nat):Int)] w fun e w'=>e=.returned (.tuple #[])∧∃ v13 v14,w'.heap[g]?=some (.cells (cells0 v6 v7 v8 v13 v14 0) 68 (0,0))∧OL 1 3 w' v13 (n + 1) (fun _=>[.int .i64 0])∧OL 1 2 w' v14 (n + 1) (fun _=>[.int .i64 0])∧v13.ownBlock=some w.heap.size∧v14.ownBlock=some (w.heap.size + 1)∧Mv (fun b=>b=g) w w':=by
 have hlg:g < w.heap.size:=(Array.getElem?_eq_some_iff.1 hb).1;obtain ⟨v1,w1,r1,o1,a1,e1,z1⟩:=run_zeros_nil (P:=Tryz.prog) w 37 3 37 3 (.int .i64 0) 1 8 .i64 .i64 u_cloneI uIntT i_cloneI rfl (by decide) (by decide) (n + 1) (by omega) (by omega) ((n + 1:Nat):Int) rfl
 have hb1:w1.heap[g]?=some (.cells (cells0 v6 v7 v8 (.slice none 0 0) (.slice none 0 0) 0) 68 (0,0)):=(a1.other g hlg (fun e=>by cases e)).trans hb
 obtain ⟨q1,c1,hv1,-⟩:=o1.shape;subst hv1;have hb2:(w1.setCell ⟨g,13,none⟩ (.slice q1 (n + 1) c1)).heap[g]?=some (.cells (cells0 v6 v7 v8 (.slice q1 (n + 1) c1) (.slice none 0 0) 0) 68 (0,0)):=heap_setCell_same w1 g 13 _ 68 _ hb1;obtain ⟨w2,hw2⟩:∃ w2,w1.setCell ⟨g,13,none⟩ (.slice q1 (n + 1) c1)=w2:=⟨_,rfl⟩;have s2:w2.heap.size=w.heap.size + 1:=by rw [← hw2];simp;exact z1
 have o2:OL 1 3 w2 (.slice q1 (n + 1) c1) (n + 1) (fun _=>[.int .i64 0]):=by rw [← hw2];exact OL.setg o1 _ (by rw [e1];intro h;injection h with h;omega)
 rw [hw2] at hb2;obtain ⟨v3,w3,r3,o3,a3,e3,z3⟩:=run_zeros_nil (P:=Tryz.prog) w2 49 3 49 2 (.int .i64 0) 1 8 .i64 .i64 uI64s uIntT nI64 rfl (by decide) (by decide) (n + 1) (by omega) (by omega) ((n + 1:Nat):Int) rfl
 have hb3:w3.heap[g]?=some (.cells (cells0 v6 v7 v8 (.slice q1 (n + 1) c1) (.slice none 0 0) 0) 68 (0,0)):=(a3.other g (by omega) (fun e=>by cases e)).trans hb2
 obtain ⟨q3,c3,hv3,-⟩:=o3.shape;subst hv3;have hb4:(w3.setCell ⟨g,14,none⟩ (.slice q3 (n + 1) c3)).heap[g]?=some (.cells (cells0 v6 v7 v8 (.slice q1 (n + 1) c1) (.slice q3 (n + 1) c3) 0) 68 (0,0)):=heap_setCell_same w3 g 14 _ 68 _ hb3;have HE:Hid (∃ v13 v14,(w3.setCell ⟨g,14,none⟩ (.slice q3 (n + 1) c3)).heap[g]?=some (.cells (cells0 v6 v7 v8 v13 v14 0) 68 (0,0))∧OL 1 3 (w3.setCell ⟨g,14,none⟩ (.slice q3 (n + 1) c3)) v13 (n + 1) (fun _=>[.int .i64 0])∧OL 1 2 (w3.setCell ⟨g,14,none⟩ (.slice q3 (n + 1) c3)) v14 (n + 1) (fun _=>[.int .i64 0])∧v13.ownBlock=some w.heap.size∧v14.ownBlock=some (w.heap.size + 1)∧Mv (fun b=>b=g) w (w3.setCell ⟨g,14,none⟩ (.slice q3 (n + 1) c3))):=by
  refine ⟨_,_,hb4,OL.setg (OL.app o2 a3 (fun b _ e=>by cases e)) _ (by rw [e1];intro h;injection h with h;omega),OL.setg o3 _ (by rw [e3];intro h;injection h with h;omega),e1,by rw [e3,s2],?_⟩
  have m1:Mv (fun b=>b=g) w w1:=(Mv.refl _ w).app a1 (fun b hb=>by cases hb)
  have m2:Mv (fun b=>b=g) w w2:=by rw [← hw2];exact m1.set (a:=⟨g,13,none⟩) (Or.inl rfl) _
  exact (m2.app a3 (fun b hb=>by cases hb)).set (a:=⟨g,14,none⟩) (Or.inl rfl) _
 have k13:w.cell? ⟨g,13,none⟩=some (.slice none 0 0):=cell_of_row w g 13 _ _ (0,0) hb;have k13':w1.cell? ⟨g,13,none⟩=some (.slice none 0 0):=cell_of_row w1 g 13 _ _ (0,0) hb1;have f13:w1.frozen? ⟨g,13,none⟩=false:=frozen_of_row w1 g 13 _ _ hb1;have k14:w2.cell? ⟨g,14,none⟩=some (.slice none 0 0):=cell_of_row w2 g 14 _ _ (0,0) hb2;have k14':w3.cell? ⟨g,14,none⟩=some (.slice none 0 0):=cell_of_row w3 g 14 _ _ (0,0) hb3;have f14:w3.frozen? ⟨g,14,none⟩=false:=frozen_of_row w3 g 14 _ _ hb3;have l1:g < w1.heap.size:=by omega
 have l2:g < w2.heap.size:=by omega
 have l3:g < w3.heap.size:=by omega
 clear hb hb1 hb2 hb3 hb4 o1 a1 e1 z1 o2 s2 o3 a3 e3 z3;generalize hnn:((n + 1:Nat):Int)=N at *;clear hnn;go_enter Tryz.func63,Tryz.ntmps63;go_wp2_with (first | (at_builtin;refine Lib.wpList_append_run _ rfl _ _ _ _ rfl _ _ rfl rfl _ _ r1 ?_) | (at_builtin;refine Lib.wpList_append_run _ rfl _ _ _ _ rfl _ _ rfl rfl _ _ r3 ?_))
 go_end0
 exact ⟨rfl,HE.out⟩
end Sat
namespace Sat
open Euf (OL App)
set_option maxRecDepth 20000 in
set_option maxHeartbeats 8000000 in
theorem room_any (g n:Nat) (w:World) (hb:w.heap[g]?=some (.cells (cells0 (.slice none 0 0) (.slice none 0 0) (.slice none 0 0) (.slice none 0 0) (.slice none 0 0) 0) 68 (0,0))) (hn:n≤5000) :
  Calls Tryz.prog 35 #[.pointer (some ⟨g,0,none⟩),.int .i64 (n:Nat)] w fun e w'=>e=.returned (.tuple #[])∧∃ a,SW w' g (fresh n) a∧Mv (fun b=>b=g) w w'∧∀ b,Fo g (fresh n) a b→b=g∨w.heap.size≤b:=by
 have hlg:g < w.heap.size:=(Array.getElem?_eq_some_iff.1 hb).1;have m0:Mv (fun b=>b=g) w w:=Mv.refl _ _
 have k8:w.cell? ⟨g,8,none⟩=some (.slice none 0 0):=cell_of_row w g 8 _ _ (0,0) hb;obtain ⟨v6,wa1,r1,o1,a1,e1,z1⟩:=run_zeros_nil (P:=Tryz.prog) w 45 3 45 95 (.int .i8 0) 1 1 .i64 .i64 uI8s uIntT nI8 rfl (by decide) (by decide) (2*(n + 1)) (by omega) (by omega) ((2*(n + 1):Nat):Int) rfl
 have ha1:wa1.heap[g]?=some (.cells (cells0 (.slice none 0 0) (.slice none 0 0) (.slice none 0 0) (.slice none 0 0) (.slice none 0 0) 0) 68 (0,0)):=(a1.other g (by omega) (fun e=>by cases e)).trans hb
 obtain ⟨q1,c1,hv1,-⟩:=o1.shape;subst hv1;have hbb1:(wa1.setCell ⟨g,6,none⟩ (.slice q1 (2*(n + 1)) c1)).heap[g]?=some (.cells (cells0 (.slice q1 (2*(n + 1)) c1) (.slice none 0 0) (.slice none 0 0) (.slice none 0 0) (.slice none 0 0) 0) 68 (0,0)):=heap_setCell_same wa1 g 6 _ 68 _ ha1;have m1:Mv (fun b=>b=g) w (wa1.setCell ⟨g,6,none⟩ (.slice q1 (2*(n + 1)) c1)):=(m0.app a1 (fun b hb=>by cases hb)).set (a:=⟨g,6,none⟩) (Or.inl rfl) _
 have o1':OL 1 95 (wa1.setCell ⟨g,6,none⟩ (.slice q1 (2*(n + 1)) c1)) (.slice q1 (2*(n + 1)) c1) (2*(n + 1)) (fun _=>(.int .i8 0:Value).cells.toList):=OL.setg o1 _ (by rw [e1];intro h;injection h with h;omega)
 have kc1:w.cell? ⟨g,6,none⟩=some (.slice none 0 0):=cell_of_row w g 6 _ _ (0,0) hb;have kd1:wa1.cell? ⟨g,6,none⟩=some (.slice none 0 0):=cell_of_row wa1 g 6 _ _ (0,0) ha1;have kf1:wa1.frozen? ⟨g,6,none⟩=false:=frozen_of_row wa1 g 6 _ _ ha1;have kl1:g < wa1.heap.size:=by omega
 obtain ⟨wb1,hwb1⟩:∃ wb,wa1.setCell ⟨g,6,none⟩ (.slice q1 (2*(n + 1)) c1)=wb:=⟨_,rfl⟩;have sz1:wb1.heap.size=w.heap.size + 1:=by rw [← hwb1];simp;exact z1
 rw [hwb1] at hbb1 m1 o1' ;clear hb ha1;have hb:=hbb1;obtain ⟨v7,wa2,r2,o2,a2,e2,z2⟩:=run_zeros_nil (P:=Tryz.prog) wb1 46 3 46 116 (.slice none 0 0) 1 24 .i64 .i64 uWss uIntT nWs rfl (by decide) (by decide) (2*(n + 1)) (by omega) (by omega) ((2*(n + 1):Nat):Int) rfl
 have ha2:wa2.heap[g]?=some (.cells (cells0 (.slice q1 (2*(n + 1)) c1) (.slice none 0 0) (.slice none 0 0) (.slice none 0 0) (.slice none 0 0) 0) 68 (0,0)):=(a2.other g (by omega) (fun e=>by cases e)).trans hb
 obtain ⟨q2,c2,hv2,-⟩:=o2.shape;subst hv2;have hbb2:(wa2.setCell ⟨g,7,none⟩ (.slice q2 (2*(n + 1)) c2)).heap[g]?=some (.cells (cells0 (.slice q1 (2*(n + 1)) c1) (.slice q2 (2*(n + 1)) c2) (.slice none 0 0) (.slice none 0 0) (.slice none 0 0) 0) 68 (0,0)):=heap_setCell_same wa2 g 7 _ 68 _ ha2;have m2:Mv (fun b=>b=g) w (wa2.setCell ⟨g,7,none⟩ (.slice q2 (2*(n + 1)) c2)):=(m1.app a2 (fun b hb=>by cases hb)).set (a:=⟨g,7,none⟩) (Or.inl rfl) _
 have o2':OL 1 116 (wa2.setCell ⟨g,7,none⟩ (.slice q2 (2*(n + 1)) c2)) (.slice q2 (2*(n + 1)) c2) (2*(n + 1)) (fun _=>(.slice none 0 0:Value).cells.toList):=OL.setg o2 _ (by rw [e2];intro h;injection h with h;omega)
 have o1_2:OL 1 95 (wa2.setCell ⟨g,7,none⟩ (.slice q2 (2*(n + 1)) c2)) (.slice q1 (2*(n + 1)) c1) (2*(n + 1)) (fun _=>(.int .i8 0:Value).cells.toList):=OL.setg (OL.app o1' a2 (fun b _ e=>by cases e)) _ (by rw [e1];intro h;injection h with h;omega)
 have kc2:wb1.cell? ⟨g,7,none⟩=some (.slice none 0 0):=cell_of_row wb1 g 7 _ _ (0,0) hb;have kd2:wa2.cell? ⟨g,7,none⟩=some (.slice none 0 0):=cell_of_row wa2 g 7 _ _ (0,0) ha2;have kf2:wa2.frozen? ⟨g,7,none⟩=false:=frozen_of_row wa2 g 7 _ _ ha2;have kl2:g < wa2.heap.size:=by omega
 obtain ⟨wb2,hwb2⟩:∃ wb,wa2.setCell ⟨g,7,none⟩ (.slice q2 (2*(n + 1)) c2)=wb:=⟨_,rfl⟩;have sz2:wb2.heap.size=wb1.heap.size + 1:=by rw [← hwb2];simp;exact z2
 rw [hwb2] at hbb2 m2 o2' o1_2;clear hb ha2;have hb:=hbb2;obtain ⟨v8,wa3,r3,o3,a3,e3,z3⟩:=run_zeros_nil (P:=Tryz.prog) wb2 47 3 47 102 (.agg #[.int .i64 0,.int .i64 0,.int .i64 0,.int .i64 0,.bool false,.int .i8 0]) 6 40 .i64 .i64 uFas uIntT nFa rfl (by decide) (by decide) (n + 1) (by omega) (by omega) ((n + 1:Nat):Int) rfl
 have ha3:wa3.heap[g]?=some (.cells (cells0 (.slice q1 (2*(n + 1)) c1) (.slice q2 (2*(n + 1)) c2) (.slice none 0 0) (.slice none 0 0) (.slice none 0 0) 0) 68 (0,0)):=(a3.other g (by omega) (fun e=>by cases e)).trans hb
 obtain ⟨q3,c3,hv3,-⟩:=o3.shape;subst hv3;have hbb3:(wa3.setCell ⟨g,8,none⟩ (.slice q3 (n + 1) c3)).heap[g]?=some (.cells (cells0 (.slice q1 (2*(n + 1)) c1) (.slice q2 (2*(n + 1)) c2) (.slice q3 (n + 1) c3) (.slice none 0 0) (.slice none 0 0) 0) 68 (0,0)):=heap_setCell_same wa3 g 8 _ 68 _ ha3;have m3:Mv (fun b=>b=g) w (wa3.setCell ⟨g,8,none⟩ (.slice q3 (n + 1) c3)):=(m2.app a3 (fun b hb=>by cases hb)).set (a:=⟨g,8,none⟩) (Or.inl rfl) _
 have o3':OL 6 102 (wa3.setCell ⟨g,8,none⟩ (.slice q3 (n + 1) c3)) (.slice q3 (n + 1) c3) (n + 1) (fun _=>(.agg #[.int .i64 0,.int .i64 0,.int .i64 0,.int .i64 0,.bool false,.int .i8 0]:Value).cells.toList):=OL.setg o3 _ (by rw [e3];intro h;injection h with h;omega)
 have o1_3:OL 1 95 (wa3.setCell ⟨g,8,none⟩ (.slice q3 (n + 1) c3)) (.slice q1 (2*(n + 1)) c1) (2*(n + 1)) (fun _=>(.int .i8 0:Value).cells.toList):=OL.setg (OL.app o1_2 a3 (fun b _ e=>by cases e)) _ (by rw [e1];intro h;injection h with h;omega)
 have o2_3:OL 1 116 (wa3.setCell ⟨g,8,none⟩ (.slice q3 (n + 1) c3)) (.slice q2 (2*(n + 1)) c2) (2*(n + 1)) (fun _=>(.slice none 0 0:Value).cells.toList):=OL.setg (OL.app o2' a3 (fun b _ e=>by cases e)) _ (by rw [e2];intro h;injection h with h;omega)
 have kc3:wb2.cell? ⟨g,8,none⟩=some (.slice none 0 0):=cell_of_row wb2 g 8 _ _ (0,0) hb;have kd3:wa3.cell? ⟨g,8,none⟩=some (.slice none 0 0):=cell_of_row wa3 g 8 _ _ (0,0) ha3;have kf3:wa3.frozen? ⟨g,8,none⟩=false:=frozen_of_row wa3 g 8 _ _ ha3;have kl3:g < wa3.heap.size:=by omega
 obtain ⟨wb3,hwb3⟩:∃ wb,wa3.setCell ⟨g,8,none⟩ (.slice q3 (n + 1) c3)=wb:=⟨_,rfl⟩;have sz3:wb3.heap.size=wb2.heap.size + 1:=by rw [← hwb3];simp;exact z3
 rw [hwb3] at hbb3 m3 o3' o1_3 o2_3;clear hb ha3;have hb:=hbb3;have HO:=hide (oroom_any g n (.slice q1 (2*(n + 1)) c1) (.slice q2 (2*(n + 1)) c2) (.slice q3 (n + 1) c3) wb3 hb hn);have hlb3:g < wb3.heap.size:=by omega
 have HK:=hide (And.intro o1_3 (And.intro o2_3 (And.intro o3' (And.intro m3 (And.intro e1 (And.intro e2 (And.intro e3 (And.intro sz1 (And.intro sz2 (And.intro sz3 hlg))))))))));clear o1 a1 e1 z1 o2 a2 e2 z2 o3 a3 e3 z3 o1' o2' o3' o1_2 o1_3 o2_3 m0 m1 m2 m3 hbb1 hbb2 hbb3 sz1 sz2 sz3 hb;have hnI:(n:Int)≤5000:=by omega
 obtain ⟨N1,hN1⟩:∃ N1:Int,((n + 1:Nat):Int)=N1:=⟨_,rfl⟩;obtain ⟨N2,hN2⟩:∃ N2:Int,((2*(n + 1):Nat):Int)=N2:=⟨_,rfl⟩;have hN1':(n:Int) + 1=N1:=by omega
 have hN2':2*N1=N2:=by omega
 rw [hN1] at r3 HO;rw [hN2] at r1 r2;have R1:Hid (∀ x,x=N2→(Builtin.append_ #[45,3] 45 #[.slice none 0 0,.int .i64 x]).run Tryz.prog w=.ok (.slice q1 (2*(n + 1)) c1) wa1):=fun x hx=>by rw [hx];exact r1
 have R2:Hid (∀ x,x=N2→(Builtin.append_ #[46,3] 46 #[.slice none 0 0,.int .i64 x]).run Tryz.prog wb1=.ok (.slice q2 (2*(n + 1)) c2) wa2):=fun x hx=>by rw [hx];exact r2
 have R3:Hid (∀ x,x=N1→(Builtin.append_ #[47,3] 47 #[.slice none 0 0,.int .i64 x]).run Tryz.prog wb2=.ok (.slice q3 (n + 1) c3) wa3):=fun x hx=>by rw [hx];exact r3
 have HN:=hide (And.intro hN1' hN2');have hN1b:N1≤5001:=by omega
 have hN1c:0≤N1:=by omega
 clear r1 r2 r3 hN1 hN2 hN2';go_enter Tryz.func35,Tryz.ntmps35;go_wp2_with (first | (at_builtin;refine Lib.wpList_append_run _ rfl _ _ _ _ rfl _ _ rfl rfl _ _ (R1.out _ (by have:=HN.out.2;omega)) ?_) | (at_builtin;refine Lib.wpList_append_run _ rfl _ _ _ _ rfl _ _ rfl rfl _ _ (R2.out _ (by have:=HN.out.2;omega)) ?_) | (at_builtin;refine Lib.wpList_append_run _ rfl _ _ _ _ rfl _ _ rfl rfl _ _ (R3.out _ (by omega)) ?_))
 refine HO.out.mono ?_;rintro e w5 ⟨rfl,v13,v14,hb5,o13,o14,e13,e14,mv5⟩;have k0:w5.cell? ⟨g,0,none⟩=some (.int .i64 0):=cell_of_row w5 g 0 _ _ (0,0) hb5;have f0:w5.frozen? ⟨g,0,none⟩=false:=frozen_of_row w5 g 0 _ _ hb5;have l5:g < w5.heap.size:=(Array.getElem?_eq_some_iff.1 hb5).1;have HE:Hid (∃ a,SW (w5.setCell ⟨g,0,none⟩ (.int .i64 (n:Nat))) g (fresh n) a∧Mv (fun b=>b=g) w (w5.setCell ⟨g,0,none⟩ (.int .i64 (n:Nat)))∧∀ b,Fo g (fresh n) a b→b=g∨w.heap.size≤b):=by
  obtain ⟨p1,p2,p3,p4,p5,p6,p7,p8,p9,p10,p11⟩:=HK.out;have hb6:(w5.setCell ⟨g,0,none⟩ (.int .i64 (n:Nat))).heap[g]?=some (.cells (cells0 (.slice q1 (2*(n + 1)) c1) (.slice q2 (2*(n + 1)) c2) (.slice q3 (n + 1) c3) v13 v14 n) 68 (0,0)):=heap_setCell_same w5 g 0 _ 68 _ hb5;have st:∀ {sz:Nat} {e:TypeId} {v:Value} {m:Nat} {f:Nat→List Value} {b:Nat},OL sz e wb3 v m f→v.ownBlock=some b→b≠g→OL sz e (w5.setCell ⟨g,0,none⟩ (.int .i64 (n:Nat))) v m f:=fun h1 h2 h3=>OL.setg (h1.stay (fun b9 hb9=>mv5.other b9 (h1.lt hb9) (fun e9=>h3 (by rw [h2] at hb9;injection hb9 with hb9;omega)))) _ (by rw [h2];intro h9;injection h9 with h9;exact h3 h9)
  refine ⟨aF (.slice q1 (2*(n + 1)) c1) (.slice q2 (2*(n + 1)) c2) (.slice q3 (n + 1) c3) v13 v14,SW.fresh_ (b6:=w.heap.size) (b7:=wb1.heap.size) (b8:=wb2.heap.size) (b13:=wb3.heap.size) (b14:=wb3.heap.size + 1) hb6 (st p1 p5 (by omega)) (st p2 p6 (by omega)) (st p3 p7 (by omega)) (OL.setg o13 _ (by rw [e13];intro h9;injection h9 with h9;omega)) (OL.setg o14 _ (by rw [e14];intro h9;injection h9 with h9;omega)) p5 p6 p7 e13 e14 (by omega) (by omega) (by omega) (by omega),(p4.trans mv5 (fun b hb=>Or.inl hb)).set (a:=⟨g,0,none⟩) (Or.inl rfl) _,fun b hb=>?_⟩
  rcases hb with h9 | ⟨k,-,h9⟩
  · exact Or.inl h9
  ·
   right
   rcases aF_own h9 with ⟨-,h8⟩ | ⟨-,h8⟩ | ⟨-,h8⟩ | ⟨-,h8⟩ | ⟨-,h8⟩
   · rw [p5] at h8;injection h8 with h8;omega
   · rw [p6] at h8;injection h8 with h8;omega
   · rw [p7] at h8;injection h8 with h8;omega
   · rw [e13] at h8;injection h8 with h8;omega
   · rw [e14] at h8;injection h8 with h8;omega
 clear hb5 o13 o14 e13 e14 mv5 HO HK;go_wp2;go_end0
 exact ⟨rfl,HE.out⟩
set_option maxRecDepth 20000 in
set_option maxHeartbeats 8000000 in
theorem new_any (n:Nat) (w:World) (hn:n≤4096) :
  Calls Tryz.prog 14 #[.int .i64 (n:Nat)] w fun e w'=>e=.returned (.tuple #[.pointer (some ⟨w.heap.size,0,none⟩),.int .i64 0])∧∃ a,SW w' w.heap.size (fresh n) a∧Below w.heap.size w w'∧∀ b,Fo w.heap.size (fresh n) a b→w.heap.size≤b:=by
 have hnI:¬ ((n:Int) < 0):=by omega
 have hnJ:(n:Int)≤4096:=by omega
 obtain ⟨w1,hw1⟩:∃ w1,w.alloc (.cells (cells0 (.slice none 0 0) (.slice none 0 0) (.slice none 0 0) (.slice none 0 0) (.slice none 0 0) 0) 68 (0,0))=w1:=⟨_,rfl⟩;have hb1:w1.heap[w.heap.size]?=some (.cells (cells0 (.slice none 0 0) (.slice none 0 0) (.slice none 0 0) (.slice none 0 0) (.slice none 0 0) 0) 68 (0,0)):=by rw [← hw1];exact heap_alloc_new w _
 have s1:w1.heap.size=w.heap.size + 1:=by rw [← hw1];simp
 have b1:Below w.heap.size w w1:=by rw [← hw1];exact (Below.refl _ _).alloc (Nat.le_refl _) _
 have HR:=hide (room_any w.heap.size n w1 hb1 (by omega))
 have HB:=hide (And.intro b1 s1);unfold cells0 at hw1;have hw1':w.alloc (.cells #[.int .i64 0,.int .i64 0,.slice none 0 0,.slice none 0 0,.int .i64 (-1),.bool false,.slice none 0 0,.slice none 0 0,.slice none 0 0,.slice none 0 0,.slice none 0 0,.int .i64 0,.slice none 0 0,.slice none 0 0,.slice none 0 0,.int .i64 256,.slice none 0 0,.int .i64 0,.slice none 0 0,.int .u32 0,.int .i32 0,.int .u32 0,.slice none 0 0] 68 (0,0))=w1:=hw1;clear hb1 s1 b1 hw1;go_enter Tryz.func14,Tryz.ntmps14;go_wp2_with fail
 refine HR.out.mono ?_;rintro e w2 ⟨rfl,a,s2,m2,f2⟩;have HE:Hid (∃ a,SW w2 w.heap.size (fresh n) a∧Below w.heap.size w w2∧∀ b,Fo w.heap.size (fresh n) a b→w.heap.size≤b):=⟨a,s2,HB.out.1.trans (m2.toBelow (by have:=HB.out.2;omega) (fun b hb=>by omega)),fun b hb=>by
  rcases f2 b hb with h9 | h9
  · omega
  · have:=HB.out.2;omega⟩
 clear s2 m2 f2 HR HB;go_wp2;go_ret2
 exact ⟨rfl,HE.out⟩
end Sat
namespace Sat
open Euf (OL App)
structure Cn (st ro le:Int):Prop where
  r1:1≤ro
  r2:ro≤st + 1
  l1:-st≤le
  l2:le≤64*(st + 1)
theorem Cn.step {st ro le:Int} (c:Cn st ro le) (h0:0≤st):Cn (st + 1) ro (le - 1):=⟨c.r1, by have:=c.r2; omega, by have:=c.l1; omega, by have:=c.l2; omega⟩
theorem Cn.same {st ro le:Int} (c:Cn st ro le) (h0:0≤st):Cn (st + 1) ro le:=⟨c.r1, by have:=c.r2; omega, by have:=c.l1; omega, by have:=c.l2; omega⟩
set_option maxRecDepth 20000 in
set_option maxHeartbeats 16000000 in
theorem search_any (g:Nat) (d0:Dt) (a0:Key→Value) (I:List (List Nat)) (A:Nat) (U:List Nat) (bu:Int) (w:World) (hw:SW w g d0 a0) (hc:SC d0 d0 I A U [] bu) (hf:FI d0 U) (hs0:d0.steps=0) (hn:d0.nv≤5000) (hA:A + bu.toNat≤90000000) :
  Calls Tryz.prog 17 #[.pointer (some ⟨g,0,none⟩),.int .i64 bu] w fun e w'=>SrEnd g d0 a0 I A U bu w e w':=by
 have H0:=hide (And.intro hw (And.intro hc (And.intro hf hs0)));clear hw hc hf hs0;go_enter Tryz.func17,Tryz.ntmps17;go_wp2;go_loopg [5,6] bu.toNat (fun gk v5 v6 wr=>∃ (d:Dt) (a:Key→Value) (K:List Nat) (ro le:Int),v5=.int .i64 ro∧v6=.int .i64 le∧Hid ((bu - d.steps).toNat=gk∧SW wr g d a∧Mo g d0 a0 w d a wr∧SC d0 d I A U K bu∧FI d U∧Cn d.steps ro le))
 case atStart=>exact ⟨d0,a0,[],1,64,rfl,rfl,by rw [H0.out.2.2.2];simp,H0.out.1,Mo.refl _ _ _ _,H0.out.2.1,H0.out.2.2.1,by rw [H0.out.2.2.2];exact ⟨by omega,by omega,by omega,by omega⟩⟩
 case round =>
  rename World=>wl
  clear H0;obtain ⟨d,a,K,ro,le,rfl,rfl,H⟩:=hrel;have hnv:d.nv=d0.nv:=H.out.2.2.2.1.sx.nv;have hAK:A + K.length≤90000000:=by
   have h1:=H.out.2.2.2.1.s3;have h2:=H.out.2.2.2.1.s1;omega
  have hst:d.steps≤90000000:=by
   have h2:=H.out.2.2.2.1.s1;omega
  have hst0:0≤d.steps:=H.out.2.2.2.1.s0;have HF:=hide (follow_any g d a I (A + K.length) U wl H.out.2.1 H.out.2.2.2.1.bs H.out.2.2.2.2.1 (by omega) hAK)
  go_wp2_with fail
  refine HF.out.mono ?_;rintro e w1 ⟨d1,a1,s1,m1,sf1,b1,hcase⟩;have C1:=hide (H.out.2.2.2.1.follow b1 sf1);have hst1:d1.steps=d.steps:=sf1.rest.1;have hnv1:d1.nv=d0.nv:=sf1.nv.trans hnv;have M1:=hide (H.out.2.2.1.trans m1);have S1:=hide s1;have HX:=hide (And.intro H.out.1 H.out.2.2.2.2.2);clear HF H s1 m1 sf1 b1;have HST:=hide (step_any g d1 a1 bu w1 S1.out (by omega) (by omega))
  rcases hcase with ⟨rfl,hcl,hhd,si⟩ | ⟨c,rfl,hcn,hfa,hrest⟩
  ·
   have HN:=hide (next_any g d1 a1 w1 S1.out C1.out.ov.oi (by omega))
   have HQ:=hide (And.intro hcl (And.intro hhd si));clear hcl hhd si HST;go_wp2_with fail
   refine HN.out.mono ?_;rintro e w2 ⟨hp',at',a2,s2,m2,oi2,hp1,hp2,hcase2⟩;have C2:=hide (C1.out.next oi2 hp1 hp2);have S2:=hide s2;have M2:=hide (M1.out.trans m2);have SI2:Hid (SI (d1.ord hp' at').nv (d1.ord hp' at').V (d1.ord hp' at').T (d1.ord hp' at').S (d1.ord hp' at').F (d1.ord hp' at').nc (d1.ord hp' at').C (d1.ord hp' at').W (d1.ord hp' at').T.length [] U):=HQ.out.2.2;have FI2:Hid (FI (d1.ord hp' at') U):=Or.inl ⟨HQ.out.1,by show SI d1.nv d1.V d1.T d1.S d1.F d1.nc d1.C d1.W d1.head [] U;rw [HQ.out.2.1];exact HQ.out.2.2⟩
   clear s2 m2 oi2 hp1 HN;have hst2:(d1.ord hp' at').steps=d.steps:=hst1;have hnv2:(d1.ord hp' at').nv=d0.nv:=hnv1;have hT2:(d1.ord hp' at').T.length≤5001:=by have:=C2.out.bs.ti.len;omega
   have hS2:(d1.ord hp' at').S.length≤5001:=by have:=C2.out.bs.ti.lenS;omega
   have hcl2:(d1.ord hp' at').clash=-1:=HQ.out.1;have hhd2:(d1.ord hp' at').head=(d1.ord hp' at').T.length:=HQ.out.2.1;have hV2:(d1.ord hp' at').V=d1.V:=rfl;have hpp:(d1.ord hp' at').hp=hp':=rfl;generalize d1.ord hp' at'=d2 at *;have HZ:=hide (And.intro hcl2 hhd2);clear hcl2 hhd2 HQ hp2;rcases hcase2 with ⟨v,hv,rfl,h0⟩ | ⟨rfl,rfl⟩
   ·
    have hvU:=C2.out.ov.hu v (by rw [hpp];exact hv)
    have hv1:=C2.out.ov.uo v hvU;have HST2:=hide (step_any g d2 a2 bu w2 S2.out (by omega) (by omega))
    have hvI:¬ ((v:Int)=-1):=by omega
    rw [← hV2] at h0;have HV:=hide (And.intro hvU h0);clear hvU h0 hv;go_wp2_with fail
    refine HST2.out.mono ?_;rintro e w3 (⟨hb,rfl,hw3⟩ | ⟨hb,rfl,s3,m3⟩)
    ·
     obtain rfl:=hw3.symm;have HE:Hid (SrEnd g d0 a0 I A U bu w (.returned (.int .i64 0)) w2):=⟨d2,a2,d2,K,S2.out,M2.out,C2.out,Or.inl ⟨rfl,rfl,Or.inl FI2.out,hb⟩⟩;clear HST2 hb;go_wp2;go_ret
     exact HE.out
    ·
     have HP:=hide (C2.out.pick hb SI2.out HZ.out.2 HZ.out.1 HV.out.1 HV.out.2);have HCH:=hide (choose_any g { d2 with steps:=d2.steps + 1 } a2 v w3 s3 (by show v≤d2.nv;omega) (by show d2.nv≤5000;omega) (by show d2.T.length≤10000;omega) (by show d2.S.length≤9999;omega))
     have M3:=hide (M2.out.trans m3);have hbI:d2.steps < bu:=hb;clear HST2 s3 m3 hb;go_wp2_with fail
     refine HCH.out.mono ?_;rintro e w4 ⟨rfl,a4,s4,m4⟩;have HE:=hide (And.intro s4 (M3.out.trans m4));have HG:Hid ((bu - (d2.steps + 1)).toNat < gk):=by
      have h9:=HX.out.1;show _ < _
      omega
     clear s4 m4 HCH;go_wp2;go_roundg ((bu - (d2.steps + 1)).toNat)
     case rel=>exact ⟨_,a4,K,ro,le,rfl,rfl,rfl,HE.out.1,HE.out.2,HP.out.1,HP.out.2,by rw [← hst2] at HX;exact HX.out.2.same (by omega)⟩
     case measure=>exact HG.out
   ·
    have HVA:=hide (values_any g d2 a2 w2 S2.out C2.out.bs.ti.forValues (by omega) (by omega))
    have hlg:=S2.out.lt;clear hnv2;go_wp2_with fail
    refine HVA.out.mono ?_;rintro e w3 ⟨v3,rfl,ol3,own3,bl3⟩;have ol3':OL 1 4 w3 v3 (mdl d2.nv (trM d2.T)).length (fun i=>[.bool ((mdl d2.nv (trM d2.T)).getD i false)]):=by
     rw [mdl_len];exact ol3.congr (fun i hi=>by show [Value.bool ((mdl d2.nv (trM d2.T)).getD i false)]=tv d2.T i;rw [mdl_get hi];rfl)
    have HS:=hide (S2.out.set_mo bl3 own3 ol3');have s3:=S2.out.below bl3;obtain ⟨qM,cM,hM,-,-,-⟩:=s3.len (k:=kMod) (by exact ⟨by decide,rfl⟩)
    have c18:w3.cell? ⟨g,18,none⟩=some (.slice qM d2.mo.length cM):=(s3.cell 18).trans (congrArg some hM);have z18:=s3.frozen 18;have hlg3:=s3.lt;have HE:Hid (SrEnd g d0 a0 I A U bu w (.returned (.int .i64 1)) (w3.setCell ⟨g,18,none⟩ v3)):=⟨_,_,d2,K,HS.out.1,M2.out.trans HS.out.2,C2.out,Or.inr (Or.inl ⟨rfl,rfl,HZ.out.1,by rw [HZ.out.2];exact SI2.out,C2.out.whole SI2.out hpp⟩)⟩
    obtain ⟨qV,cV,hV,-⟩:=ol3.shape;subst hV;clear ol3 ol3' own3 bl3 HS s3 hM HVA;go_wp2;go_ret
    exact HE.out
  ·
   have hcI:¬ ((c:Int)=-1):=by omega
   have hcB:((c:Int) != -1)=true:=by simp <;> omega
   have HR:=hide (And.intro hcn (And.intro hfa hrest));clear hcn hfa hrest;go_wp2_with fail
   refine HST.out.mono ?_;rintro e w2 (⟨hb,rfl,hw2⟩ | ⟨hb,rfl,s2,m2⟩)
   ·
    obtain rfl:=hw2.symm;have HE:Hid (SrEnd g d0 a0 I A U bu w (.returned (.int .i64 0)) w1):=by
     refine ⟨d1,a1,d1,K,S1.out,M1.out,C1.out,Or.inl ⟨rfl,rfl,?_,hb⟩⟩;rcases HR.out.2.2 with ⟨h1,h2⟩ | ⟨h1,h2,h3,h4⟩
     · exact Or.inl (Or.inr ⟨c,h2,HR.out.1,h1,HR.out.2.1⟩)
     · exact Or.inr ⟨h2,h1,h3,h4⟩
    clear HST hb;go_wp2;go_ret
    exact HE.out
   ·
    have M2:=hide (M1.out.trans m2);have S2:=hide s2;have hbI:d1.steps < bu:=hb;obtain ⟨qS,cS,hSv,-,-,-⟩:=s2.len (k:=kSta) (by exact ⟨by decide,rfl⟩)
    have c10:w2.cell? ⟨g,10,none⟩=some (.slice qS d1.S.length cS):=(s2.cell 10).trans (congrArg some hSv);have hlg2:=s2.lt;clear hSv s2 m2 HST hb;rcases HR.out.2.2 with ⟨h1,h2⟩ | ⟨h1,h2,h3,h4⟩
    ·
     have hS0:d1.S.length=0:=by rw [h1];rfl
     rw [hS0] at c10;have HRF:=hide (refute_any g { d1 with steps:=d1.steps + 1 } a1 c I (A + K.length) U w2 S2.out (C1.out.bs.same rfl rfl rfl rfl rfl rfl rfl) h1 HR.out.1 HR.out.2.1 (by show d1.nv≤5000;omega) hAK)
     have HS1:=hide h1;clear h1 h2 hS0;go_wp2_with fail
     refine HRF.out.mono ?_;rintro e w3 ⟨rfl,X,a3,x1,x2,s3,m3,dv⟩;have HE:Hid (SrEnd g d0 a0 I A U bu w (.returned (.int .i64 2)) w3):=⟨_,a3,d1,K,s3,M2.out.trans m3,C1.out,Or.inr (Or.inr ⟨rfl,HS1.out,X,x1,x2,rfl,dv,rfl,hbI⟩)⟩;clear s3 m3 dv HRF;go_wp2;go_ret
     exact HE.out
    ·
     obtain ⟨ns,hns⟩:∃ ns,d1.S.length=ns:=⟨_,rfl⟩;have hnn:¬ (ns=0):=fun e=>h1 (List.length_eq_zero_iff.1 (by omega))
     rw [hns] at c10;have hS0:¬ ((ns:Int)=0):=by omega
     have hS1:((ns:Int) == 0)=false:=by simpa using hS0
     have HLN:=hide (learn_any g { d1 with steps:=d1.steps + 1 } a1 c I (A + K.length) U h3 w2 S2.out (C1.out.bs.same rfl rfl rfl rfl rfl rfl rfl) h4 ⟨C1.out.ov.oi,C1.out.ov.hu,C1.out.ov.uo,C1.out.ov.cv,C1.out.ov.un⟩ C1.out.m0 C1.out.ms h1 HR.out.1 HR.out.2.1 (by show d1.nv≤5000;omega) hAK)
     have HCL:=hide h2;clear h1 h2 h4 hns HR hnn;go_wp2_with fail
     refine HLN.out.mono ?_;rintro e w3 ⟨rfl,d3,a3,L,s3,m3,ln⟩;have e3:=ln.eq;have hmk3:d3.mks=[]:=by rw [e3];exact C1.out.ms
     have hcl3:d3.clash=-1:=by rw [e3];exact HCL.out
     have hst3:d3.steps=d1.steps + 1:=by rw [e3]
     have hnv3:d3.nv=d1.nv:=by rw [e3]
     have C3:=hide (C1.out.learn hbI ln hmk3);have F3:Hid (FI d3 U):=Or.inl ⟨hcl3,ln.si⟩;have S3:=hide s3;have M3:=hide (M2.out.trans m3);have hT3:d3.T.length≤5001:=by have:=ln.bs.ti.len;omega
     have hS3:d3.S.length≤5001:=by have:=ln.bs.ti.lenS;omega
     have hcn:Cn (d1.steps + 1) ro (le - 1):=by
      have h9:=HX.out.2;rw [← hst1] at h9;exact h9.step (by omega)
     have HCN:=hide hcn;have l1:=hcn.l1;have l2:=hcn.l2;have r1:=hcn.r1;have r2:=hcn.r2;have HG:Hid ((bu - d3.steps).toNat < gk):=by
      have h9:=HX.out.1;show _ < _
      omega
     clear s3 m3 ln e3 hmk3 hcl3 hcn HLN C1 S1 M1 S2 M2 c10;by_cases hz:le - 1=0
     ·
      have hro:ro + 1≤100000000:=by omega
      obtain ⟨rn,hrn⟩:∃ rn:Nat,ro + 1=(rn:Int):=⟨(ro + 1).toNat,by omega⟩
      have HLU:=hide (luby_any rn w3 (by omega) (by omega))
      have HUN:Hid (∀ w9,SW w9 g d3 a3→Calls Tryz.prog 18 #[.pointer (some ⟨g,0,none⟩),.int .i64 (0:Nat)] w9 fun e w'=>e=.returned (.tuple #[])∧UdEnd g d3 a3 0 w9 w'):=fun w9 h9=>undo_any g d3 a3 0 w9 h9 C3.out.1.ov.oi (fun l hl=>(C3.out.1.bs.ti.ok l hl).2) C3.out.1.bs.ti.st (by omega) (by omega) (by omega) (by omega)
      have HRN:=hide hrn;have hrnI:(rn:Int)≤100000000:=by omega
      have r0:ro≤d1.steps + 1:=by have h9:=HX.out.2.r2;omega
      have HCN2:Hid (∀ r:Nat,r≤rn→Cn (d1.steps + 1) (rn:Int) (64*(r:Int))):=fun r hr=>⟨by omega,by omega,by omega,by omega⟩
      clear HRN;go_wp2_with fail
      refine HLU.out.mono ?_;rintro e w4 ⟨⟨r,hlb,hr,rfl⟩,hw4⟩;obtain rfl:=hw4.symm;have hrI:(r:Int)≤100000000:=by omega
      have HCN3:=hide (HCN2.out r hr);clear hlb HLU HCN2;go_wp2_with fail
      refine (HUN.out _ S3.out).mono ?_;rintro e w5 ⟨rfl,ud⟩;have HE:Hid (∃ d a,d.steps=d3.steps∧SW w5 g d a∧Mo g d0 a0 w d a w5∧SC d0 d I A U (d1.nc :: K) bu∧FI d U):=by
       rcases ud with ⟨-,bel⟩ | ⟨hk,F',hp',at',a5,s5,m5,lst,oi,hu⟩
       · exact ⟨d3,a3,rfl,S3.out.below bel,M3.out.below bel,C3.out.1,F3.out⟩
       · obtain ⟨k1,k2⟩:=C3.out.1.undo (Or.inl F3.out) hk lst oi hu C3.out.2;exact ⟨d3.u0 d3.S[0] F' hp' at',a5,rfl,s5,M3.out.trans m5,k1,k2⟩
      clear ud HUN;go_wp2;go_roundg ((bu - d3.steps).toNat)
      case rel =>
       obtain ⟨d6,a6,e6,s6,m6,c6,f6⟩:=HE.out;exact ⟨d6,a6,d1.nc :: K,(rn:Int),64*(r:Int),rfl,rfl,by rw [e6],s6,m6,c6,f6,by rw [e6,hst3];exact HCN3.out⟩
      case measure=>exact HG.out
     ·
      go_wp2;go_roundg ((bu - d3.steps).toNat)
      case rel=>exact ⟨d3,a3,d1.nc :: K,ro,le - 1,rfl,rfl,rfl,S3.out,M3.out,C3.out.1,F3.out,by rw [hst3];exact HCN.out⟩
      case measure=>exact HG.out
end Sat
end Go.Proofs.YtbmkkhpoaicclacGreat
