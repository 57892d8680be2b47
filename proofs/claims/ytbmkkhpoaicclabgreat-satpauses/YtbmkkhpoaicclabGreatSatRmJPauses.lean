/- The contracts of room and New; it proves no statement of the seat. -/
import Derived.Test.YtbmkkhpoaicclabGreatSatNwJPauses
import Derived.Test.YtbmkkhpoaicclabGreatJoin14Pauses
namespace Go.Proofs.YtbmkkhpoaicclabGreat
open Go Go.RowKit
set_option linter.unusedVariables false
namespace Sat
open Euf (OL App)
theorem uI8s:Tryz.prog.underlying 58=some (.slice 111):=by kernel_rfl
theorem nI8:(Tryz.prog.info? 111).map (fun i=>(i.zero,i.size,i.bytes))=some (some (.int .i8 0),1,1):=by kernel_rfl
theorem uWss:Tryz.prog.underlying 59=some (.slice 131):=by kernel_rfl
theorem nWs:(Tryz.prog.info? 131).map (fun i=>(i.zero,i.size,i.bytes))=some (some (.slice none 0 0),1,24):=by kernel_rfl
theorem uFas:Tryz.prog.underlying 60=some (.slice 116):=by kernel_rfl
theorem nFa:(Tryz.prog.info? 116).map (fun i=>(i.zero,i.size,i.bytes))=some (some (.agg #[.int .i64 0,.int .i64 0,.int .i64 0,.int .i64 0,.bool false,.int .i8 0]),6,40):=by kernel_rfl
theorem uI64s:Tryz.prog.underlying 54=some (.slice 2):=by kernel_rfl
theorem nI64:(Tryz.prog.info? 2).map (fun i=>(i.zero,i.size,i.bytes))=some (some (.int .i64 0),1,8):=by kernel_rfl
theorem uIntT:Tryz.prog.underlying 3=some (.int .i64):=by kernel_rfl
def cells0 (v6 v7 v8 v13 v14:Value) (n:Nat):Array Value:=#[.int .i64 (n:Nat), .int .i64 0, .slice none 0 0, .slice none 0 0, .int .i64 (-1), .bool false, v6, v7, v8, .slice none 0 0, .slice none 0 0, .int .i64 0, .slice none 0 0, v13, v14, .int .i64 256, .slice none 0 0, .int .i64 0, .slice none 0 0, .int .u32 0, .int .i32 0, .int .u32 0, .slice none 0 0]
theorem OL.app {sz:Nat} {e:TypeId} {v:Value} {n:Nat} {f:Nat→List Value} {w w':World} {x y:Value} (h:OL sz e w v n f) (a:App x y w w') (hx:∀ b, v.ownBlock=some b→x.ownBlock≠some b):OL sz e w' v n f:=h.stay (fun b hb=>a.other b (h.lt hb) (hx b hb))
theorem OL.setg {sz:Nat} {e:TypeId} {v:Value} {n:Nat} {f:Nat→List Value} {w:World} (h:OL sz e w v n f) {g i:Nat} (x:Value) (hx:v.ownBlock≠some g):OL sz e (w.setCell ⟨g, i, none⟩ x) v n f:=h.stay (fun b hb=>heap_setCell_other w ⟨g, i, none⟩ b x (fun e=>hx (by rw [hb]; exact congrArg some e)))
set_option maxRecDepth 20000 in
set_option maxHeartbeats 8000000 in
theorem oroom_any (g n:Nat) (v6 v7 v8:Value) (w:World) (hb:w.heap[g]?=some (.cells (cells0 v6 v7 v8 (.slice none 0 0) (.slice none 0 0) 0) 78 (0,0))) (hn:n≤5000) :
  Calls Tryz.prog 58 #[.pointer (some ⟨g,12,none⟩),.int .i64 ((n + 1:Nat):Int)] w fun e w'=>e=.returned (.tuple #[])∧∃ v13 v14,w'.heap[g]?=some (.cells (cells0 v6 v7 v8 v13 v14 0) 78 (0,0))∧OL 1 3 w' v13 (n + 1) (fun _=>[.int .i64 0])∧OL 1 2 w' v14 (n + 1) (fun _=>[.int .i64 0])∧v13.ownBlock=some w.heap.size∧v14.ownBlock=some (w.heap.size + 1)∧Mv (fun b=>b=g) w w':=by
 have hlg:g < w.heap.size:=(Array.getElem?_eq_some_iff.1 hb).1;obtain ⟨v1,w1,r1,o1,a1,e1,z1⟩:=run_zeros_nil (P:=Tryz.prog) w 35 3 35 3 (.int .i64 0) 1 8 .i64 .i64 u_cloneI uIntT i_cloneI rfl (by decide) (by decide) (n + 1) (by omega) (by omega) ((n + 1:Nat):Int) rfl
 have hb1:w1.heap[g]?=some (.cells (cells0 v6 v7 v8 (.slice none 0 0) (.slice none 0 0) 0) 78 (0,0)):=(a1.other g hlg (fun e=>by cases e)).trans hb
 obtain ⟨q1,c1,hv1,-⟩:=o1.shape;subst hv1;have hb2:(w1.setCell ⟨g,13,none⟩ (.slice q1 (n + 1) c1)).heap[g]?=some (.cells (cells0 v6 v7 v8 (.slice q1 (n + 1) c1) (.slice none 0 0) 0) 78 (0,0)):=heap_setCell_same w1 g 13 _ 78 _ hb1;obtain ⟨w2,hw2⟩:∃ w2,w1.setCell ⟨g,13,none⟩ (.slice q1 (n + 1) c1)=w2:=⟨_,rfl⟩;have s2:w2.heap.size=w.heap.size + 1:=by rw [← hw2];simp;exact z1
 have o2:OL 1 3 w2 (.slice q1 (n + 1) c1) (n + 1) (fun _=>[.int .i64 0]):=by rw [← hw2];exact OL.setg o1 _ (by rw [e1];intro h;injection h with h;omega)
 rw [hw2] at hb2;obtain ⟨v3,w3,r3,o3,a3,e3,z3⟩:=run_zeros_nil (P:=Tryz.prog) w2 54 3 54 2 (.int .i64 0) 1 8 .i64 .i64 uI64s uIntT nI64 rfl (by decide) (by decide) (n + 1) (by omega) (by omega) ((n + 1:Nat):Int) rfl
 have hb3:w3.heap[g]?=some (.cells (cells0 v6 v7 v8 (.slice q1 (n + 1) c1) (.slice none 0 0) 0) 78 (0,0)):=(a3.other g (by omega) (fun e=>by cases e)).trans hb2
 obtain ⟨q3,c3,hv3,-⟩:=o3.shape;subst hv3;have hb4:(w3.setCell ⟨g,14,none⟩ (.slice q3 (n + 1) c3)).heap[g]?=some (.cells (cells0 v6 v7 v8 (.slice q1 (n + 1) c1) (.slice q3 (n + 1) c3) 0) 78 (0,0)):=heap_setCell_same w3 g 14 _ 78 _ hb3;have HE:Hid (∃ v13 v14,(w3.setCell ⟨g,14,none⟩ (.slice q3 (n + 1) c3)).heap[g]?=some (.cells (cells0 v6 v7 v8 v13 v14 0) 78 (0,0))∧OL 1 3 (w3.setCell ⟨g,14,none⟩ (.slice q3 (n + 1) c3)) v13 (n + 1) (fun _=>[.int .i64 0])∧OL 1 2 (w3.setCell ⟨g,14,none⟩ (.slice q3 (n + 1) c3)) v14 (n + 1) (fun _=>[.int .i64 0])∧v13.ownBlock=some w.heap.size∧v14.ownBlock=some (w.heap.size + 1)∧Mv (fun b=>b=g) w (w3.setCell ⟨g,14,none⟩ (.slice q3 (n + 1) c3))):=by
  refine ⟨_,_,hb4,OL.setg (OL.app o2 a3 (fun b _ e=>by cases e)) _ (by rw [e1];intro h;injection h with h;omega),OL.setg o3 _ (by rw [e3];intro h;injection h with h;omega),e1,by rw [e3,s2],?_⟩
  have m1:Mv (fun b=>b=g) w w1:=(Mv.refl _ w).app a1 (fun b hb=>by cases hb)
  have m2:Mv (fun b=>b=g) w w2:=by rw [← hw2];exact m1.set (a:=⟨g,13,none⟩) (Or.inl rfl) _
  exact (m2.app a3 (fun b hb=>by cases hb)).set (a:=⟨g,14,none⟩) (Or.inl rfl) _
 have k13:w.cell? ⟨g,13,none⟩=some (.slice none 0 0):=cell_of_row w g 13 _ _ (0,0) hb;have k13':w1.cell? ⟨g,13,none⟩=some (.slice none 0 0):=cell_of_row w1 g 13 _ _ (0,0) hb1;have f13:w1.frozen? ⟨g,13,none⟩=false:=frozen_of_row w1 g 13 _ _ hb1;have k14:w2.cell? ⟨g,14,none⟩=some (.slice none 0 0):=cell_of_row w2 g 14 _ _ (0,0) hb2;have k14':w3.cell? ⟨g,14,none⟩=some (.slice none 0 0):=cell_of_row w3 g 14 _ _ (0,0) hb3;have f14:w3.frozen? ⟨g,14,none⟩=false:=frozen_of_row w3 g 14 _ _ hb3;have l1:g < w1.heap.size:=by omega
 have l2:g < w2.heap.size:=by omega
 have l3:g < w3.heap.size:=by omega
 clear hb hb1 hb2 hb3 hb4 o1 a1 e1 z1 o2 s2 o3 a3 e3 z3;generalize hnn:((n + 1:Nat):Int)=N at *;clear hnn;go_enter Tryz.func58,Tryz.ntmps58;go_wp2_with (first | (at_builtin;refine Lib.wpList_append_run _ rfl _ _ _ _ rfl _ _ rfl rfl _ _ r1 ?_) | (at_builtin;refine Lib.wpList_append_run _ rfl _ _ _ _ rfl _ _ rfl rfl _ _ r3 ?_))
 go_end0
 exact ⟨rfl,HE.out⟩
end Sat
end Go.Proofs.YtbmkkhpoaicclabGreat
