/- The contracts of room and New; it proves no statement of the seat. -/
import Derived.Test.YtbmkkhpoaicclabGreatSatRmJPauses
namespace Go.Proofs.YtbmkkhpoaicclabGreat
open Go Go.RowKit
set_option linter.unusedVariables false
namespace Sat
open Euf (OL App)
set_option maxRecDepth 20000 in
set_option maxHeartbeats 8000000 in
theorem room_any (g n:Nat) (w:World) (hb:w.heap[g]?=some (.cells (cells0 (.slice none 0 0) (.slice none 0 0) (.slice none 0 0) (.slice none 0 0) (.slice none 0 0) 0) 78 (0,0))) (hn:n≤5000) :
  Calls Tryz.prog 31 #[.pointer (some ⟨g,0,none⟩),.int .i64 (n:Nat)] w fun e w'=>e=.returned (.tuple #[])∧∃ a,SW w' g (fresh n) a∧Mv (fun b=>b=g) w w'∧∀ b,Fo g (fresh n) a b→b=g∨w.heap.size≤b:=by
 have hlg:g < w.heap.size:=(Array.getElem?_eq_some_iff.1 hb).1;have m0:Mv (fun b=>b=g) w w:=Mv.refl _ _
 have k8:w.cell? ⟨g,8,none⟩=some (.slice none 0 0):=cell_of_row w g 8 _ _ (0,0) hb;obtain ⟨v6,wa1,r1,o1,a1,e1,z1⟩:=run_zeros_nil (P:=Tryz.prog) w 58 3 58 111 (.int .i8 0) 1 1 .i64 .i64 uI8s uIntT nI8 rfl (by decide) (by decide) (2*(n + 1)) (by omega) (by omega) ((2*(n + 1):Nat):Int) rfl
 have ha1:wa1.heap[g]?=some (.cells (cells0 (.slice none 0 0) (.slice none 0 0) (.slice none 0 0) (.slice none 0 0) (.slice none 0 0) 0) 78 (0,0)):=(a1.other g (by omega) (fun e=>by cases e)).trans hb
 obtain ⟨q1,c1,hv1,-⟩:=o1.shape;subst hv1;have hbb1:(wa1.setCell ⟨g,6,none⟩ (.slice q1 (2*(n + 1)) c1)).heap[g]?=some (.cells (cells0 (.slice q1 (2*(n + 1)) c1) (.slice none 0 0) (.slice none 0 0) (.slice none 0 0) (.slice none 0 0) 0) 78 (0,0)):=heap_setCell_same wa1 g 6 _ 78 _ ha1;have m1:Mv (fun b=>b=g) w (wa1.setCell ⟨g,6,none⟩ (.slice q1 (2*(n + 1)) c1)):=(m0.app a1 (fun b hb=>by cases hb)).set (a:=⟨g,6,none⟩) (Or.inl rfl) _
 have o1':OL 1 111 (wa1.setCell ⟨g,6,none⟩ (.slice q1 (2*(n + 1)) c1)) (.slice q1 (2*(n + 1)) c1) (2*(n + 1)) (fun _=>(.int .i8 0:Value).cells.toList):=OL.setg o1 _ (by rw [e1];intro h;injection h with h;omega)
 have kc1:w.cell? ⟨g,6,none⟩=some (.slice none 0 0):=cell_of_row w g 6 _ _ (0,0) hb;have kd1:wa1.cell? ⟨g,6,none⟩=some (.slice none 0 0):=cell_of_row wa1 g 6 _ _ (0,0) ha1;have kf1:wa1.frozen? ⟨g,6,none⟩=false:=frozen_of_row wa1 g 6 _ _ ha1;have kl1:g < wa1.heap.size:=by omega
 obtain ⟨wb1,hwb1⟩:∃ wb,wa1.setCell ⟨g,6,none⟩ (.slice q1 (2*(n + 1)) c1)=wb:=⟨_,rfl⟩;have sz1:wb1.heap.size=w.heap.size + 1:=by rw [← hwb1];simp;exact z1
 rw [hwb1] at hbb1 m1 o1' ;clear hb ha1;have hb:=hbb1;obtain ⟨v7,wa2,r2,o2,a2,e2,z2⟩:=run_zeros_nil (P:=Tryz.prog) wb1 59 3 59 131 (.slice none 0 0) 1 24 .i64 .i64 uWss uIntT nWs rfl (by decide) (by decide) (2*(n + 1)) (by omega) (by omega) ((2*(n + 1):Nat):Int) rfl
 have ha2:wa2.heap[g]?=some (.cells (cells0 (.slice q1 (2*(n + 1)) c1) (.slice none 0 0) (.slice none 0 0) (.slice none 0 0) (.slice none 0 0) 0) 78 (0,0)):=(a2.other g (by omega) (fun e=>by cases e)).trans hb
 obtain ⟨q2,c2,hv2,-⟩:=o2.shape;subst hv2;have hbb2:(wa2.setCell ⟨g,7,none⟩ (.slice q2 (2*(n + 1)) c2)).heap[g]?=some (.cells (cells0 (.slice q1 (2*(n + 1)) c1) (.slice q2 (2*(n + 1)) c2) (.slice none 0 0) (.slice none 0 0) (.slice none 0 0) 0) 78 (0,0)):=heap_setCell_same wa2 g 7 _ 78 _ ha2;have m2:Mv (fun b=>b=g) w (wa2.setCell ⟨g,7,none⟩ (.slice q2 (2*(n + 1)) c2)):=(m1.app a2 (fun b hb=>by cases hb)).set (a:=⟨g,7,none⟩) (Or.inl rfl) _
 have o2':OL 1 131 (wa2.setCell ⟨g,7,none⟩ (.slice q2 (2*(n + 1)) c2)) (.slice q2 (2*(n + 1)) c2) (2*(n + 1)) (fun _=>(.slice none 0 0:Value).cells.toList):=OL.setg o2 _ (by rw [e2];intro h;injection h with h;omega)
 have o1_2:OL 1 111 (wa2.setCell ⟨g,7,none⟩ (.slice q2 (2*(n + 1)) c2)) (.slice q1 (2*(n + 1)) c1) (2*(n + 1)) (fun _=>(.int .i8 0:Value).cells.toList):=OL.setg (OL.app o1' a2 (fun b _ e=>by cases e)) _ (by rw [e1];intro h;injection h with h;omega)
 have kc2:wb1.cell? ⟨g,7,none⟩=some (.slice none 0 0):=cell_of_row wb1 g 7 _ _ (0,0) hb;have kd2:wa2.cell? ⟨g,7,none⟩=some (.slice none 0 0):=cell_of_row wa2 g 7 _ _ (0,0) ha2;have kf2:wa2.frozen? ⟨g,7,none⟩=false:=frozen_of_row wa2 g 7 _ _ ha2;have kl2:g < wa2.heap.size:=by omega
 obtain ⟨wb2,hwb2⟩:∃ wb,wa2.setCell ⟨g,7,none⟩ (.slice q2 (2*(n + 1)) c2)=wb:=⟨_,rfl⟩;have sz2:wb2.heap.size=wb1.heap.size + 1:=by rw [← hwb2];simp;exact z2
 rw [hwb2] at hbb2 m2 o2' o1_2;clear hb ha2;have hb:=hbb2;obtain ⟨v8,wa3,r3,o3,a3,e3,z3⟩:=run_zeros_nil (P:=Tryz.prog) wb2 60 3 60 116 (.agg #[.int .i64 0,.int .i64 0,.int .i64 0,.int .i64 0,.bool false,.int .i8 0]) 6 40 .i64 .i64 uFas uIntT nFa rfl (by decide) (by decide) (n + 1) (by omega) (by omega) ((n + 1:Nat):Int) rfl
 have ha3:wa3.heap[g]?=some (.cells (cells0 (.slice q1 (2*(n + 1)) c1) (.slice q2 (2*(n + 1)) c2) (.slice none 0 0) (.slice none 0 0) (.slice none 0 0) 0) 78 (0,0)):=(a3.other g (by omega) (fun e=>by cases e)).trans hb
 obtain ⟨q3,c3,hv3,-⟩:=o3.shape;subst hv3;have hbb3:(wa3.setCell ⟨g,8,none⟩ (.slice q3 (n + 1) c3)).heap[g]?=some (.cells (cells0 (.slice q1 (2*(n + 1)) c1) (.slice q2 (2*(n + 1)) c2) (.slice q3 (n + 1) c3) (.slice none 0 0) (.slice none 0 0) 0) 78 (0,0)):=heap_setCell_same wa3 g 8 _ 78 _ ha3;have m3:Mv (fun b=>b=g) w (wa3.setCell ⟨g,8,none⟩ (.slice q3 (n + 1) c3)):=(m2.app a3 (fun b hb=>by cases hb)).set (a:=⟨g,8,none⟩) (Or.inl rfl) _
 have o3':OL 6 116 (wa3.setCell ⟨g,8,none⟩ (.slice q3 (n + 1) c3)) (.slice q3 (n + 1) c3) (n + 1) (fun _=>(.agg #[.int .i64 0,.int .i64 0,.int .i64 0,.int .i64 0,.bool false,.int .i8 0]:Value).cells.toList):=OL.setg o3 _ (by rw [e3];intro h;injection h with h;omega)
 have o1_3:OL 1 111 (wa3.setCell ⟨g,8,none⟩ (.slice q3 (n + 1) c3)) (.slice q1 (2*(n + 1)) c1) (2*(n + 1)) (fun _=>(.int .i8 0:Value).cells.toList):=OL.setg (OL.app o1_2 a3 (fun b _ e=>by cases e)) _ (by rw [e1];intro h;injection h with h;omega)
 have o2_3:OL 1 131 (wa3.setCell ⟨g,8,none⟩ (.slice q3 (n + 1) c3)) (.slice q2 (2*(n + 1)) c2) (2*(n + 1)) (fun _=>(.slice none 0 0:Value).cells.toList):=OL.setg (OL.app o2' a3 (fun b _ e=>by cases e)) _ (by rw [e2];intro h;injection h with h;omega)
 have kc3:wb2.cell? ⟨g,8,none⟩=some (.slice none 0 0):=cell_of_row wb2 g 8 _ _ (0,0) hb;have kd3:wa3.cell? ⟨g,8,none⟩=some (.slice none 0 0):=cell_of_row wa3 g 8 _ _ (0,0) ha3;have kf3:wa3.frozen? ⟨g,8,none⟩=false:=frozen_of_row wa3 g 8 _ _ ha3;have kl3:g < wa3.heap.size:=by omega
 obtain ⟨wb3,hwb3⟩:∃ wb,wa3.setCell ⟨g,8,none⟩ (.slice q3 (n + 1) c3)=wb:=⟨_,rfl⟩;have sz3:wb3.heap.size=wb2.heap.size + 1:=by rw [← hwb3];simp;exact z3
 rw [hwb3] at hbb3 m3 o3' o1_3 o2_3;clear hb ha3;have hb:=hbb3;have HO:=hide (oroom_any g n (.slice q1 (2*(n + 1)) c1) (.slice q2 (2*(n + 1)) c2) (.slice q3 (n + 1) c3) wb3 hb hn);have hlb3:g < wb3.heap.size:=by omega
 have HK:=hide (And.intro o1_3 (And.intro o2_3 (And.intro o3' (And.intro m3 (And.intro e1 (And.intro e2 (And.intro e3 (And.intro sz1 (And.intro sz2 (And.intro sz3 hlg))))))))));clear o1 a1 e1 z1 o2 a2 e2 z2 o3 a3 e3 z3 o1' o2' o3' o1_2 o1_3 o2_3 m0 m1 m2 m3 hbb1 hbb2 hbb3 sz1 sz2 sz3 hb;have hnI:(n:Int)≤5000:=by omega
 obtain ⟨N1,hN1⟩:∃ N1:Int,((n + 1:Nat):Int)=N1:=⟨_,rfl⟩;obtain ⟨N2,hN2⟩:∃ N2:Int,((2*(n + 1):Nat):Int)=N2:=⟨_,rfl⟩;have hN1':(n:Int) + 1=N1:=by omega
 have hN2':2*N1=N2:=by omega
 rw [hN1] at r3 HO;rw [hN2] at r1 r2;have R1:Hid (∀ x,x=N2→(Builtin.append_ #[58,3] 58 #[.slice none 0 0,.int .i64 x]).run Tryz.prog w=.ok (.slice q1 (2*(n + 1)) c1) wa1):=fun x hx=>by rw [hx];exact r1
 have R2:Hid (∀ x,x=N2→(Builtin.append_ #[59,3] 59 #[.slice none 0 0,.int .i64 x]).run Tryz.prog wb1=.ok (.slice q2 (2*(n + 1)) c2) wa2):=fun x hx=>by rw [hx];exact r2
 have R3:Hid (∀ x,x=N1→(Builtin.append_ #[60,3] 60 #[.slice none 0 0,.int .i64 x]).run Tryz.prog wb2=.ok (.slice q3 (n + 1) c3) wa3):=fun x hx=>by rw [hx];exact r3
 have HN:=hide (And.intro hN1' hN2');have hN1b:N1≤5001:=by omega
 have hN1c:0≤N1:=by omega
 clear r1 r2 r3 hN1 hN2 hN2';go_enter Tryz.func31,Tryz.ntmps31;go_wp2_with (first | (at_builtin;refine Lib.wpList_append_run _ rfl _ _ _ _ rfl _ _ rfl rfl _ _ (R1.out _ (by have:=HN.out.2;omega)) ?_) | (at_builtin;refine Lib.wpList_append_run _ rfl _ _ _ _ rfl _ _ rfl rfl _ _ (R2.out _ (by have:=HN.out.2;omega)) ?_) | (at_builtin;refine Lib.wpList_append_run _ rfl _ _ _ _ rfl _ _ rfl rfl _ _ (R3.out _ (by omega)) ?_))
 refine HO.out.mono ?_;rintro e w5 ⟨rfl,v13,v14,hb5,o13,o14,e13,e14,mv5⟩;have k0:w5.cell? ⟨g,0,none⟩=some (.int .i64 0):=cell_of_row w5 g 0 _ _ (0,0) hb5;have f0:w5.frozen? ⟨g,0,none⟩=false:=frozen_of_row w5 g 0 _ _ hb5;have l5:g < w5.heap.size:=(Array.getElem?_eq_some_iff.1 hb5).1;have HE:Hid (∃ a,SW (w5.setCell ⟨g,0,none⟩ (.int .i64 (n:Nat))) g (fresh n) a∧Mv (fun b=>b=g) w (w5.setCell ⟨g,0,none⟩ (.int .i64 (n:Nat)))∧∀ b,Fo g (fresh n) a b→b=g∨w.heap.size≤b):=by
  obtain ⟨p1,p2,p3,p4,p5,p6,p7,p8,p9,p10,p11⟩:=HK.out;have hb6:(w5.setCell ⟨g,0,none⟩ (.int .i64 (n:Nat))).heap[g]?=some (.cells (cells0 (.slice q1 (2*(n + 1)) c1) (.slice q2 (2*(n + 1)) c2) (.slice q3 (n + 1) c3) v13 v14 n) 78 (0,0)):=heap_setCell_same w5 g 0 _ 78 _ hb5;have st:∀ {sz:Nat} {e:TypeId} {v:Value} {m:Nat} {f:Nat→List Value} {b:Nat},OL sz e wb3 v m f→v.ownBlock=some b→b≠g→OL sz e (w5.setCell ⟨g,0,none⟩ (.int .i64 (n:Nat))) v m f:=fun h1 h2 h3=>OL.setg (h1.stay (fun b9 hb9=>mv5.other b9 (h1.lt hb9) (fun e9=>h3 (by rw [h2] at hb9;injection hb9 with hb9;omega)))) _ (by rw [h2];intro h9;injection h9 with h9;exact h3 h9)
  refine ⟨aF (.slice q1 (2*(n + 1)) c1) (.slice q2 (2*(n + 1)) c2) (.slice q3 (n + 1) c3) v13 v14,SW.fresh_ (b6:=w.heap.size) (b7:=wb1.heap.size) (b8:=wb2.heap.size) (b13:=wb3.heap.size) (b14:=wb3.heap.size + 1) hb6 (st p1 p5 (by omega)) (st p2 p6 (by omega)) (st p3 p7 (by omega)) (OL.setg o13 _ (by rw [e13];intro h9;injection h9 with h9;omega)) (OL.setg o14 _ (by rw [e14];intro h9;injection h9 with h9;omega)) p5 p6 p7 e13 e14 (by omega) (by omega) (by omega) (by omega),(p4.trans mv5 (fun b hb=>Or.inl hb)).set (a:=⟨g,0,none⟩) (Or.inl rfl) _,fun b hb=>?_⟩
  rcases hb with h9 | ⟨k,-,h9⟩
  · exact Or.inl h9
  ·
   right
   rcases aF_own h9 with ⟨-,h8⟩ | ⟨-,h8⟩ | ⟨-,h8⟩ | ⟨-,h8⟩ | ⟨-,h8⟩
   · rw [p5] at h8;injection h8 with h8;omega
   · rw [p6] at h8;injection h8 with h8;omega
   · rw [p7] at h8;injection h8 with h8;omega
   · rw [e13] at h8;injection h8 with h8;omega
   · rw [e14] at h8;injection h8 with h8;omega
 clear hb5 o13 o14 e13 e14 mv5 HO HK;go_wp2;go_end0
 exact ⟨rfl,HE.out⟩
set_option maxRecDepth 20000 in
set_option maxHeartbeats 8000000 in
theorem new_any (n:Nat) (w:World) (hn:n≤4096) :
  Calls Tryz.prog 11 #[.int .i64 (n:Nat)] w fun e w'=>e=.returned (.tuple #[.pointer (some ⟨w.heap.size,0,none⟩),.int .i64 0])∧∃ a,SW w' w.heap.size (fresh n) a∧Below w.heap.size w w'∧∀ b,Fo w.heap.size (fresh n) a b→w.heap.size≤b:=by
 have hnI:¬ ((n:Int) < 0):=by omega
 have hnJ:(n:Int)≤4096:=by omega
 obtain ⟨w1,hw1⟩:∃ w1,w.alloc (.cells (cells0 (.slice none 0 0) (.slice none 0 0) (.slice none 0 0) (.slice none 0 0) (.slice none 0 0) 0) 78 (0,0))=w1:=⟨_,rfl⟩;have hb1:w1.heap[w.heap.size]?=some (.cells (cells0 (.slice none 0 0) (.slice none 0 0) (.slice none 0 0) (.slice none 0 0) (.slice none 0 0) 0) 78 (0,0)):=by rw [← hw1];exact heap_alloc_new w _
 have s1:w1.heap.size=w.heap.size + 1:=by rw [← hw1];simp
 have b1:Below w.heap.size w w1:=by rw [← hw1];exact (Below.refl _ _).alloc (Nat.le_refl _) _
 have HR:=hide (room_any w.heap.size n w1 hb1 (by omega))
 have HB:=hide (And.intro b1 s1);unfold cells0 at hw1;have hw1':w.alloc (.cells #[.int .i64 0,.int .i64 0,.slice none 0 0,.slice none 0 0,.int .i64 (-1),.bool false,.slice none 0 0,.slice none 0 0,.slice none 0 0,.slice none 0 0,.slice none 0 0,.int .i64 0,.slice none 0 0,.slice none 0 0,.slice none 0 0,.int .i64 256,.slice none 0 0,.int .i64 0,.slice none 0 0,.int .u32 0,.int .i32 0,.int .u32 0,.slice none 0 0] 78 (0,0))=w1:=hw1;clear hb1 s1 b1 hw1;go_enter Tryz.func11,Tryz.ntmps11;go_wp2_with fail
 refine HR.out.mono ?_;rintro e w2 ⟨rfl,a,s2,m2,f2⟩;have HE:Hid (∃ a,SW w2 w.heap.size (fresh n) a∧Below w.heap.size w w2∧∀ b,Fo w.heap.size (fresh n) a b→w.heap.size≤b):=⟨a,s2,HB.out.1.trans (m2.toBelow (by have:=HB.out.2;omega) (fun b hb=>by omega)),fun b hb=>by
  rcases f2 b hb with h9 | h9
  · omega
  · have:=HB.out.2;omega⟩
 clear s2 m2 f2 HR HB;go_wp2;go_ret2
 exact ⟨rfl,HE.out⟩
end Sat
end Go.Proofs.YtbmkkhpoaicclabGreat
