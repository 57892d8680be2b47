/- Joined: SatGx, SatRo, SatSr, SatSw: words and contracts; no statement of the seat is proved here. -/
import Derived.Test.YtbmkkhpoaicclabGreatJoin24Grows
import Derived.Test.YtbmkkhpoaicclabGreatJoin21Grows
namespace Go.Proofs.YtbmkkhpoaicclabGreat
open Go Go.RowKit
set_option linter.unusedVariables false
namespace Sat
open Euf (OL App)
def RmF (N g c m nv:Nat) (v6 v7 v8 v13 v14:Value) (w w':World):Prop:=∃u6 u7 u8 u13 u14,FR w' g (c+m) nv u6 u7 u8 u13 u14∧(N≤w.heap.size→N≤g→Own5 N v6 v7 v8 v13 v14→Own5 N u6 u7 u8 u13 u14∧Below N w w')
set_option maxRecDepth 20000 in
set_option maxHeartbeats 16000000 in
theorem roomF_any (N g c m nv n:Nat) (v6 v7 v8 v13 v14:Value) (w:World) (h:FR w g c nv v6 v7 v8 v13 v14) (hm:c+m≤5001) (hn:n+1=c+m) :
  Calls Tryz.prog 31 #[.pointer (some ⟨g,0,none⟩),.int .i64 (n:Nat)] w fun e w'=>e=.returned (.tuple #[])∧RmF N g c m n v6 v7 v8 v13 v14 w w':=by
 have hlg:=h.lt;obtain⟨L,hL⟩:∃L,2*c=L:=⟨_,rfl⟩;obtain⟨K,hK⟩:∃K,2*m=K:=⟨_,rfl⟩;have hb0:=h.bk;have h6:=h.o6;have h7:=h.o7;have h8:=h.o8;have h13:=h.o13;have h14:=h.o14;rw[hL]at h6 h7;clear h;obtain⟨q6,p6,hv6,-⟩:=h6.shape;obtain⟨q7,p7,hv7,-⟩:=h7.shape;obtain⟨q8,p8,hv8,-⟩:=h8.shape;subst hv6 hv7 hv8;have k8:w.cell? ⟨g,8,none⟩=some (.slice q8 c p8):=cell_of_row w g 8 _ _ (0,0) hb0;obtain⟨v6',wa1,r1,o1,a1⟩:=run_zeros (P:=Tryz.prog) w 58 3 58 111 (.int .i8 0) 1 1 .i64 .i64 uI8s uIntT nI8 rfl (by decide) (by decide) (oneI _ _) (.slice q6 L p6) L h6 K (by omega) (K:Nat) rfl
 have o1:OL 1 111 wa1 v6' (L+K) (fun _=>[.int .i8 0]):=o1
 have hba1:=bk_over hb0 h6 a1 (by decide)
 obtain⟨y6,x6,hvy6,-⟩:=o1.shape;subst hvy6;have hbb1:(wa1.setCell ⟨g,6,none⟩ (.slice y6 (L+K) x6)).heap[g]?=some (.cells (cells0 (.slice y6 (L+K) x6) (.slice q7 L p7) (.slice q8 c p8) v13 v14 nv) 78 (0,0)):=heap_setCell_same wa1 g 6 _ 78 _ hba1;have kc1:w.cell? ⟨g,6,none⟩=some (.slice q6 L p6):=cell_of_row w g 6 _ _ (0,0) hb0;have kd1:wa1.cell? ⟨g,6,none⟩=some (.slice q6 L p6):=cell_of_row wa1 g 6 _ _ (0,0) hba1;have kf1:wa1.frozen? ⟨g,6,none⟩=false:=frozen_of_row wa1 g 6 _ _ hba1;have kl1:g<wa1.heap.size:=(Array.getElem?_eq_some_iff.1 hba1).1;have s1_6:=ol_self (i:=6) o1 hba1 (by decide)
 have s1_7:=ol_over (i:=6) h7 h6 a1 (by decide) hb0 (by decide)
 have s1_8:=ol_over (i:=6) h8 h6 a1 (by decide) hb0 (by decide)
 have s1_13:=ol_over (i:=6) h13 h6 a1 (by decide) hb0 (by decide)
 have s1_14:=ol_over (i:=6) h14 h6 a1 (by decide) hb0 (by decide)
 have mv1:∀N,N≤w.heap.size→N≤g→(∀b,(Value.slice q6 L p6).ownBlock=some b→N≤b)→Below N w (wa1.setCell ⟨g,6,none⟩ (.slice y6 (L+K) x6))∧∀b,(Value.slice y6 (L+K) x6).ownBlock=some b→N≤b:=fun N h1 h2 h3=>⟨mv_over a1 h3 h1 h2,own_over a1 h3 h1⟩
 obtain⟨wb1,hwwb1⟩:∃x,wa1.setCell ⟨g,6,none⟩ (.slice y6 (L+K) x6)=x:=⟨_,rfl⟩;rw[hwwb1]at hbb1 s1_6 s1_7 s1_8 s1_13 s1_14 mv1;have lb1:g<wb1.heap.size:=(Array.getElem?_eq_some_iff.1 hbb1).1;obtain⟨v7',wa2,r2,o2,a2⟩:=run_zeros (P:=Tryz.prog) wb1 59 3 59 131 (.slice none 0 0) 1 24 .i64 .i64 uWss uIntT nWs rfl (by decide) (by decide) oneS (.slice q7 L p7) L s1_7 K (by omega) (K:Nat) rfl
 have o2:OL 1 131 wa2 v7' (L+K) (fun _=>[.slice none 0 0]):=o2
 have hba2:=bk_over hbb1 s1_7 a2 (by decide)
 obtain⟨y7,x7,hvy7,-⟩:=o2.shape;subst hvy7;have hbb2:(wa2.setCell ⟨g,7,none⟩ (.slice y7 (L+K) x7)).heap[g]?=some (.cells (cells0 (.slice y6 (L+K) x6) (.slice y7 (L+K) x7) (.slice q8 c p8) v13 v14 nv) 78 (0,0)):=heap_setCell_same wa2 g 7 _ 78 _ hba2;have kc2:wb1.cell? ⟨g,7,none⟩=some (.slice q7 L p7):=cell_of_row wb1 g 7 _ _ (0,0) hbb1;have kd2:wa2.cell? ⟨g,7,none⟩=some (.slice q7 L p7):=cell_of_row wa2 g 7 _ _ (0,0) hba2;have kf2:wa2.frozen? ⟨g,7,none⟩=false:=frozen_of_row wa2 g 7 _ _ hba2;have kl2:g<wa2.heap.size:=(Array.getElem?_eq_some_iff.1 hba2).1;have s2_6:=ol_over (i:=7) s1_6 s1_7 a2 (by decide) hbb1 (by decide)
 have s2_7:=ol_self (i:=7) o2 hba2 (by decide)
 have s2_8:=ol_over (i:=7) s1_8 s1_7 a2 (by decide) hbb1 (by decide)
 have s2_13:=ol_over (i:=7) s1_13 s1_7 a2 (by decide) hbb1 (by decide)
 have s2_14:=ol_over (i:=7) s1_14 s1_7 a2 (by decide) hbb1 (by decide)
 have mv2:∀N,N≤wb1.heap.size→N≤g→(∀b,(Value.slice q7 L p7).ownBlock=some b→N≤b)→Below N wb1 (wa2.setCell ⟨g,7,none⟩ (.slice y7 (L+K) x7))∧∀b,(Value.slice y7 (L+K) x7).ownBlock=some b→N≤b:=fun N h1 h2 h3=>⟨mv_over a2 h3 h1 h2,own_over a2 h3 h1⟩
 obtain⟨wb2,hwwb2⟩:∃x,wa2.setCell ⟨g,7,none⟩ (.slice y7 (L+K) x7)=x:=⟨_,rfl⟩;rw[hwwb2]at hbb2 s2_6 s2_7 s2_8 s2_13 s2_14 mv2;have lb2:g<wb2.heap.size:=(Array.getElem?_eq_some_iff.1 hbb2).1;obtain⟨v8',wa3,r3,o3,a3⟩:=run_zeros (P:=Tryz.prog) wb2 60 3 60 116 (.agg #[.int .i64 0,.int .i64 0,.int .i64 0,.int .i64 0,.bool false,.int .i8 0]) 6 40 .i64 .i64 uFas uIntT nFa rfl (by decide) (by decide) oneF (.slice q8 c p8) c s2_8 m (by omega) (m:Nat) rfl
 have o3:OL 6 116 wa3 v8' (c+m) (fun _=>[.int .i64 0,.int .i64 0,.int .i64 0,.int .i64 0,.bool false,.int .i8 0]):=o3
 have hba3:=bk_over hbb2 s2_8 a3 (by decide)
 obtain⟨y8,x8,hvy8,-⟩:=o3.shape;subst hvy8;have hbb3:(wa3.setCell ⟨g,8,none⟩ (.slice y8 (c+m) x8)).heap[g]?=some (.cells (cells0 (.slice y6 (L+K) x6) (.slice y7 (L+K) x7) (.slice y8 (c+m) x8) v13 v14 nv) 78 (0,0)):=heap_setCell_same wa3 g 8 _ 78 _ hba3;have kc3:wb2.cell? ⟨g,8,none⟩=some (.slice q8 c p8):=cell_of_row wb2 g 8 _ _ (0,0) hbb2;have kd3:wa3.cell? ⟨g,8,none⟩=some (.slice q8 c p8):=cell_of_row wa3 g 8 _ _ (0,0) hba3;have kf3:wa3.frozen? ⟨g,8,none⟩=false:=frozen_of_row wa3 g 8 _ _ hba3;have kl3:g<wa3.heap.size:=(Array.getElem?_eq_some_iff.1 hba3).1;have s3_6:=ol_over (i:=8) s2_6 s2_8 a3 (by decide) hbb2 (by decide)
 have s3_7:=ol_over (i:=8) s2_7 s2_8 a3 (by decide) hbb2 (by decide)
 have s3_8:=ol_self (i:=8) o3 hba3 (by decide)
 have s3_13:=ol_over (i:=8) s2_13 s2_8 a3 (by decide) hbb2 (by decide)
 have s3_14:=ol_over (i:=8) s2_14 s2_8 a3 (by decide) hbb2 (by decide)
 have mv3:∀N,N≤wb2.heap.size→N≤g→(∀b,(Value.slice q8 c p8).ownBlock=some b→N≤b)→Below N wb2 (wa3.setCell ⟨g,8,none⟩ (.slice y8 (c+m) x8))∧∀b,(Value.slice y8 (c+m) x8).ownBlock=some b→N≤b:=fun N h1 h2 h3=>⟨mv_over a3 h3 h1 h2,own_over a3 h3 h1⟩
 obtain⟨wb3,hwwb3⟩:∃x,wa3.setCell ⟨g,8,none⟩ (.slice y8 (c+m) x8)=x:=⟨_,rfl⟩;rw[hwwb3]at hbb3 s3_6 s3_7 s3_8 s3_13 s3_14 mv3;have lb3:g<wb3.heap.size:=(Array.getElem?_eq_some_iff.1 hbb3).1;have HO:=hide (oroomF_any N g c nv m (L+K) (c+m) (.slice y6 (L+K) x6) (.slice y7 (L+K) x7) (.slice y8 (c+m) x8) v13 v14 wb3 hbb3 s3_6 s3_7 s3_8 s3_13 s3_14 (by omega))
 have HMV:Hid (N≤w.heap.size→N≤g→Own5 N (.slice q6 L p6) (.slice q7 L p7) (.slice q8 c p8) v13 v14→Own5 N (.slice y6 (L+K) x6) (.slice y7 (L+K) x7) (.slice y8 (c+m) x8) v13 v14∧Below N w wb3):=by
  rintro n1 n2 ⟨u6,u7,u8,u13,u14⟩;obtain⟨m1,m2⟩:=mv1 N n1 n2 u6;have n3:=Nat.le_trans n1 m1.size;obtain⟨m3,m4⟩:=mv2 N n3 n2 u7;have n4:=Nat.le_trans n3 m3.size;obtain⟨m5,m6⟩:=mv3 N n4 n2 u8;exact⟨⟨m2,m4,m6,u13,u14⟩,(m1.trans m3).trans m5⟩
 clear h6 h7 h8 h13 h14 hb0 o1 a1 hba1 hbb1 mv1 s1_6 s1_7 s1_8 s1_13 s1_14 o2 a2 hba2 hbb2 mv2 s2_6 s2_7 s2_8 s2_13 s2_14 o3 a3 hba3 hbb3 mv3 s3_6 s3_7 s3_8 s3_13 s3_14;obtain⟨M,hM⟩:∃M:Int,((m:Nat):Int)=M:=⟨_,rfl⟩;obtain⟨KI,hKI⟩:∃KI:Int,((K:Nat):Int)=KI:=⟨_,rfl⟩;have hnc:(n:Int)+1 - (c:Int)=M:=by omega
 have hM2:2*M=KI:=by omega
 have hnI:(n:Int)≤5000:=by omega
 have hcI:(c:Int)≤5001:=by omega
 have hc0:(0:Int)≤c:=by omega
 have hMI:M≤5001:=by omega
 have hM0:0≤M:=by omega
 rw[hM]at r3 HO;rw[hKI]at r1 r2;have R1:Hid (∀x,x=KI→(Builtin.append_ #[58,3] 58 #[.slice q6 L p6,.int .i64 x]).run Tryz.prog w=.ok (.slice y6 (L+K) x6) wa1):=fun x hx=>by rw[hx];exact r1
 have R2:Hid (∀x,x=KI→(Builtin.append_ #[59,3] 59 #[.slice q7 L p7,.int .i64 x]).run Tryz.prog wb1=.ok (.slice y7 (L+K) x7) wa2):=fun x hx=>by rw[hx];exact r2
 have R3:Hid (∀x,x=M→(Builtin.append_ #[60,3] 60 #[.slice q8 c p8,.int .i64 x]).run Tryz.prog wb2=.ok (.slice y8 (c+m) x8) wa3):=fun x hx=>by rw[hx];exact r3
 have HN:=hide (And.intro hnc (And.intro hM2 (And.intro hL hK)));have HNN:=hide hn;clear r1 r2 r3 hM hKI hM2 hL hK hn hm;go_enter Tryz.func31,Tryz.ntmps31;go_wp2_with (first|(at_builtin;refine Lib.wpList_append_run _ rfl _ _ _ _ rfl _ _ rfl rfl _ _ (R1.out _ (by have:=HN.out.2.1;omega)) ?_)|(at_builtin;refine Lib.wpList_append_run _ rfl _ _ _ _ rfl _ _ rfl rfl _ _ (R2.out _ (by have:=HN.out.2.1;omega)) ?_)|(at_builtin;refine Lib.wpList_append_run _ rfl _ _ _ _ rfl _ _ rfl rfl _ _ (R3.out _ (by first|rfl|omega)) ?_))
 refine HO.out.mono ?_;rintro e w5 ⟨rfl,u13,u14,hb5,k13,k14,k6,k7,k8',kk⟩;have k0:w5.cell? ⟨g,0,none⟩=some (.int .i64 (nv:Nat)):=cell_of_row w5 g 0 _ _ (0,0) hb5;have f0:w5.frozen? ⟨g,0,none⟩=false:=frozen_of_row w5 g 0 _ _ hb5;have l5:g<w5.heap.size:=(Array.getElem?_eq_some_iff.1 hb5).1;have e2:L+K=2*(c+m):=by have:=HN.out.2.2.1;have:=HN.out.2.2.2;omega
 have HE:Hid (RmF N g c m n (.slice q6 L p6) (.slice q7 L p7) (.slice q8 c p8) v13 v14 w (w5.setCell ⟨g,0,none⟩ (.int .i64 (n:Nat)))):=by
  have hb6:(w5.setCell ⟨g,0,none⟩ (.int .i64 (n:Nat))).heap[g]?=some (.cells (cells0 (.slice y6 (L+K) x6) (.slice y7 (L+K) x7) (.slice y8 (c+m) x8) u13 u14 n) 78 (0,0)):=heap_setCell_same w5 g 0 _ 78 _ hb5;have st:∀{sz:Nat} {e:TypeId} {v:Value} {k:Nat} {f:Nat→List Value},OL sz e w5 v k f→e≠78→OL sz e (w5.setCell ⟨g,0,none⟩ (.int .i64 (n:Nat))) v k f:=fun ho he=>ho.stay (fun b hb9=>heap_setCell_other w5 ⟨g,0,none⟩ b _ (fun e9=>ho.neB hb5 he (by rw[hb9,e9])))
  refine⟨_,_,_,u13,u14,⟨hb6,by have h9:=st k6 (by decide);rw[← e2];exact h9,by have h9:=st k7 (by decide);rw[← e2];exact h9,st k8' (by decide),st k13 (by decide),st k14 (by decide)⟩,fun n1 n2 ow=>?_⟩
  obtain⟨o1,m1⟩:=HMV.out n1 n2 ow;obtain⟨o2,m2⟩:=kk (Nat.le_trans n1 m1.size) n2 o1;refine⟨o2,(m1.trans m2).trans ⟨rfl,rfl,rfl,by simp,fun b hb=>heap_setCell_other w5 ⟨g,0,none⟩ b _ (by show b≠g;omega)⟩⟩
 clear hb5 k13 k14 k6 k7 k8' kk HO HMV e2;go_wp2;go_end0
 exact⟨rfl,HE.out⟩
end Sat
namespace Sat
open Euf (OL App)
theorem OL.own1 {sz:Nat} {e:TypeId} {w:World} {v:Value} {n:Nat} {f:Nat→List Value} (h:OL sz e w v n f) (hn:0<n):∃b,v.ownBlock=some b:=by
 obtain⟨g,cap,rfl,-⟩:=h.open 0 hn;exact⟨g,rfl⟩
theorem OL.ne2 {sz sz2:Nat} {e e2:TypeId} {w:World} {v v2:Value} {n n2:Nat} {f f2:Nat→List Value} {b b2:Nat} (h:OL sz e w v n f) (h2:OL sz2 e2 w v2 n2 f2) (he:e≠e2) (h3:v.ownBlock=some b) (h4:v2.ownBlock=some b2):b≠b2:=fun e9=>by
  subst e9
  exact h.ne h2 he h3 h4
theorem FR.sw {w:World} {g n:Nat} {v6 v7 v8 v13 v14:Value} (h:FR w g (n+1) n v6 v7 v8 v13 v14):SW w g (fresh n) (aF v6 v7 v8 v13 v14):=by
 obtain⟨b6,e6⟩:=OL.own1 h.o6 (by omega)
 obtain⟨b7,e7⟩:=OL.own1 h.o7 (by omega)
 obtain⟨b8,e8⟩:=OL.own1 h.o8 (by omega)
 obtain⟨b13,e13⟩:=OL.own1 h.o13 (by omega)
 obtain⟨b14,e14⟩:=OL.own1 h.o14 (by omega)
 have n1:=OL.ne2 h.o6 h.o7 (by decide) e6 e7
 have n2:=OL.ne2 h.o6 h.o8 (by decide) e6 e8
 have n3:=OL.ne2 h.o6 h.o13 (by decide) e6 e13
 have n4:=OL.ne2 h.o6 h.o14 (by decide) e6 e14
 have n5:=OL.ne2 h.o7 h.o8 (by decide) e7 e8
 have n6:=OL.ne2 h.o7 h.o13 (by decide) e7 e13
 have n7:=OL.ne2 h.o7 h.o14 (by decide) e7 e14
 have n8:=OL.ne2 h.o8 h.o13 (by decide) e8 e13
 have n9:=OL.ne2 h.o8 h.o14 (by decide) e8 e14
 have n10:=OL.ne2 h.o13 h.o14 (by decide) e13 e14
 refine⟨h.bk,?_,?_⟩
 ·
  rintro⟨i,j⟩ hk;match i,hk with
  | 0,_=>exact h.o6
  | 1,_=>exact h.o7
  | 2,_=>exact h.o8
  | 3,_=>exact OL.nil _ _ _ _
  | 4,_=>exact OL.nil _ _ _ _
  | 5,_=>exact OL.nil _ _ _ _
  | 6,_=>exact h.o13
  | 7,_=>exact h.o14
  | 8,_=>exact OL.nil _ _ _ _
  | 9,_=>exact OL.nil _ _ _ _
  | 10,_=>exact OL.nil _ _ _ _
  | 11,_=>exact OL.nil _ _ _ _
  | 12,hk=>exact absurd hk (Nat.not_lt_zero _)
  | 13,_=>exact OL.nil _ _ _ _
  | 14,hk=>exact absurd hk (Nat.not_lt_zero _)
  | m+15,hk=>exact absurd hk.1 (by show ¬ (m+15<12);omega)
 ·
  rintro⟨i,i'⟩ ⟨j,j'⟩ b hi hj h1 h2;rw[rows_v]at h1 h2;have z0:∀{i i':Nat},dom (fresh n) (i,i')→i<12→i'=0:=fun {i i'} h hl=>by
   match i,h,hl with
   | 0,h,_=>exact h.2
   | 1,h,_=>exact h.2
   | 2,h,_=>exact h.2
   | 3,h,_=>exact h.2
   | 4,h,_=>exact h.2
   | 5,h,_=>exact h.2
   | 6,h,_=>exact h.2
   | 7,h,_=>exact h.2
   | 8,h,_=>exact h.2
   | 9,h,_=>exact h.2
   | 10,h,_=>exact h.2
   | 11,h,_=>exact h.2
   | m+12,_,hl=>omega
  have key:∀{i i':Nat},dom (fresh n) (i,i')→(aF v6 v7 v8 v13 v14 (i,i')).ownBlock=some b→i'=0∧((i=0∧b=b6)∨(i=1∧b=b7)∨(i=2∧b=b8)∨(i=6∧b=b13)∨(i=7∧b=b14)):=fun {i i'} hd h=>by
   have h9:(i=0∧b=b6)∨(i=1∧b=b7)∨(i=2∧b=b8)∨(i=6∧b=b13)∨(i=7∧b=b14):=by
    rcases aF_own h with⟨k1,k2⟩|⟨k1,k2⟩|⟨k1,k2⟩|⟨k1,k2⟩|⟨k1,k2⟩
    · rw[e6]at k2;injection k2 with k2;exact Or.inl ⟨k1,k2.symm⟩
    · rw[e7]at k2;injection k2 with k2;exact Or.inr (Or.inl ⟨k1,k2.symm⟩)
    · rw[e8]at k2;injection k2 with k2;exact Or.inr (Or.inr (Or.inl ⟨k1,k2.symm⟩))
    · rw[e13]at k2;injection k2 with k2;exact Or.inr (Or.inr (Or.inr (Or.inl ⟨k1,k2.symm⟩)))
    · rw[e14]at k2;injection k2 with k2;exact Or.inr (Or.inr (Or.inr (Or.inr ⟨k1,k2.symm⟩)))
   exact⟨z0 hd (by omega),h9⟩
  obtain⟨p1,p2⟩:=key hi h1;obtain⟨q1,q2⟩:=key hj h2;have:i=j:=by omega
  rw[this,p1,q1]
theorem Own5.fo {N g n:Nat} {v6 v7 v8 v13 v14:Value} (h:Own5 N v6 v7 v8 v13 v14) (hg:N≤g):∀b,Fo g (fresh n) (aF v6 v7 v8 v13 v14) b→N≤b:=fun b hb=>by
  rcases hb with rfl|⟨k,-,h9⟩
  · exact hg
  · rcases aF_own h9 with⟨-,h8⟩|⟨-,h8⟩|⟨-,h8⟩|⟨-,h8⟩|⟨-,h8⟩
    · exact h.1 b h8
    · exact h.2.1 b h8
    · exact h.2.2.1 b h8
    · exact h.2.2.2.1 b h8
    · exact h.2.2.2.2 b h8
def FRs (N g n:Nat) (w0 w:World):Prop:=∃v6 v7 v8 v13 v14,FR w g (n+1) n v6 v7 v8 v13 v14∧N≤g∧Own5 N v6 v7 v8 v13 v14∧Below N w0 w
set_option maxRecDepth 20000 in
set_option maxHeartbeats 8000000 in
theorem newF_any (n:Nat) (w:World) (hn:n≤4096):Calls Tryz.prog 11 #[.int .i64 (n:Nat)] w fun e w'=>e=.returned (.tuple #[.pointer (some ⟨w.heap.size,0,none⟩),.int .i64 0])∧FRs w.heap.size w.heap.size n w w':=by
 have hnI:¬ ((n:Int)<0):=by omega
 have hnJ:(n:Int)≤4096:=by omega
 obtain⟨w1,hw1⟩:∃w1,w.alloc (.cells (cells0 (.slice none 0 0) (.slice none 0 0) (.slice none 0 0) (.slice none 0 0) (.slice none 0 0) 0) 78 (0,0))=w1:=⟨_,rfl⟩;have hb1:w1.heap[w.heap.size]?=some (.cells (cells0 (.slice none 0 0) (.slice none 0 0) (.slice none 0 0) (.slice none 0 0) (.slice none 0 0) 0) 78 (0,0)):=by rw[← hw1];exact heap_alloc_new w _
 have b1:Below w.heap.size w w1:=by rw[← hw1];exact (Below.refl _ _).alloc (Nat.le_refl _) _
 have f1:FR w1 w.heap.size 0 0 (.slice none 0 0) (.slice none 0 0) (.slice none 0 0) (.slice none 0 0) (.slice none 0 0):=⟨hb1,OL.nil _ _ _ _,OL.nil _ _ _ _,OL.nil _ _ _ _,OL.nil _ _ _ _,OL.nil _ _ _ _⟩;have HR:=hide (roomF_any w.heap.size w.heap.size 0 (n+1) 0 n _ _ _ _ _ w1 f1 (by omega) (by omega))
 have HB:=hide b1;unfold cells0 at hw1;have hw1':w.alloc (.cells #[.int .i64 0,.int .i64 0,.slice none 0 0,.slice none 0 0,.int .i64 (-1),.bool false,.slice none 0 0,.slice none 0 0,.slice none 0 0,.slice none 0 0,.slice none 0 0,.int .i64 0,.slice none 0 0,.slice none 0 0,.slice none 0 0,.int .i64 256,.slice none 0 0,.int .i64 0,.slice none 0 0,.int .u32 0,.int .i32 0,.int .u32 0,.slice none 0 0] 78 (0,0))=w1:=hw1;clear hb1 b1 hw1 f1;go_enter Tryz.func11,Tryz.ntmps11;go_wp2_with fail
 refine HR.out.mono ?_;rintro e w2 ⟨rfl,u6,u7,u8,u13,u14,f2,k2⟩;rw[Nat.zero_add]at f2;have HE:Hid (FRs w.heap.size w.heap.size n w w2):=by
  obtain⟨o1,o2⟩:=k2 HB.out.size (Nat.le_refl _) ⟨fun b h=>(by cases h),fun b h=>(by cases h),fun b h=>(by cases h),fun b h=>(by cases h),fun b h=>(by cases h)⟩
  exact⟨u6,u7,u8,u13,u14,f2,Nat.le_refl _,o1,HB.out.trans o2⟩
 clear f2 k2 HR HB;go_wp2;go_ret2
 exact⟨rfl,HE.out⟩
theorem new_any (n:Nat) (w:World) (hn:n≤4096) :
  Calls Tryz.prog 11 #[.int .i64 (n:Nat)] w fun e w'=>e=.returned (.tuple #[.pointer (some ⟨w.heap.size,0,none⟩),.int .i64 0])∧∃a,SW w' w.heap.size (fresh n) a∧Below w.heap.size w w'∧∀b,Fo w.heap.size (fresh n) a b→w.heap.size≤b:=by
 refine (newF_any n w hn).mono ?_;rintro e w' ⟨he,v6,v7,v8,v13,v14,f,hg,ow,bl⟩;exact⟨he,_,f.sw,bl,ow.fo hg⟩
end Sat
open Go.RowKit
namespace Sat
open Euf (OL App)
structure Cn (st ro le:Int):Prop where
  r1:1≤ro
  r2:ro≤st+1
  l1:-st≤le
  l2:le≤64*(st+1)
theorem Cn.step {st ro le:Int} (c:Cn st ro le) (h0:0≤st):Cn (st+1) ro (le - 1):=⟨c.r1,by have:=c.r2;omega,by have:=c.l1;omega,by have:=c.l2;omega⟩
theorem Cn.same {st ro le:Int} (c:Cn st ro le) (h0:0≤st):Cn (st+1) ro le:=⟨c.r1,by have:=c.r2;omega,by have:=c.l1;omega,by have:=c.l2;omega⟩
set_option maxRecDepth 20000 in
set_option maxHeartbeats 16000000 in
theorem search_any (g:Nat) (d0:Dt) (a0:Key→Value) (I:List (List Nat)) (A:Nat) (U:List Nat) (bu:Int) (w:World) (hw:SW w g d0 a0) (hc:SC d0 d0 I A U [] bu) (hf:FI d0 U) (hs0:d0.steps=0) (hn:d0.nv≤5000) (hA:A+bu.toNat≤90000000) :
  Calls Tryz.prog 38 #[.pointer (some ⟨g,0,none⟩),.int .i64 bu] w fun e w'=>SrEnd g d0 a0 I A U bu w e w':=by
 have H0:=hide (And.intro hw (And.intro hc (And.intro hf hs0)));clear hw hc hf hs0;go_enter Tryz.func38,Tryz.ntmps38;go_wp2;go_loopg [5,6] bu.toNat (fun gk v5 v6 wr=>∃(d:Dt) (a:Key→Value) (K:List Nat) (ro le:Int),v5=.int .i64 ro∧v6=.int .i64 le∧Hid ((bu - d.steps).toNat=gk∧SW wr g d a∧Mo g d0 a0 w d a wr∧SC d0 d I A U K bu∧FI d U∧Cn d.steps ro le))
 case atStart=>exact⟨d0,a0,[],1,64,rfl,rfl,by rw[H0.out.2.2.2];simp,H0.out.1,Mo.refl _ _ _ _,H0.out.2.1,H0.out.2.2.1,by rw[H0.out.2.2.2];exact⟨by omega,by omega,by omega,by omega⟩⟩
 case round =>
  rename World=>wl
  clear H0;obtain⟨d,a,K,ro,le,rfl,rfl,H⟩:=hrel;have hnv:d.nv=d0.nv:=H.out.2.2.2.1.sx.nv;have hAK:A+K.length≤90000000:=by
   have h1:=H.out.2.2.2.1.s3;have h2:=H.out.2.2.2.1.s1;omega
  have hst:d.steps≤90000000:=by
   have h2:=H.out.2.2.2.1.s1;omega
  have hst0:0≤d.steps:=H.out.2.2.2.1.s0;have HF:=hide (follow_any g d a I (A+K.length) U wl H.out.2.1 H.out.2.2.2.1.bs H.out.2.2.2.2.1 (by omega) hAK)
  go_wp2_with fail
  refine HF.out.mono ?_;rintro e w1 ⟨d1,a1,s1,m1,sf1,b1,hcase⟩;have C1:=hide (H.out.2.2.2.1.follow b1 sf1);have hst1:d1.steps=d.steps:=sf1.rest.1;have hnv1:d1.nv=d0.nv:=sf1.nv.trans hnv;have M1:=hide (H.out.2.2.1.trans m1);have S1:=hide s1;have HX:=hide (And.intro H.out.1 H.out.2.2.2.2.2);clear HF H s1 m1 sf1 b1;have HST:=hide (step_any g d1 a1 bu w1 S1.out (by omega) (by omega))
  rcases hcase with⟨rfl,hcl,hhd,si⟩|⟨c,rfl,hcn,hfa,hrest⟩
  ·
   have HN:=hide (next_any g d1 a1 w1 S1.out C1.out.ov.oi (by omega))
   have HQ:=hide (And.intro hcl (And.intro hhd si));clear hcl hhd si HST;go_wp2_with fail
   refine HN.out.mono ?_;rintro e w2 ⟨hp',at',a2,s2,m2,oi2,hp1,hp2,hcase2⟩;have C2:=hide (C1.out.next oi2 hp1 hp2);have S2:=hide s2;have M2:=hide (M1.out.trans m2);have SI2:Hid (SI (d1.ord hp' at').nv (d1.ord hp' at').V (d1.ord hp' at').T (d1.ord hp' at').S (d1.ord hp' at').F (d1.ord hp' at').nc (d1.ord hp' at').C (d1.ord hp' at').W (d1.ord hp' at').T.length [] U):=HQ.out.2.2;have FI2:Hid (FI (d1.ord hp' at') U):=Or.inl ⟨HQ.out.1,by show SI d1.nv d1.V d1.T d1.S d1.F d1.nc d1.C d1.W d1.head [] U;rw[HQ.out.2.1];exact HQ.out.2.2⟩
   clear s2 m2 oi2 hp1 HN;have hst2:(d1.ord hp' at').steps=d.steps:=hst1;have hnv2:(d1.ord hp' at').nv=d0.nv:=hnv1;have hT2:(d1.ord hp' at').T.length≤5001:=by have:=C2.out.bs.ti.len;omega
   have hS2:(d1.ord hp' at').S.length≤5001:=by have:=C2.out.bs.ti.lenS;omega
   have hcl2:(d1.ord hp' at').clash=-1:=HQ.out.1;have hhd2:(d1.ord hp' at').head=(d1.ord hp' at').T.length:=HQ.out.2.1;have hV2:(d1.ord hp' at').V=d1.V:=rfl;have hpp:(d1.ord hp' at').hp=hp':=rfl;generalize d1.ord hp' at'=d2 at *;have HZ:=hide (And.intro hcl2 hhd2);clear hcl2 hhd2 HQ hp2;rcases hcase2 with⟨v,hv,rfl,h0⟩|⟨rfl,rfl⟩
   ·
    have hvU:=C2.out.ov.hu v (by rw[hpp];exact hv)
    have hv1:=C2.out.ov.uo v hvU;have HST2:=hide (step_any g d2 a2 bu w2 S2.out (by omega) (by omega))
    have hvI:¬ ((v:Int)=-1):=by omega
    rw[← hV2]at h0;have HV:=hide (And.intro hvU h0);clear hvU h0 hv;go_wp2_with fail
    refine HST2.out.mono ?_;rintro e w3 (⟨hb,rfl,hw3⟩|⟨hb,rfl,s3,m3⟩)
    ·
     obtain rfl:=hw3.symm;have HE:Hid (SrEnd g d0 a0 I A U bu w (.returned (.int .i64 0)) w2):=⟨d2,a2,d2,K,S2.out,M2.out,C2.out,Or.inl ⟨rfl,rfl,Or.inl FI2.out,hb⟩⟩;clear HST2 hb;go_wp2;go_ret
     exact HE.out
    ·
     have HP:=hide (C2.out.pick hb SI2.out HZ.out.2 HZ.out.1 HV.out.1 HV.out.2);have HCH:=hide (choose_any g { d2 with steps:=d2.steps+1 } a2 v w3 s3 (by show v≤d2.nv;omega) (by show d2.nv≤5000;omega) (by show d2.T.length≤10000;omega) (by show d2.S.length≤9999;omega))
     have M3:=hide (M2.out.trans m3);have hbI:d2.steps<bu:=hb;clear HST2 s3 m3 hb;go_wp2_with fail
     refine HCH.out.mono ?_;rintro e w4 ⟨rfl,a4,s4,m4⟩;have HE:=hide (And.intro s4 (M3.out.trans m4));have HG:Hid ((bu - (d2.steps+1)).toNat<gk):=by
      have h9:=HX.out.1;show _<_
      omega
     clear s4 m4 HCH;go_wp2;go_roundg ((bu - (d2.steps+1)).toNat)
     case rel=>exact⟨_,a4,K,ro,le,rfl,rfl,rfl,HE.out.1,HE.out.2,HP.out.1,HP.out.2,by rw[← hst2]at HX;exact HX.out.2.same (by omega)⟩
     case measure=>exact HG.out
   ·
    have HVA:=hide (values_any g d2 a2 w2 S2.out C2.out.bs.ti.forValues (by omega) (by omega))
    have hlg:=S2.out.lt;clear hnv2;go_wp2_with fail
    refine HVA.out.mono ?_;rintro e w3 ⟨v3,rfl,ol3,own3,bl3⟩;have ol3':OL 1 4 w3 v3 (mdl d2.nv (trM d2.T)).length (fun i=>[.bool ((mdl d2.nv (trM d2.T)).getD i false)]):=by
     rw[mdl_len];exact ol3.congr (fun i hi=>by show [Value.bool ((mdl d2.nv (trM d2.T)).getD i false)]=tv d2.T i;rw[mdl_get hi];rfl)
    have HS:=hide (S2.out.set_mo bl3 own3 ol3');have s3:=S2.out.below bl3;obtain⟨qM,cM,hM,-,-,-⟩:=s3.len (k:=kMod) (by exact⟨by decide,rfl⟩)
    have c18:w3.cell? ⟨g,18,none⟩=some (.slice qM d2.mo.length cM):=(s3.cell 18).trans (congrArg some hM);have z18:=s3.frozen 18;have hlg3:=s3.lt;have HE:Hid (SrEnd g d0 a0 I A U bu w (.returned (.int .i64 1)) (w3.setCell ⟨g,18,none⟩ v3)):=⟨_,_,d2,K,HS.out.1,M2.out.trans HS.out.2,C2.out,Or.inr (Or.inl ⟨rfl,rfl,HZ.out.1,by rw[HZ.out.2];exact SI2.out,C2.out.whole SI2.out hpp⟩)⟩
    obtain⟨qV,cV,hV,-⟩:=ol3.shape;subst hV;clear ol3 ol3' own3 bl3 HS s3 hM HVA;go_wp2;go_ret
    exact HE.out
  ·
   have hcI:¬ ((c:Int)=-1):=by omega
   have hcB:((c:Int) != -1)=true:=by simp<;>omega
   have HR:=hide (And.intro hcn (And.intro hfa hrest));clear hcn hfa hrest;go_wp2_with fail
   refine HST.out.mono ?_;rintro e w2 (⟨hb,rfl,hw2⟩|⟨hb,rfl,s2,m2⟩)
   ·
    obtain rfl:=hw2.symm;have HE:Hid (SrEnd g d0 a0 I A U bu w (.returned (.int .i64 0)) w1):=by
     refine⟨d1,a1,d1,K,S1.out,M1.out,C1.out,Or.inl ⟨rfl,rfl,?_,hb⟩⟩;rcases HR.out.2.2 with⟨h1,h2⟩|⟨h1,h2,h3,h4⟩
     · exact Or.inl (Or.inr ⟨c,h2,HR.out.1,h1,HR.out.2.1⟩)
     · exact Or.inr ⟨h2,h1,h3,h4⟩
    clear HST hb;go_wp2;go_ret
    exact HE.out
   ·
    have M2:=hide (M1.out.trans m2);have S2:=hide s2;have hbI:d1.steps<bu:=hb;obtain⟨qS,cS,hSv,-,-,-⟩:=s2.len (k:=kSta) (by exact⟨by decide,rfl⟩)
    have c10:w2.cell? ⟨g,10,none⟩=some (.slice qS d1.S.length cS):=(s2.cell 10).trans (congrArg some hSv);have hlg2:=s2.lt;clear hSv s2 m2 HST hb;rcases HR.out.2.2 with⟨h1,h2⟩|⟨h1,h2,h3,h4⟩
    ·
     have hS0:d1.S.length=0:=by rw[h1];rfl
     rw[hS0]at c10;have HRF:=hide (refute_any g { d1 with steps:=d1.steps+1 } a1 c I (A+K.length) U w2 S2.out (C1.out.bs.same rfl rfl rfl rfl rfl rfl rfl) h1 HR.out.1 HR.out.2.1 (by show d1.nv≤5000;omega) hAK)
     have HS1:=hide h1;clear h1 h2 hS0;go_wp2_with fail
     refine HRF.out.mono ?_;rintro e w3 ⟨rfl,X,a3,x1,x2,s3,m3,dv⟩;have HE:Hid (SrEnd g d0 a0 I A U bu w (.returned (.int .i64 2)) w3):=⟨_,a3,d1,K,s3,M2.out.trans m3,C1.out,Or.inr (Or.inr ⟨rfl,HS1.out,X,x1,x2,rfl,dv,rfl,hbI⟩)⟩;clear s3 m3 dv HRF;go_wp2;go_ret
     exact HE.out
    ·
     obtain⟨ns,hns⟩:∃ns,d1.S.length=ns:=⟨_,rfl⟩;have hnn:¬ (ns=0):=fun e=>h1 (List.length_eq_zero_iff.1 (by omega))
     rw[hns]at c10;have hS0:¬ ((ns:Int)=0):=by omega
     have hS1:((ns:Int) == 0)=false:=by simpa using hS0
     have HLN:=hide (learn_any g { d1 with steps:=d1.steps+1 } a1 c I (A+K.length) U h3 w2 S2.out (C1.out.bs.same rfl rfl rfl rfl rfl rfl rfl) h4 ⟨C1.out.ov.oi,C1.out.ov.hu,C1.out.ov.uo,C1.out.ov.cv,C1.out.ov.un⟩ C1.out.m0 C1.out.ms h1 HR.out.1 HR.out.2.1 (by show d1.nv≤5000;omega) hAK)
     have HCL:=hide h2;clear h1 h2 h4 hns HR hnn;go_wp2_with fail
     refine HLN.out.mono ?_;rintro e w3 ⟨rfl,d3,a3,L,s3,m3,ln⟩;have e3:=ln.eq;have hmk3:d3.mks=[]:=by rw[e3];exact C1.out.ms
     have hcl3:d3.clash=-1:=by rw[e3];exact HCL.out
     have hst3:d3.steps=d1.steps+1:=by rw[e3]
     have hnv3:d3.nv=d1.nv:=by rw[e3]
     have C3:=hide (C1.out.learn hbI ln hmk3);have F3:Hid (FI d3 U):=Or.inl ⟨hcl3,ln.si⟩;have S3:=hide s3;have M3:=hide (M2.out.trans m3);have hT3:d3.T.length≤5001:=by have:=ln.bs.ti.len;omega
     have hS3:d3.S.length≤5001:=by have:=ln.bs.ti.lenS;omega
     have hcn:Cn (d1.steps+1) ro (le - 1):=by
      have h9:=HX.out.2;rw[← hst1]at h9;exact h9.step (by omega)
     have HCN:=hide hcn;have l1:=hcn.l1;have l2:=hcn.l2;have r1:=hcn.r1;have r2:=hcn.r2;have HG:Hid ((bu - d3.steps).toNat<gk):=by
      have h9:=HX.out.1;show _<_
      omega
     clear s3 m3 ln e3 hmk3 hcl3 hcn HLN C1 S1 M1 S2 M2 c10;by_cases hz:le - 1=0
     ·
      have hro:ro+1≤100000000:=by omega
      obtain⟨rn,hrn⟩:∃rn:Nat,ro+1=(rn:Int):=⟨(ro+1).toNat,by omega⟩
      have HLU:=hide (luby_any rn w3 (by omega) (by omega))
      have HUN:Hid (∀w9,SW w9 g d3 a3→Calls Tryz.prog 39 #[.pointer (some ⟨g,0,none⟩),.int .i64 (0:Nat)] w9 fun e w'=>e=.returned (.tuple #[])∧UdEnd g d3 a3 0 w9 w'):=fun w9 h9=>undo_any g d3 a3 0 w9 h9 C3.out.1.ov.oi (fun l hl=>(C3.out.1.bs.ti.ok l hl).2) C3.out.1.bs.ti.st (by omega) (by omega) (by omega) (by omega)
      have HRN:=hide hrn;have hrnI:(rn:Int)≤100000000:=by omega
      have r0:ro≤d1.steps+1:=by have h9:=HX.out.2.r2;omega
      have HCN2:Hid (∀r:Nat,r≤rn→Cn (d1.steps+1) (rn:Int) (64*(r:Int))):=fun r hr=>⟨by omega,by omega,by omega,by omega⟩
      clear HRN;go_wp2_with fail
      refine HLU.out.mono ?_;rintro e w4 ⟨⟨r,hlb,hr,rfl⟩,hw4⟩;obtain rfl:=hw4.symm;have hrI:(r:Int)≤100000000:=by omega
      have HCN3:=hide (HCN2.out r hr);clear hlb HLU HCN2;go_wp2_with fail
      refine (HUN.out _ S3.out).mono ?_;rintro e w5 ⟨rfl,ud⟩;have HE:Hid (∃d a,d.steps=d3.steps∧SW w5 g d a∧Mo g d0 a0 w d a w5∧SC d0 d I A U (d1.nc::K) bu∧FI d U):=by
       rcases ud with⟨-,bel⟩|⟨hk,F',hp',at',a5,s5,m5,lst,oi,hu⟩
       · exact⟨d3,a3,rfl,S3.out.below bel,M3.out.below bel,C3.out.1,F3.out⟩
       · obtain⟨k1,k2⟩:=C3.out.1.undo (Or.inl F3.out) hk lst oi hu C3.out.2;exact⟨d3.u0 d3.S[0] F' hp' at',a5,rfl,s5,M3.out.trans m5,k1,k2⟩
      clear ud HUN;go_wp2;go_roundg ((bu - d3.steps).toNat)
      case rel =>
       obtain⟨d6,a6,e6,s6,m6,c6,f6⟩:=HE.out;exact⟨d6,a6,d1.nc::K,(rn:Int),64*(r:Int),rfl,rfl,by rw[e6],s6,m6,c6,f6,by rw[e6,hst3];exact HCN3.out⟩
      case measure=>exact HG.out
     ·
      go_wp2;go_roundg ((bu - d3.steps).toNat)
      case rel=>exact⟨d3,a3,d1.nc::K,ro,le - 1,rfl,rfl,rfl,S3.out,M3.out,C3.out.1,F3.out,by rw[hst3];exact HCN.out⟩
      case measure=>exact HG.out
end Sat
namespace Sat
open Euf (OL App)
def SvEnd (g:Nat) (d0:Dt) (a0:Key→Value) (I:List (List Nat)) (A:Nat) (bu:Int) (w:World) (e:Ending) (w':World):Prop :=
  ∃(d:Dt) (a:Key→Value) (U:List Nat) (A':Nat),SW w' g d a∧Mq g d0 a0 w d a w'∧d.nv=d0.nv∧d.added=d0.added∧A'≤A+bu.toNat∧0≤d.steps∧(d.steps≤bu∨d.steps=0) ∧
    ((e=.returned (.int .i64 0)∧Idw d I A' U∧d.mo=[]∧bu≤d.steps∧d.steps≤((3 ^ U.length*(U.length+1)+U.length:Nat):Int)) ∨
     (e=.returned (.int .i64 1)∧Idl d I A' U∧∃M:Nat→Bool,d.mo=mdl d.nv M∧∀L∈I,∃m∈L,tru M m) ∨
     (e=.returned (.int .i64 2)∧Rfd d I∧d.nc≤A'+d.nv+2))
section
variable {d0 d d1:Dt} {I:List (List Nat)} {A:Nat} {U K:List Nat} {bu:Int}
theorem SC.idc (c:SC d0 d I A U K bu) (i:Idc d0 I U) (hq:d0.Q=[]):Idc d I U :=
  ⟨c.m0,c.ms,i.rp.ol c.ol,by rw[c.sx.q,hq];exact List.nodup_nil,fun x hx=>(by rw[c.sx.q,hq]at hx;cases hx),fun x hx=>(by rw[c.sx.q,hq]at hx;cases hx),i.ui,c.sx.rf.trans i.rf,c.sx.ad.trans i.ad⟩
theorem SC.few (c:SC d0 d I A U K bu):A+K.length≤A+bu.toNat:=by have h1:=c.s3;have h2:=c.s1;omega
theorem SC.idw0 (c:SC d0 d I A U K bu) (i:Idc d0 I U) (hq:d0.Q=[]) (f:FJ d U) (hS:d.S=[]):Idw d I (A+K.length) U:=by
 refine⟨c.idc i hq,Or.inr ⟨c.sx.q.trans hq,c.bs,c.ov,hS,?_⟩⟩;rcases f with f|⟨-,h,-⟩
 · exact f
 · exact absurd hS h
theorem SC.idl0 (c:SC d0 d I A U K bu) (i:Idc d0 I U) (hq:d0.Q=[]) (hc:d.clash=-1) (s:SI d.nv d.V d.T d.S d.F d.nc d.C d.W d.head [] U) (hS:d.S=[]) (M:List Bool):Idl { d with mo:=M } I (A+K.length) U:=by
 have j:=c.idc i hq;refine⟨⟨j.m0,j.ms,j.rp,j.qn,j.ql,j.qi,j.ui,j.rf,j.ad⟩,?_⟩;show AtI { d with mo:=M } I (A+K.length) d.Q U
 rw[c.sx.q,hq];exact⟨c.bs.same rfl rfl rfl rfl rfl rfl rfl,s.wi,fun l hl p hp h=>(by cases h),⟨c.ov.oi,c.ov.hu,c.ov.uo,c.ov.cv,c.ov.un⟩,hS,Or.inl ⟨hc,s⟩⟩
theorem SC.undoI (c:SC d0 d I A U K bu) (i:Idc d0 I U) (hq:d0.Q=[]) (f:FJ d U) (hk:0<d.S.length) {F':Nat→Fc} {hp':List Nat} {at':Nat→Nat} (hF:Lst d.F F') (oi:OI d.nv hp' at') (hu:∀u,u∈hp'↔u∈d.hp∨∃l∈d.T.drop d.S[0],l / 2=u) (M:List Bool) :
  Idl { d.u0 d.S[0] F' hp' at' with mo:=M } I (A+K.length) U:=by
 obtain⟨p1,p2,p3,p4,p5⟩:=undo_parts c.bs c.ov c.m0 f hk hF oi hu;have j:=c.idc i hq;refine⟨⟨p3,j.ms,j.rp,j.qn,j.ql,j.qi,j.ui,j.rf,j.ad⟩,?_⟩;show AtI { d.u0 d.S[0] F' hp' at' with mo:=M } I (A+K.length) d.Q U
 rw[c.sx.q,hq];exact⟨p1.same rfl rfl rfl rfl rfl rfl rfl,p5.wi,fun l hl p hp h=>(by cases h),⟨p2.oi,p2.hu,p2.uo,p2.cv,p2.un⟩,rfl,Or.inl ⟨p4,p5⟩⟩
theorem Rp.model (r:Rp d I) {M:Nat→Bool} (h:∀x,x<d.nc→∃m∈(d.C x).lits,tru M m):∀L∈I,∃m∈L,tru M m:=fun L hL=>by
  rcases r L hL with⟨m,h1,h2⟩|⟨c,h1,h2⟩
  · by_cases e:tru M m
    · exact⟨m,h1,e⟩
    · exact⟨ng m,h2,(tru_ng M m).2 e⟩
  · obtain⟨m,h3,h4⟩:=h c h1
    exact⟨m,(h2 m).1 h3,h4⟩
theorem SC.rfd (c:SC d0 d1 I A U K bu) (i:Idc d0 I U) (hmo:d0.mo=[]) {X:Cl} (h1:X.lits=[]) (h2:X.num=-1) (dv:Dv (d1.nc+1) (upd d1.C d1.nc X) I) (e:d={ ({ d1 with steps:=d.steps }:Dt).more X with refuted:=true }):Rfd d I:=by
 refine⟨by rw[e],by rw[e];exact c.sx.ad.trans i.ad,by rw[e];exact dv,?_,by rw[e];exact c.sx.mo.trans hmo,d1.nc,by rw[e],?_,?_⟩
 · rw[e];exact c.bs.ci.addC (by rw[h1];intro m hm;cases hm) (by rw[h1];exact List.nodup_nil)
 ·
  rw[e];show (upd d1.C d1.nc X d1.nc).lits=[]
  rw[upd_same];exact h1
 ·
  rw[e];show (upd d1.C d1.nc X d1.nc).num=-1
  rw[upd_same];exact h2
theorem SC.rfdn (c:SC d0 d1 I A U K bu) {X:Cl} (e:d={ ({ d1 with steps:=d.steps }:Dt).more X with refuted:=true }):d.nc≤A+K.length+d.nv+2:=by
 have h3:=c.bs.cn;have h4:=c.bs.ti.len;have h5:fixd d1.T d1.S≤d1.T.length:=by
  unfold fixd;cases hS:d1.S with
  | nil=>exact Nat.le_refl _
  | cons s r=>exact Nat.le_of_lt (c.bs.ti.st s (by rw[hS];exact List.mem_cons_self ..))
 have e1:d.nc=d1.nc+1:=by rw[e]
 have e2:d.nv=d1.nv:=by rw[e]
 omega
end
end Sat
end Go.Proofs.YtbmkkhpoaicclabGreat
