/- SatSides walked: it answers true; it proves no statement of the seat. -/
import Derived.Test.YtbmkkhpoaicclabGreatSatAkJSides
import Derived.Test.YtbmkkhpoaicclabGreatSatOqJSides
import Derived.Test.YtbmkkhpoaicclabGreatSatToJSides
namespace Go.Proofs.YtbmkkhpoaicclabGreat
open Go Go.RowKit
set_option linter.unusedVariables false
namespace Sat
open Euf (OL App)
theorem tru_or (M:Nat→Bool) {v:Int} (hv:Okl 9 v):tru M (lit v)∨tru M (lit (-v)):=by
 by_cases h:tru M (lit v)
 · exact Or.inl h
 ·
  right
  have e:lit (-v)=ng (lit v):=lit_neg2 hv.1;rw [e,tru_ng];exact h
theorem sides {I:List (List Nat)} {v:Int} (hv:Okl 9 v):¬ HasM I↔¬ HasM (I ++ [[lit v]])∧¬ HasM (I ++ [[lit (-v)]]):=by
 constructor
 · intro h;exact ⟨fun ⟨M,hM⟩=>h ⟨M,fun L hL=>hM L (List.mem_append_left _ hL)⟩,fun ⟨M,hM⟩=>h ⟨M,fun L hL=>hM L (List.mem_append_left _ hL)⟩⟩
 ·
  rintro ⟨h1,h2⟩ ⟨M,hM⟩;have key:∀ z:Int,tru M (lit z)→HasM (I ++ [[lit z]]):=fun z hz=>⟨M,fun L hL=>by
   rcases List.mem_append.1 hL with h9 | h9
   · exact hM L h9
   · simp at h9;subst h9;exact ⟨lit z,by simp,hz⟩⟩
  rcases tru_or M hv with h9 | h9
  · exact h1 (key _ h9)
  · exact h2 (key _ h9)
theorem set_two {v:Int} {s:List Int} (h:SetOf [v, v] s):s=[v] :=
  h.uniq ⟨Srt.one v, fun x=>by simp⟩
set_option maxRecDepth 20000 in
set_option maxHeartbeats 16000000 in
theorem satSides_any (qL:Option Addr) (cL:Nat) (ls:List (List Int)) (v:Int) (w:World) (hl:LL w w.heap.size qL ls.length cL ls) (hv:InI v) :
    Calls Tryz.prog 8 #[.slice qL ls.length cL,.int .i64 v] w fun e w'=>e=.returned (.bool true)∧Below w.heap.size w w':=by
  obtain ⟨nL,hnL⟩:∃ nL,ls.length=nL:=⟨_,rfl⟩;rw [hnL] at hl ⊢;have H:=hide (And.intro hl hnL);clear hl hnL;obtain ⟨v1,v2⟩:=hv;go_enter Tryz.func8,Tryz.ntmps8;go_wp2_with fail
  refine (awake_any w).mono ?_;rintro e w1 ⟨rfl,b1⟩;have HB1:=hide b1;clear b1;have HFW:=hide (few_any w.heap.size qL nL cL ls w1 (H.out.1.below HB1.out));go_wp2_with fail
  refine HFW.out.mono ?_;rintro e w2 ⟨fw,hw9⟩;obtain rfl:=hw9.symm;clear HFW;rcases fw with ⟨rfl,hf⟩ | ⟨rfl,hf⟩
  rotate_left
  · have HSV:=hide (fun w:World=>solver_any w.heap.size none 0 0 [] w (LL.nil w _) (Nat.le_refl _) (fun c hc=>by cases hc) (by omega))
    clear hf;go_wp2_with fail
    refine (HSV.out w1).mono ?_;rintro e w3 ⟨rfl,sv3⟩;have HB3:Hid (Below w.heap.size w w3):=HB1.out.trans (sv3.bl.mono HB1.out.size);clear sv3;go_wp2_with fail
    refine (HSV.out w3).mono ?_;rintro e w4 ⟨rfl,sv4⟩;have HB4:Hid (Below w.heap.size w w4):=HB3.out.trans (sv4.bl.mono HB3.out.size);clear sv4;go_wp2_with fail
    refine (HSV.out w4).mono ?_;rintro e w5 ⟨rfl,sv5⟩;have HE:Hid (Below w.heap.size w w5):=HB4.out.trans (sv5.bl.mono HB4.out.size);clear sv5 HSV;go_wp2;go_ret
    exact ⟨rfl,HE.out⟩
  have HF:=hide hf;have hn80:nL≤80:=by have:=hf.1;rw [H.out.2] at this;exact this
  clear hf;have HSV:=hide (fun (w':World) (hb:Below w.heap.size w w')=>solver_any w.heap.size qL nL cL ls w' (H.out.1.below hb) hb.size HF.out.2 (by omega))
  go_wp2_with fail
  refine (HSV.out w1 HB1.out).mono ?_;rintro e w3 ⟨rfl,sv3⟩;have HB3:Hid (Below w.heap.size w w3):=HB1.out.trans (sv3.bl.mono HB1.out.size);have S3:=hide sv3;clear sv3;go_wp2_with fail
  refine (HSV.out w3 HB3.out).mono ?_;rintro e w4 ⟨rfl,sv4⟩;have HB4:Hid (Below w.heap.size w w4):=HB3.out.trans (sv4.bl.mono HB3.out.size);have S4:=hide sv4;clear sv4;go_wp2_with fail
  refine (HSV.out w4 HB4.out).mono ?_;rintro e w5 ⟨rfl,sv5⟩;have HB5:Hid (Below w.heap.size w w5):=HB4.out.trans (sv5.bl.mono HB4.out.size);obtain ⟨g1,hg1⟩:∃ g1,w1.heap.size=g1:=⟨_,rfl⟩;obtain ⟨g2,hg2⟩:∃ g2,w3.heap.size=g2:=⟨_,rfl⟩;obtain ⟨g3,hg3⟩:∃ g3,w4.heap.size=g3:=⟨_,rfl⟩;have hN1:w.heap.size≤g1:=by rw [← hg1];exact HB1.out.size
  have hN2:w.heap.size≤g2:=by rw [← hg2];exact HB3.out.size
  have hN3:w.heap.size≤g3:=by rw [← hg3];exact HB4.out.size
  obtain ⟨d1,a1,U1,s1,i1,n1,f1,-⟩:=S3.out;obtain ⟨d2,a2,U2,s2,i2,n2,f2,bl2⟩:=S4.out;obtain ⟨d3,a3,U3,s3,i3,n3,f3,bl3⟩:=sv5;have s1':=(s1.below bl2).below bl3;have s2':=s2.below bl3;rw [hg1] at s1 s1' f1 ⊢;rw [hg2] at s2 s2' f2 ⊢;rw [hg3] at s3 f3 ⊢;have p12:∀ b,Fo g1 d1 a1 b→¬ Fo g2 d2 a2 b:=fun b h1 h2=>by have:=s1.foLt h1;have:=f2 b h2;omega
  have p13:∀ b,Fo g1 d1 a1 b→¬ Fo g3 d3 a3 b:=fun b h1 h2=>by have:=(s1.below bl2).foLt h1;have:=f3 b h2;omega
  have p23:∀ b,Fo g2 d2 a2 b→¬ Fo g3 d3 a3 b:=fun b h1 h2=>by have:=s2.foLt h1;have:=f3 b h2;omega
  have K1:=hide (And.intro s1' (And.intro i1 (And.intro n1 (fun b hb=>Nat.le_trans hN1 (f1 b hb)))))
  have K2:=hide (And.intro s2' (And.intro i2 (And.intro n2 (fun b hb=>Nat.le_trans hN2 (f2 b hb)))))
  have K3:=hide (And.intro s3 (And.intro i3 (And.intro n3 (fun b hb=>Nat.le_trans hN3 (f3 b hb)))))
  have P:=hide (And.intro p12 (And.intro p13 p23));have hIl:(ls.map (·.map lit)).length=nL:=by rw [List.length_map];exact H.out.2
  have HIL:=hide hIl;clear s1 s1' s2 s2' s3 i1 i2 i3 n1 n2 n3 f1 f2 f3 bl2 bl3 p12 p13 p23 S3 S4 HSV hIl;by_cases hv1:v < 1
  · go_wp2;go_ret
    exact ⟨rfl,HB5.out⟩
  by_cases hv9:9 < v
  · go_wp2;go_ret
    exact ⟨rfl,HB5.out⟩
  have hokv:Okl 9 v:=⟨by omega,by omega,by omega⟩
  have hokm:Okl 9 (-v):=⟨by omega,by omega,by omega⟩
  have HSI:Hid (¬ HasM (ls.map (·.map lit))↔¬ HasM (ls.map (·.map lit) ++ [[lit v]])∧¬ HasM (ls.map (·.map lit) ++ [[lit (-v)]])):=sides hokv;-- t.Add(v)
  obtain ⟨w6,hw6⟩:∃ w6,w5.alloc (.cells #[.int .i64 v] 3 (0,0))=w6:=⟨_,rfl⟩;have b6:Below w5.heap.size w5 w6:=by rw [← hw6];exact (Below.refl _ _).alloc (Nat.le_refl _) _
  have HA2:=hide (add_one g2 d2 a2 _ nL U2 v w5 w6 K2.out.1 K2.out.2.1 K2.out.2.2.1 (by omega) (by rw [HIL.out];omega) hokv hw6)
  have HB6:Hid (Below w.heap.size w w6):=HB5.out.trans (b6.mono HB5.out.size);have L6:=hide (And.intro (K1.out.1.below b6) (K3.out.1.below b6));have hokM:=hide (And.intro hokv hokm);clear b6 hokv hokm;go_wp2_with fail
  refine HA2.out.mono ?_;rintro e w7 ⟨d2',a2',rfl,s2,m2,i2,n2⟩;obtain ⟨s1,p21⟩:=m2.stay L6.out.1 (fun b h1 h2=>P.out.1 b h2 h1)
  obtain ⟨s3,p23⟩:=m2.stay L6.out.2 P.out.2.2;obtain ⟨k1,k2⟩:=m2.low HB6.out.size K2.out.2.2.2;have HB7:Hid (Below w.heap.size w w7):=HB6.out.trans k1;have Q1:=hide s1;have Q2:=hide (And.intro s2 (And.intro i2 (And.intro n2 k2)));have Q3:=hide s3;have R:=hide (And.intro p21 p23);clear s1 s2 s3 i2 n2 m2 k1 k2 p21 p23 HA2 L6 hw6 HB6 HB5 K2;rw [HIL.out];-- u.Add(-v)
  obtain ⟨w8,hw8⟩:∃ w8,w7.alloc (.cells #[.int .i64 (-v)] 3 (0,0))=w8:=⟨_,rfl⟩;have b8:Below w7.heap.size w7 w8:=by rw [← hw8];exact (Below.refl _ _).alloc (Nat.le_refl _) _
  have HA3:=hide (add_one g3 d3 a3 _ nL U3 (-v) w7 w8 Q3.out K3.out.2.1 K3.out.2.2.1 (by omega) (by rw [HIL.out];omega) hokM.out.2 hw8)
  have HB8:Hid (Below w.heap.size w w8):=HB7.out.trans (b8.mono HB7.out.size);have L8:=hide (And.intro (Q1.out.below b8) (Q2.out.1.below b8));clear b8;go_wp2_with fail
  refine HA3.out.mono ?_;rintro e w9 ⟨d3',a3',rfl,s3,m3,i3,n3⟩;obtain ⟨s1,p31⟩:=m3.stay L8.out.1 (fun b h1 h2=>P.out.2.1 b h2 h1)
  obtain ⟨s2,p32⟩:=m3.stay L8.out.2 (fun b h1 h2=>R.out.2 b h2 h1)
  obtain ⟨k1,k2⟩:=m3.low HB8.out.size K3.out.2.2.2;have HB9:Hid (Below w.heap.size w w9):=HB8.out.trans k1;have T1:=hide s1;have T2:=hide s2;have T3:=hide (And.intro s3 (And.intro i3 (And.intro n3 k2)));have RR:=hide (And.intro p31 p32);clear s1 s2 s3 i3 n3 m3 k1 k2 p31 p32 HA3 L8 hw8 HB8 HB7 K3 Q1 Q3;rw [HIL.out];have HEN:=hide (enough_any w9);go_wp2_with fail
  refine HEN.out.mono ?_;rintro e w9' ⟨rfl,hw9⟩;obtain rfl:=hw9.symm;clear HEN;have HS1:=hide (solve_raw g1 d1 a1 _ nL U1 w9 T1.out K1.out.2.1.w K1.out.2.2.1 (by omega))
  go_wp2_with fail
  refine HS1.out.mono ?_;rintro e w10 ⟨x,d1',a1',rfl,hx,m1⟩;obtain ⟨s2,-⟩:=m1.stay T2.out (fun b h1 h2=>R.out.1 b h2 h1)
  obtain ⟨s3,-⟩:=m1.stay T3.out.1 (fun b h1 h2=>RR.out.1 b h2 h1)
  have HB10:Hid (Below w.heap.size w w10):=HB9.out.trans (m1.low HB9.out.size K1.out.2.2.2).1;have X:=hide hx;have HS2:=hide (solve_raw g2 d2' a2' _ (nL + 1) U2 w10 s2 Q2.out.2.1.w Q2.out.2.2.1 (by omega))
  have T3':=hide s3;clear m1 s2 s3 hx HS1 T2;go_wp2_with fail
  refine HS2.out.mono ?_;rintro e w11 ⟨y,d2'',a2'',rfl,hy,m2⟩;obtain ⟨s3,-⟩:=m2.stay T3'.out (fun b h1 h2=>RR.out.2 b h2 h1)
  have HB11:Hid (Below w.heap.size w w11):=HB10.out.trans (m2.low HB10.out.size Q2.out.2.2.2).1;have Y:=hide hy;have HS3:=hide (solve_raw g3 d3' a3' _ (nL + 1) U3 w11 s3 T3.out.2.1.w T3.out.2.2.1 (by omega))
  clear m2 s3 hy HS2 T3';go_wp2_with fail
  refine HS3.out.mono ?_;rintro e w12 ⟨z,d3'',a3'',rfl,hz,m3⟩;have HB12:Hid (Below w.heap.size w w12):=HB11.out.trans (m3.low HB11.out.size T3.out.2.2.2).1;have key:(x=2↔y=2∧z=2):=by rw [X.out.two,Y.out.two,hz.two];exact HSI.out
  have hx12:=X.out.one;have hy12:=Y.out.one;have hz12:=hz.one;clear m3 hz HS3 X Y T1 T3 Q2 R RR P K1 HSI;obtain ⟨w13,hw13⟩:∃ w13,w12.alloc (.cells #[.int .i64 v,.int .i64 v] 3 (0,0))=w13:=⟨_,rfl⟩;have b13:Below w12.heap.size w12 w13:=by rw [← hw13];exact (Below.refl _ _).alloc (Nat.le_refl _) _
  have il13:IL w13 (some ⟨w12.heap.size,0,none⟩) 2 2 [v,v]:=by
    have hr:w13.heap[w12.heap.size]?=some (.cells #[.int .i64 v,.int .i64 v] 3 (0,0)):=by rw [← hw13];exact heap_alloc_new w12 _
    refine ⟨rfl,Nat.le_refl _,by unfold maxLen;decide,(fun k=>by cases k),Or.inr ⟨w12.heap.size,0,rfl,(Array.getElem?_eq_some_iff.1 hr).1,fun j hj=>?_⟩,fun y hy=>?_⟩
    · rw [cell_of_row _ _ _ _ _ _ hr];rcases (by omega:j=0∨j=1) with rfl | rfl <;> rfl
    · simp at hy;subst hy;exact ⟨v1,v2⟩
  have HSE:=hide (set_any _ 2 2 [v,v] w13 il13 (by omega))
  have HB13:Hid (Below w.heap.size w w13):=HB12.out.trans (b13.mono HB12.out.size);clear b13 il13;have fin:Hid (∀ (e:Ending) (w14:World),(∃ v' s,e=.returned v'∧SetOf [v,v] s∧OL 1 3 w14 v' s.length (izC s)∧(∀ b,v'.ownBlock=some b→w13.heap.size≤b)∧Below w13.heap.size w13 w14)→∃ q c,e=.returned (.slice q 1 c)∧Below w.heap.size w w14):=by
    rintro e w14 ⟨v',s,rfl,hs,ol,-,b14⟩;obtain rfl:=set_two hs;obtain ⟨q,c,rfl,-⟩:=ol.shape;exact ⟨q,c,rfl,HB13.out.trans (b14.mono HB13.out.size)⟩
  rcases hx12 with rfl | rfl <;> rcases hy12 with rfl | rfl <;> rcases hz12 with rfl | rfl
  all_goals first
    | (exfalso;revert key;decide)
    | (clear key
       go_wp2_with fail
       refine HSE.out.mono ?_;intro e w14 he;obtain ⟨q14,c14,rfl,b14⟩:=fin.out e w14 he;have HE:=hide b14;clear he b14;go_wp2;go_ret
       exact ⟨rfl,HE.out⟩)
end Sat
end Go.Proofs.YtbmkkhpoaicclabGreat
