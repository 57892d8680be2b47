/- The walk of suretylaw03.LinearReckons; they prove no statement of the seat. -/
import Derived.Test.YteefniagebcagaaGreatDoorLinTxJReckons
import Derived.Test.YteefniagebcagaaGreatDoorRefQJReckons
import Derived.Test.YteefniagebcagaaGreatDoorLinSmJReckons
namespace Go.Proofs.YteefniagebcagaaGreatDoor
open Go.RowKit
set_option linter.unusedVariables false
theorem toList_data (S : ByteArray) : S.toList = S.data.toList := by
 cases S with
 | mk d =>
  have h := ByteArray.toList_mk d.toList;rw [Array.toArray_toList] at h;exact h
structure Two (ok : Prop) (ps : List (Nat × Int)) (r : Int) (us : List (Nat × Int)) (j k : Int) : Prop where
  t : ∀ {v : Value} {c : Int} {w : World}, TRes ok ps r v c w → c = k ∧ TermR w v us j
  q : ∀ {v : Value} {c : Int} {w : World}, QRes ok ps r v c w → c = k ∧ RTermR w v us j
theorem Two.any (ok : Prop) (ps : List (Nat × Int)) (r : Int) : ∃ us j k,Two ok ps r us j k := by
 by_cases h : ok
 ·
  refine ⟨ps,r,0,fun h1 => ?_,fun h1 => ?_⟩
  ·
   rcases h1 with ⟨_,h2,h3⟩ | ⟨h2,_⟩
   · exact ⟨h2,h3⟩
   · exact absurd h h2
  ·
   rcases h1 with ⟨_,h2,h3⟩ | ⟨h2,_⟩
   · exact ⟨h2,h3⟩
   · exact absurd h h2
 ·
  refine ⟨[],0,11,fun h1 => ?_,fun h1 => ?_⟩
  ·
   rcases h1 with ⟨h2,_⟩ | ⟨_,h2,h3⟩
   · exact absurd h2 h
   · exact ⟨h2,h3⟩
  ·
   rcases h1 with ⟨h2,_⟩ | ⟨_,h2,h3⟩
   · exact absurd h2 h
   · exact ⟨h2,h3⟩
theorem ladd_2 {us : List (Nat × Int)} {j k : Int} (vX vY : Value) (a b : List (Nat × Int)) (r s : Int) (H : Two (tAddOk a b r s) (addP a b) (r + s) us j k) (w : World) (hX : TermR w vX a r) (hY : TermR w vY b s) :
  Calls Tryz.prog 13 #[vX,vY] w fun e w' => ∃ p q r9 x m n c,e = .returned (.tuple #[.agg #[.slice p q r9,.bool x,.slice m n c],.int .i64 k]) ∧ TP w' p q r9 x m n c us j ∧ Below w.heap.size w w' := by
 refine (ladd_any vX vY a b r s w hX hY).mono ?_;rintro e w' ⟨v,c,rfl,h,hb⟩;obtain ⟨rfl,p,q,r9,x,m,n,c,rfl,h1⟩ := H.t h;exact ⟨p,q,r9,x,m,n,c,rfl,h1,hb⟩
theorem lsub_2 {us : List (Nat × Int)} {j k : Int} (vX vY : Value) (a b : List (Nat × Int)) (r s : Int) (H : Two (tAddOk a (mulP b (-1)) r (-s)) (addP a (mulP b (-1))) (r + -s) us j k) (w : World) (hX : TermR w vX a r) (hY : TermR w vY b s) :
  Calls Tryz.prog 14 #[vX,vY] w fun e w' => ∃ p q r9 x m n c,e = .returned (.tuple #[.agg #[.slice p q r9,.bool x,.slice m n c],.int .i64 k]) ∧ TP w' p q r9 x m n c us j ∧ Below w.heap.size w w' := by
 refine (lsub_any vX vY a b r s w hX hY).mono ?_;rintro e w' ⟨v,c,rfl,h,hb⟩;obtain ⟨rfl,p,q,r9,x,m,n,c,rfl,h1⟩ := H.t h;exact ⟨p,q,r9,x,m,n,c,rfl,h1,hb⟩
theorem lput_2 {us : List (Nat × Int)} {j k : Int} (vX vY : Value) (a b : List (Nat × Int)) (r s v : Int) (H : Two (putOk a r v b s) (putP a v b) (putR a r v s) us j k) (w : World) (hX : TermR w vX a r) (hY : TermR w vY b s) :
  Calls Tryz.prog 25 #[vX,.int .i64 v,vY] w fun e w' => ∃ p q r9 x m n c,e = .returned (.tuple #[.agg #[.slice p q r9,.bool x,.slice m n c],.int .i64 k]) ∧ TP w' p q r9 x m n c us j ∧ Below w.heap.size w w' := by
 refine (lput_any vX vY a b r s v w hX hY).mono ?_;rintro e w' ⟨v,c,rfl,h,hb⟩;obtain ⟨rfl,p,q,r9,x,m,n,c,rfl,h1⟩ := H.t h;exact ⟨p,q,r9,x,m,n,c,rfl,h1,hb⟩
theorem scale_res {a : List (Nat × Int)} {r z : Int} {v : Value} {c : Int} {w : World} (h : (z = 0 ∧ c = 0 ∧ TermR w v [] 0) ∨ (z ≠ 0 ∧ tMulOk a r z ∧ c = 0 ∧ TermR w v (mulP a z) (r * z)) ∨ (z ≠ 0 ∧ ¬ tMulOk a r z ∧ c = 11 ∧ TermR w v [] 0)) : TRes (tMulOk a r z) (scP a z) (r * z) v c w := by
 rcases h with ⟨rfl,h1,h2⟩ | ⟨h0,h3,h1,h2⟩ | ⟨h0,h3,h1,h2⟩
 ·
  refine Or.inl ⟨⟨?_,fun p _ => ?_⟩,h1,?_⟩
  · have := word_lim;simp;omega
  · have := word_lim;simp;omega
  · rw [Int.mul_zero,show scP a 0 = [] from if_pos rfl];exact h2
 · exact Or.inl ⟨h3,h1,by rw [show scP a z = mulP a z from if_neg h0];exact h2⟩
 · exact Or.inr ⟨h3,h1,h2⟩
theorem lscale_2 {us : List (Nat × Int)} {j k : Int} (vX vB : Value) (a : List (Nat × Int)) (r z : Int) (H : Two (tMulOk a r z) (scP a z) (r * z) us j k) (w : World) (hX : TermR w vX a r) (hB : AInt w vB z) :
  Calls Tryz.prog 23 #[vX,vB] w fun e w' => ∃ v,e = .returned (.tuple #[v,.int .i64 k]) ∧ TermR w' v us j ∧ Below w.heap.size w w' := by
 refine (lscale_any vX vB a r z w hX hB).mono ?_;rintro e w' ⟨v,c,rfl,h,hb⟩;obtain ⟨rfl,h1⟩ := H.t (scale_res h);exact ⟨v,rfl,h1,hb⟩
theorem rscale_2 {us : List (Nat × Int)} {j k : Int} (vX vB : Value) (a : List (Nat × Int)) (r z : Int) (H : Two (tMulOk a r z) (scP a z) (r * z) us j k) (w : World) (hX : RTermR w vX a r) (hB : RNum w vB z 400) :
  Calls Tryz.prog 24 #[vX,vB] w fun e w' => ∃ v,e = .returned (.tuple #[v,.int .i64 k]) ∧ RTermR w' v us j ∧ Below w.heap.size w w' := by
 refine (rscale_any vX vB a r z w hX hB).mono ?_;rintro e w' ⟨v,c,rfl,h,hb⟩;obtain ⟨rfl,h1⟩ := H.q h;exact ⟨v,rfl,h1,hb⟩
theorem radd_2 {us : List (Nat × Int)} {j k : Int} (vX vY : Value) (a b : List (Nat × Int)) (r s : Int) (H : Two (tAddOk a b r s) (addP a b) (r + s) us j k) (w : World) (hX : RTermR w vX a r) (hY : RTermR w vY b s) :
  Calls Tryz.prog 15 #[vX,vY] w fun e w' => ∃ p q r9 x m n c,e = .returned (.tuple #[.agg #[.slice p q r9,.bool x,.slice m n c],.int .i64 k]) ∧ RTP w' p q r9 x m n c us j ∧ Below w.heap.size w w' := by
 refine (radd_any vX vY a b r s w hX hY).mono ?_;rintro e w' ⟨v,c,rfl,h,hb⟩;obtain ⟨rfl,p,q,r9,x,m,n,c,rfl,h1⟩ := H.q h;exact ⟨p,q,r9,x,m,n,c,rfl,h1,hb⟩
theorem rput_2 {us : List (Nat × Int)} {j k : Int} (vX vY : Value) (a b : List (Nat × Int)) (r s v : Int) (H : Two (putOk a r v b s) (putP a v b) (putR a r v s) us j k) (w : World) (hX : RTermR w vX a r) (hY : RTermR w vY b s) :
  Calls Tryz.prog 26 #[vX,.int .i64 v,vY] w fun e w' => ∃ p q r9 x m n c,e = .returned (.tuple #[.agg #[.slice p q r9,.bool x,.slice m n c],.int .i64 k]) ∧ RTP w' p q r9 x m n c us j ∧ Below w.heap.size w w' := by
 refine (rput_any vX vY a b r s v w hX hY).mono ?_;rintro e w' ⟨v,c,rfl,h,hb⟩;obtain ⟨rfl,p,q,r9,x,m,n,c,rfl,h1⟩ := H.q h;exact ⟨p,q,r9,x,m,n,c,rfl,h1,hb⟩
theorem lsame_2 (vX vY : Value) (a b : List (Nat × Int)) (r t : Int) (bb : Bool) (hbb : decide (a = b ∧ r = t) = bb) (w : World) (hX : TermR w vX a r) (hY : TermR w vY b t) :
  Calls Tryz.prog 21 #[vX,vY] w fun e w' => e = .returned (.bool bb) ∧ Below w.heap.size w w' := by
 subst hbb;exact lsame_any vX vY a b r t w hX hY
theorem rtext_2 (vX : Value) (a : List (Nat × Int)) (r : Int) (S : ByteArray) (h : tT a r = S) (w : World) (hX : RTermR w vX a r) :
  Calls Tryz.prog 20 #[vX] w fun e w' => e = .returned (.string S) ∧ Below w.heap.size w w' := by
 subst h;exact rtext_any vX a r w hX
theorem radd_3 {us : List (Nat × Int)} {j k : Int} (vX vY : Value) (a b : List (Nat × Int)) (r s : Int) (H : Two (tAddOk a b r s) (addP a b) (r + s) us j k) (w : World) (hX : RTermR w vX a r) (hY : RTermR w vY b s) :
  Calls Tryz.prog 15 #[vX,vY] w fun e w' => ∃ v,e = .returned (.tuple #[v,.int .i64 k]) ∧ RTermR w' v us j ∧ Below w.heap.size w w' := by
 refine (radd_2 vX vY a b r s H w hX hY).mono ?_;rintro e w' ⟨p,q,r9,x,m,n,c,rfl,h,hb⟩;exact ⟨_,rfl,h.val,hb⟩
theorem sarr_one (w : World) (S : ByteArray) : SArr (w.alloc (.cells #[.string S] 9 (0,0))) (some ⟨w.heap.size,0,none⟩) [S] := by
 refine Or.inr ⟨w.heap.size,0,rfl,fun i hi => ?_⟩
 have h : i = 0 := by simpa using hi
 subst h;exact (Blk.new w 9 #[.string S]).cell 0
theorem arr_one {w : World} {ao : Option Addr} {z : Int} (h : Arr w ao [z]) : ∃ g o,ao = some ⟨g,o,none⟩ ∧ ∃ s a n c,w.cell? ⟨g,o,none⟩ = some (.bool s) ∧ w.cell? ⟨g,o + 1,none⟩ = some (.slice a n c) ∧ AInt w (.agg #[.bool s,.slice a n c]) z := by
 rcases h with h | ⟨g,o,h1,h2⟩
 · cases h
 ·
  obtain ⟨s,a,n,c,k1,k2,k3⟩ := h2 0 (by simp)
  exact ⟨g,o,h1,s,a,n,c,by simpa using k1,by simpa using k2,k3⟩
theorem arrR_one {w : World} {ao : Option Addr} {z : Int} (h : ArrR w ao [z]) : ∃ g o,ao = some ⟨g,o,none⟩ ∧ ∃ s a n c,w.cell? ⟨g,o,none⟩ = some (.bool s) ∧ w.cell? ⟨g,o + 1,none⟩ = some (.slice a n c) ∧ RNum w (.agg #[.bool s,.slice a n c]) z 400 := by
 rcases h with h | ⟨g,o,h1,h2⟩
 · cases h
 ·
  obtain ⟨s,a,n,c,k1,k2,k3⟩ := h2 0 (by simp)
  exact ⟨g,o,h1,s,a,n,c,by simpa using k1,by simpa using k2,k3⟩
set_option maxRecDepth 20000 in
set_option maxHeartbeats 64000000 in
theorem linearReckons_any (aX : Option Addr) (nX cX : Nat) (ms : List (Int × ByteArray)) (aY : Option Addr) (nY cY : Nat) (ls : List (Int × ByteArray)) (SB : ByteArray) (vo : Option Addr) (vn vc : Nat) (ss : List ByteArray) (v : Int) (w : World) (ht : Tab w) (hm : MArr w aX ms) (hl : ms.length = nX) (hx : nX ≤ maxLen) (hm2 : MArr w aY ls) (hl2 : ls.length = nY) (hy : nY ≤ maxLen) (hs : SArr w vo ss) (hsn : ss.length = vn) (hvn : vn ≤ maxLen) :
  Calls Tryz.prog 3 #[.slice aX nX cX,.slice aY nY cY,.agg #[.string SB,.slice vo vn vc,.int .i64 v]] w fun e w' => e = .returned (.bool true) ∧ Below w.heap.size w w' := by
 have oK := (Blk.new w 25 #[.string SB,.slice vo vn vc,.int .i64 v]);have hbw : Below w.heap.size w (w.alloc (.cells #[.string SB,.slice vo vn vc,.int .i64 v] 25 (0,0))) := by go_grown
 have ltK := oK.lt;have lwK : w.heap.size ≤ w.heap.size := by omega
 have HTB : Hid (Tab w) := ht;have HM : Hid (MArr w aX ms) := hm;have HLN : Hid (ms.length = nX) := hl;have HXN : Hid (nX ≤ maxLen) := hx;have HM2 : Hid (MArr w aY ls) := hm2;have HLN2 : Hid (ls.length = nY) := hl2;have HYN : Hid (nY ≤ maxLen) := hy;clear ht hm hl hx hm2 hl2 hy hs hsn hvn;go_enter Tryz.func3,Tryz.ntmps3;go_wp2_with fail
 refine (awake3_any _ (HTB.out.below hbw)).mono ?_;rintro e w1 ⟨rfl,hb⟩;replace oK := oK.stay hb;replace ltK := oK.lt;replace hbw := hbw.step hb (Nat.le_refl _);clear hb;go_wp2_with fail
 refine (few_any aX nX cX ms _ (HM.out.below hbw) HLN.out HXN.out).mono ?_;rintro e w2 ⟨a0,n0,c0,rfl,hn0,hm0,hb⟩;replace oK := oK.stay hb;replace ltK := oK.lt;replace hbw := hbw.step hb (Nat.le_refl _);clear hb;have HN0 : Hid ((fewM ms).length = n0) := hn0;have HO0 : Hid (n0 ≤ maxLen) := by show _ ≤ _;rw [← hn0];have := fewM_len ms;unfold maxLen;omega
 clear hn0;go_wp2_with fail
 refine (few_any aY nY cY ls _ (HM2.out.below hbw) HLN2.out HYN.out).mono ?_;rintro e w3 ⟨a9,n9,c9,rfl,hn9,hm9,hb⟩;replace oK := oK.stay hb;replace ltK := oK.lt;replace hm0 := hm0.below hb;replace hbw := hbw.step hb (Nat.le_refl _);clear hb;have HN9 : Hid ((fewM ls).length = n9) := hn9;have HO9 : Hid (n9 ≤ maxLen) := by show _ ≤ _;rw [← hn9];have := fewM_len ls;unfold maxLen;omega
 clear hn9;go_wp2_with fail
 refine (term_any a0 n0 c0 (fewM ms) _ hm0 HN0.out HO0.out (fewM_size ms)).mono ?_;rintro e w4 ⟨_,ps,r,ok,rfl,⟨pA,qA,rA,xA,aA,nA,cA,rfl,hA⟩,HT,hb⟩;replace oK := oK.stay hb;replace ltK := oK.lt;replace hm0 := hm0.below hb;replace hm9 := hm9.below hb;replace hbw := hbw.step hb (Nat.le_refl _);clear hb;have hn := below_new w4 (.cells #[.slice pA qA rA,.bool xA,.slice aA nA cA] 33 (0,0));have oA := Blk.new w4 33 #[.slice pA qA rA,.bool xA,.slice aA nA cA];have neKA : w.heap.size ≠ w4.heap.size := by have := ltK;(try simp at this);omega
 have lwA : w.heap.size ≤ w4.heap.size := by have := hbw.size;(try simp at this);omega
 replace oK := oK.stay hn;replace ltK := oK.lt;replace hm0 := hm0.below hn;replace hm9 := hm9.below hn;replace hA := hA.below hn;replace hbw := hbw.step hn (Nat.le_refl _);clear hn;have ltA := oA.lt;go_wp2_with fail
 refine (term_any a9 n9 c9 (fewM ls) _ hm9 HN9.out HO9.out (fewM_size ls)).mono ?_;rintro e w5 ⟨_,qs,t,ok2,rfl,⟨pB,qB,rB,xB,aB,nB,cB,rfl,hB⟩,HT2,hb⟩;replace oK := oK.stay hb;replace ltK := oK.lt;replace oA := oA.stay hb;replace ltA := oA.lt;replace hm0 := hm0.below hb;replace hm9 := hm9.below hb;replace hA := hA.below hb;replace hbw := hbw.step hb (Nat.le_refl _);clear hb;have hn := below_new w5 (.cells #[.slice pB qB rB,.bool xB,.slice aB nB cB] 33 (0,0));have oB := Blk.new w5 33 #[.slice pB qB rB,.bool xB,.slice aB nB cB];have neKB : w.heap.size ≠ w5.heap.size := by have := ltK;(try simp at this);omega
 have neAB : w4.heap.size ≠ w5.heap.size := by have := ltA;(try simp at this);omega
 have lwB : w.heap.size ≤ w5.heap.size := by have := hbw.size;(try simp at this);omega
 replace oK := oK.stay hn;replace ltK := oK.lt;replace oA := oA.stay hn;replace ltA := oA.lt;replace hm0 := hm0.below hn;replace hm9 := hm9.below hn;replace hA := hA.below hn;replace hB := hB.below hn;replace hbw := hbw.step hn (Nat.le_refl _);clear hn;have ltB := oB.lt;go_wp2_with fail
 refine (rsum_any a0 n0 c0 (fewM ms) _ hm0 HN0.out HO0.out (fewM_size ms)).mono ?_;rintro e w6 ⟨_,co,ps2,r2,rfl,⟨pX,qX,rX,xX,aX,nX,cX,rfl,hX⟩,HT3,hb⟩;replace oK := oK.stay hb;replace ltK := oK.lt;replace oA := oA.stay hb;replace ltA := oA.lt;replace oB := oB.stay hb;replace ltB := oB.lt;replace hm0 := hm0.below hb;replace hm9 := hm9.below hb;replace hA := hA.below hb;replace hB := hB.below hb;replace hbw := hbw.step hb (Nat.le_refl _);clear hb;have hn := below_new w6 (.cells #[.slice pX qX rX,.bool xX,.slice aX nX cX] 41 (0,0));have oX := Blk.new w6 41 #[.slice pX qX rX,.bool xX,.slice aX nX cX];have neKX : w.heap.size ≠ w6.heap.size := by have := ltK;(try simp at this);omega
 have neAX : w4.heap.size ≠ w6.heap.size := by have := ltA;(try simp at this);omega
 have neBX : w5.heap.size ≠ w6.heap.size := by have := ltB;(try simp at this);omega
 have lwX : w.heap.size ≤ w6.heap.size := by have := hbw.size;(try simp at this);omega
 replace oK := oK.stay hn;replace ltK := oK.lt;replace oA := oA.stay hn;replace ltA := oA.lt;replace oB := oB.stay hn;replace ltB := oB.lt;replace hm0 := hm0.below hn;replace hm9 := hm9.below hn;replace hA := hA.below hn;replace hB := hB.below hn;replace hX := hX.below hn;replace hbw := hbw.step hn (Nat.le_refl _);clear hn;have ltX := oX.lt;go_wp2_with fail
 refine (rsum_any a9 n9 c9 (fewM ls) _ hm9 HN9.out HO9.out (fewM_size ls)).mono ?_;rintro e w7 ⟨_,co2,qs2,t2,rfl,⟨pY,qY,rY,xY,aY,nY,cY,rfl,hY⟩,HT4,hb⟩;replace oK := oK.stay hb;replace ltK := oK.lt;replace oA := oA.stay hb;replace ltA := oA.lt;replace oB := oB.stay hb;replace ltB := oB.lt;replace oX := oX.stay hb;replace ltX := oX.lt;replace hm0 := hm0.below hb;replace hm9 := hm9.below hb;replace hA := hA.below hb;replace hB := hB.below hb;replace hX := hX.below hb;replace hbw := hbw.step hb (Nat.le_refl _);clear hb;have hn := below_new w7 (.cells #[.slice pY qY rY,.bool xY,.slice aY nY cY] 41 (0,0));have oY := Blk.new w7 41 #[.slice pY qY rY,.bool xY,.slice aY nY cY];have neKY : w.heap.size ≠ w7.heap.size := by have := ltK;(try simp at this);omega
 have neAY : w4.heap.size ≠ w7.heap.size := by have := ltA;(try simp at this);omega
 have neBY : w5.heap.size ≠ w7.heap.size := by have := ltB;(try simp at this);omega
 have neXY : w6.heap.size ≠ w7.heap.size := by have := ltX;(try simp at this);omega
 have lwY : w.heap.size ≤ w7.heap.size := by have := hbw.size;(try simp at this);omega
 replace oK := oK.stay hn;replace ltK := oK.lt;replace oA := oA.stay hn;replace ltA := oA.lt;replace oB := oB.stay hn;replace ltB := oB.lt;replace oX := oX.stay hn;replace ltX := oX.lt;replace hm0 := hm0.below hn;replace hm9 := hm9.below hn;replace hA := hA.below hn;replace hB := hB.below hn;replace hX := hX.below hn;replace hY := hY.below hn;replace hbw := hbw.step hn (Nat.le_refl _);clear hn;have ltY := oY.lt;clear hm0 hm9;cases ok
 ·
  have h1 := term_no HT.out HT3.out;have h1b : (co == 0) = false := beq_eq_false_iff_ne.2 h1;clear h1 HT HT3;cases ok2
  ·
   have h2 := term_no HT2.out HT4.out;have h2b : (co2 == 0) = false := beq_eq_false_iff_ne.2 h2;clear h2 HT2 HT4;go_wp2;go_ret
   exact ⟨rfl,hbw⟩
  ·
   obtain ⟨rfl,rfl,rfl⟩ := term_sum HT2.out HT4.out;clear HT2 HT4;go_wp2;go_ret
   exact ⟨rfl,hbw⟩
 ·
  obtain ⟨rfl,rfl,rfl⟩ := term_sum HT.out HT3.out;clear HT HT3;cases ok2
  ·
   have h2 := term_no HT2.out HT4.out;have h2b : (co2 == 0) = false := beq_eq_false_iff_ne.2 h2;clear h2 HT2 HT4;go_wp2;go_ret
   exact ⟨rfl,hbw⟩
  ·
   obtain ⟨rfl,rfl,rfl⟩ := term_sum HT2.out HT4.out;clear HT2 HT4;obtain ⟨u1,j1,k1,H1⟩ := Two.any (tAddOk ps2 qs2 r2 t2) (addP ps2 qs2) (r2 + t2);obtain ⟨u2,j2,k2,H2⟩ := Two.any (tAddOk ps2 (mulP qs2 (-1)) r2 (-t2)) (addP ps2 (mulP qs2 (-1))) (r2 + -t2);have H1H : Hid (Two _ _ _ u1 j1 k1) := H1;have H2H : Hid (Two _ _ _ u2 j2 k2) := H2;clear H1 H2;obtain ⟨Ac0,Ac1,Ac2⟩ := oA.three;obtain ⟨Ak0,Ak1,Ak2⟩ := oA.frozen3;obtain ⟨Bc0,Bc1,Bc2⟩ := oB.three;obtain ⟨Bk0,Bk1,Bk2⟩ := oB.frozen3;go_wp2_with fail
   refine (ladd_2 _ _ ps2 qs2 r2 t2 H1H.out _ hA.val hB.val).mono ?_;rintro e w8 ⟨pP,qP,rP,xP,aP,nP,cP,rfl,hP,hb⟩;clear Ac0 Ac1 Ac2 Ak0 Ak1 Ak2;clear Bc0 Bc1 Bc2 Bk0 Bk1 Bk2;replace oK := oK.stay hb;replace ltK := oK.lt;replace oA := oA.stay hb;replace ltA := oA.lt;replace oB := oB.stay hb;replace ltB := oB.lt;replace oX := oX.stay hb;replace ltX := oX.lt;replace oY := oY.stay hb;replace ltY := oY.lt;replace hA := hA.below hb;replace hB := hB.below hb;replace hX := hX.below hb;replace hY := hY.below hb;replace hbw := hbw.step hb (Nat.le_refl _);clear hb;have hn := below_new w8 (.cells #[.slice pP qP rP,.bool xP,.slice aP nP cP] 33 (0,0));have oP := Blk.new w8 33 #[.slice pP qP rP,.bool xP,.slice aP nP cP];have neKP : w.heap.size ≠ w8.heap.size := by have := ltK;(try simp at this);omega
   have neAP : w4.heap.size ≠ w8.heap.size := by have := ltA;(try simp at this);omega
   have neBP : w5.heap.size ≠ w8.heap.size := by have := ltB;(try simp at this);omega
   have neXP : w6.heap.size ≠ w8.heap.size := by have := ltX;(try simp at this);omega
   have neYP : w7.heap.size ≠ w8.heap.size := by have := ltY;(try simp at this);omega
   have lwP : w.heap.size ≤ w8.heap.size := by have := hbw.size;(try simp at this);omega
   replace oK := oK.stay hn;replace ltK := oK.lt;replace oA := oA.stay hn;replace ltA := oA.lt;replace oB := oB.stay hn;replace ltB := oB.lt;replace oX := oX.stay hn;replace ltX := oX.lt;replace oY := oY.stay hn;replace ltY := oY.lt;replace hA := hA.below hn;replace hB := hB.below hn;replace hX := hX.below hn;replace hY := hY.below hn;replace hP := hP.below hn;replace hbw := hbw.step hn (Nat.le_refl _);clear hn;have ltP := oP.lt;obtain ⟨Ac0,Ac1,Ac2⟩ := oA.three;obtain ⟨Ak0,Ak1,Ak2⟩ := oA.frozen3;obtain ⟨Bc0,Bc1,Bc2⟩ := oB.three;obtain ⟨Bk0,Bk1,Bk2⟩ := oB.frozen3;go_wp2_with fail
   refine (lsub_2 _ _ ps2 qs2 r2 t2 H2H.out _ hA.val hB.val).mono ?_;rintro e w9 ⟨pQ,qQ,rQ,xQ,aQ,nQ,cQ,rfl,hQ,hb⟩;clear Ac0 Ac1 Ac2 Ak0 Ak1 Ak2;clear Bc0 Bc1 Bc2 Bk0 Bk1 Bk2;replace oK := oK.stay hb;replace ltK := oK.lt;replace oA := oA.stay hb;replace ltA := oA.lt;replace oB := oB.stay hb;replace ltB := oB.lt;replace oX := oX.stay hb;replace ltX := oX.lt;replace oY := oY.stay hb;replace ltY := oY.lt;replace oP := oP.stay hb;replace ltP := oP.lt;replace hA := hA.below hb;replace hB := hB.below hb;replace hX := hX.below hb;replace hY := hY.below hb;replace hP := hP.below hb;replace hbw := hbw.step hb (Nat.le_refl _);clear hb;have hn := below_new w9 (.cells #[.slice pQ qQ rQ,.bool xQ,.slice aQ nQ cQ] 33 (0,0));have oQ := Blk.new w9 33 #[.slice pQ qQ rQ,.bool xQ,.slice aQ nQ cQ];have neKQ : w.heap.size ≠ w9.heap.size := by have := ltK;(try simp at this);omega
   have neAQ : w4.heap.size ≠ w9.heap.size := by have := ltA;(try simp at this);omega
   have neBQ : w5.heap.size ≠ w9.heap.size := by have := ltB;(try simp at this);omega
   have neXQ : w6.heap.size ≠ w9.heap.size := by have := ltX;(try simp at this);omega
   have neYQ : w7.heap.size ≠ w9.heap.size := by have := ltY;(try simp at this);omega
   have nePQ : w8.heap.size ≠ w9.heap.size := by have := ltP;(try simp at this);omega
   have lwQ : w.heap.size ≤ w9.heap.size := by have := hbw.size;(try simp at this);omega
   replace oK := oK.stay hn;replace ltK := oK.lt;replace oA := oA.stay hn;replace ltA := oA.lt;replace oB := oB.stay hn;replace ltB := oB.lt;replace oX := oX.stay hn;replace ltX := oX.lt;replace oY := oY.stay hn;replace ltY := oY.lt;replace oP := oP.stay hn;replace ltP := oP.lt;replace hA := hA.below hn;replace hB := hB.below hn;replace hX := hX.below hn;replace hY := hY.below hn;replace hP := hP.below hn;replace hQ := hQ.below hn;replace hbw := hbw.step hn (Nat.le_refl _);clear hn;have ltQ := oQ.lt;obtain ⟨Xc0,Xc1,Xc2⟩ := oX.three;obtain ⟨Xk0,Xk1,Xk2⟩ := oX.frozen3;obtain ⟨Yc0,Yc1,Yc2⟩ := oY.three;obtain ⟨Yk0,Yk1,Yk2⟩ := oY.frozen3;go_wp2_with fail
   refine (radd_2 _ _ ps2 qs2 r2 t2 H1H.out _ hX.val hY.val).mono ?_;rintro e w10 ⟨pU,qU,rU,xU,aU,nU,cU,rfl,hU,hb⟩;clear Xc0 Xc1 Xc2 Xk0 Xk1 Xk2;clear Yc0 Yc1 Yc2 Yk0 Yk1 Yk2;replace oK := oK.stay hb;replace ltK := oK.lt;replace oA := oA.stay hb;replace ltA := oA.lt;replace oB := oB.stay hb;replace ltB := oB.lt;replace oX := oX.stay hb;replace ltX := oX.lt;replace oY := oY.stay hb;replace ltY := oY.lt;replace oP := oP.stay hb;replace ltP := oP.lt;replace oQ := oQ.stay hb;replace ltQ := oQ.lt;replace hA := hA.below hb;replace hB := hB.below hb;replace hX := hX.below hb;replace hY := hY.below hb;replace hP := hP.below hb;replace hQ := hQ.below hb;replace hbw := hbw.step hb (Nat.le_refl _);clear hb;have hn := below_new w10 (.cells #[.slice pU qU rU,.bool xU,.slice aU nU cU] 41 (0,0));have oU := Blk.new w10 41 #[.slice pU qU rU,.bool xU,.slice aU nU cU];have neKU : w.heap.size ≠ w10.heap.size := by have := ltK;(try simp at this);omega
   have neAU : w4.heap.size ≠ w10.heap.size := by have := ltA;(try simp at this);omega
   have neBU : w5.heap.size ≠ w10.heap.size := by have := ltB;(try simp at this);omega
   have neXU : w6.heap.size ≠ w10.heap.size := by have := ltX;(try simp at this);omega
   have neYU : w7.heap.size ≠ w10.heap.size := by have := ltY;(try simp at this);omega
   have nePU : w8.heap.size ≠ w10.heap.size := by have := ltP;(try simp at this);omega
   have neQU : w9.heap.size ≠ w10.heap.size := by have := ltQ;(try simp at this);omega
   have lwU : w.heap.size ≤ w10.heap.size := by have := hbw.size;(try simp at this);omega
   replace oK := oK.stay hn;replace ltK := oK.lt;replace oA := oA.stay hn;replace ltA := oA.lt;replace oB := oB.stay hn;replace ltB := oB.lt;replace oX := oX.stay hn;replace ltX := oX.lt;replace oY := oY.stay hn;replace ltY := oY.lt;replace oP := oP.stay hn;replace ltP := oP.lt;replace oQ := oQ.stay hn;replace ltQ := oQ.lt;replace hA := hA.below hn;replace hB := hB.below hn;replace hX := hX.below hn;replace hY := hY.below hn;replace hP := hP.below hn;replace hQ := hQ.below hn;replace hU := hU.below hn;replace hbw := hbw.step hn (Nat.le_refl _);clear hn;have ltU := oU.lt;go_wp2;generalize (w10.alloc (.cells #[.slice pU qU rU,.bool xU,.slice aU nU cU] 41 (0,0))) = W10 at hbw oK oA oB oX oY oP oQ oU ltK ltA ltB ltX ltY ltP ltQ ltU hA hB hX hY hP hQ hU ⊢;have hbW := hbw;refine wp_region_M (by kernel_rfl) [21,22,93,94,95,96,97,98,99] [none,none,none,none,none,none,none,none,none,none,none,none,none,none,none,none,none,none,none,none,none,some 21,some 22,none,none,none,none,none,none,none,none,none,none,none,none,none,none,none,none,none,none,none,none,none,none,none,none,none,none,none,none,none,none,none,none,none,none,none,none,none,none,none,none,none,none,none,none,none,none,none,none,none,none,none,none,none,none,none,none,none,none,none,none,none,none,none,none,none,none,none,none,none,none,some 93,some 94,some 95,some 96,some 97,some 98,some 99] (fun U => by kernel_rfl) (fun L U wr => Below w.heap.size w wr ∧ KeepQ W10 wr ∧ W10.heap.size ≤ wr.heap.size ∧ Below W10.heap.size W10 wr ∧ Blk 25 wr (w.heap.size) #[.string SB,.slice vo vn vc,.int .i64 v] ∧ Blk 33 wr (w4.heap.size) #[.slice pA qA rA,.bool xA,.slice aA nA cA] ∧ Blk 33 wr (w5.heap.size) #[.slice pB qB rB,.bool xB,.slice aB nB cB] ∧ Blk 41 wr (w6.heap.size) #[.slice pX qX rX,.bool xX,.slice aX nX cX] ∧ Blk 41 wr (w7.heap.size) #[.slice pY qY rY,.bool xY,.slice aY nY cY] ∧ Blk 33 wr (w8.heap.size) #[.slice pP qP rP,.bool xP,.slice aP nP cP] ∧ Blk 33 wr (w9.heap.size) #[.slice pQ qQ rQ,.bool xQ,.slice aQ nQ cQ] ∧ Blk 41 wr (w10.heap.size) #[.slice pU qU rU,.bool xU,.slice aU nU cU] ∧ (L 0 = true → IS (.agg #[.slice pX qX rX,.bool xX,.slice aX nX cX]) (U 94) wr) ∧ (L 1 = true → IS (.agg #[.slice pY qY rY,.bool xY,.slice aY nY cY]) (U 95) wr) ∧ (L 2 = true → RTM (mulP qs2 (-1)) (-t2) (U 96) wr) ∧ (L 3 = true → T2 (RTM u2 j2) (IS (.int .i64 k2)) (U 97) wr) ∧ (L 4 = true → T2 (RTM u2 j2) (IS (.int .i64 k2)) (U 93) wr) ∧ (L 5 = true → RTM u2 j2 (U 98) wr) ∧ (L 6 = true → IS (.int .i64 k2) (U 99) wr) ∧ (L 7 = true → NEWU 41 W10.heap.size wr (U 21) (bif L 8 then U 98 else .agg #[.slice none 0 0,.bool false,.slice none 0 0])) ∧ (L 9 = true → IS (.int .i64 k2) (U 22) wr) ∧ (L 8 = true → L 5 = true) ∧ (L 8 = true → L 7 = true)) (by kernel_rfl) ?_ ?_ ?_
   · exact fun U => ⟨hbw.drew,KeepQ.below (Below.refl _ _).drew,Nat.le_refl _,(Below.refl _ _).drew,oK.drew,oA.drew,oB.drew,oX.drew,oY.drew,oP.drew,oQ.drew,oU.drew,(fun h => by cases h),(fun h => by cases h),(fun h => by cases h),(fun h => by cases h),(fun h => by cases h),(fun h => by cases h),(fun h => by cases h),(fun h => by cases h),(fun h => by cases h),(fun h => by cases h),(fun h => by cases h)⟩
   ·
    refine StepsU.run rfl ?_ ?_
    ·
     intro L U wr hF hlk haf A K hA hK;have HA : Hid (A = putAll _ _ U) := hA;clear hA;simp [Aft,Region.binds] at haf;obtain ⟨fb,fk,fs,fB,oK,oA,oB,oX,oY,oP,oQ,oU,f0,f1,f2,f3,f4,f5,f6,f7,f9,s8,m7⟩ := hF;have e11 : A.tmps[11]? = some (.pointer (some ⟨w6.heap.size,0,none⟩)) := by rw [HA.out];kernel_rfl
     have c0 := Blk.cell oX 0;have c1 := Blk.cell oX 1;have c2 := Blk.cell oX 2;simp at c0;simp at c1;simp at c2;refine ⟨?_⟩;go_simp;refine hK (upd U 94 (.agg #[.slice pX qX rX,.bool xX,.slice aX nX cX])) _ _ ?_ ?_
     · rw [HA.out];kernel_rfl
     · exact ⟨fb,fk,fs,fB,oK,oA,oB,oX,oY,oP,oQ,oU,(fun _ => rfl),f1,f2,f3,f4,f5,f6,f7,f9,s8,m7⟩
    refine StepsU.run rfl ?_ ?_
    ·
     intro L U wr hF hlk haf A K hA hK;have HA : Hid (A = putAll _ _ U) := hA;clear hA;simp [Aft,Region.binds] at haf;obtain ⟨fb,fk,fs,fB,oK,oA,oB,oX,oY,oP,oQ,oU,f0,f1,f2,f3,f4,f5,f6,f7,f9,s8,m7⟩ := hF;have e13 : A.tmps[13]? = some (.pointer (some ⟨w7.heap.size,0,none⟩)) := by rw [HA.out];kernel_rfl
     have c0 := Blk.cell oY 0;have c1 := Blk.cell oY 1;have c2 := Blk.cell oY 2;simp at c0;simp at c1;simp at c2;refine ⟨?_⟩;go_simp;refine hK (upd U 95 (.agg #[.slice pY qY rY,.bool xY,.slice aY nY cY])) _ _ ?_ ?_
     · rw [HA.out];kernel_rfl
     · exact ⟨fb,fk,fs,fB,oK,oA,oB,oX,oY,oP,oQ,oU,f0,(fun _ => rfl),f2,f3,f4,f5,f6,f7,f9,s8,m7⟩
    refine StepsU.run rfl ?_ ?_
    ·
     intro L U wr hF hlk haf A K hA hK;have HA : Hid (A = putAll _ _ U) := hA;clear hA;simp [Aft,Region.binds] at haf;obtain ⟨fb,fk,fs,fB,oK,oA,oB,oX,oY,oP,oQ,oU,f0,f1,f2,f3,f4,f5,f6,f7,f9,s8,m7⟩ := hF;have g1 := f1 (by simp [haf])
     have e95 := rd HA.out 95 (by kernel_rfl) g1
     refine ⟨?_⟩;go_simp;refine (rneg3_any _ qs2 t2 _ (hY.below fB).val).mono ?_;rintro e w1 ⟨v9,rfl,hr,hb⟩;go_simp;refine hK (upd U 96 v9) _ _ ?_ ?_
     · rw [HA.out];kernel_rfl
     · exact ⟨(fb.step hb (Nat.le_refl _)),(fk.trans (KeepQ.below hb)),(Nat.le_trans fs hb.size),(fB.step hb (Nat.le_refl _)),(oK.stay hb),(oA.stay hb),(oB.stay hb),(oX.stay hb),(oY.stay hb),(oP.stay hb),(oQ.stay hb),(oU.stay hb),f0,f1,(fun _ => hr),(mvQ (mq_t2 mq_rtm mq_is) (KeepQ.below hb) f3),(mvQ (mq_t2 mq_rtm mq_is) (KeepQ.below hb) f4),(mvQ mq_rtm (KeepQ.below hb) f5),f6,(fun h => (f7 h).below hb),f9,s8,m7⟩
    refine StepsU.run rfl ?_ ?_
    ·
     intro L U wr hF hlk haf A K hA hK;have HA : Hid (A = putAll _ _ U) := hA;clear hA;simp [Aft,Region.binds] at haf;obtain ⟨fb,fk,fs,fB,oK,oA,oB,oX,oY,oP,oQ,oU,f0,f1,f2,f3,f4,f5,f6,f7,f9,s8,m7⟩ := hF;have g0 := f0 (by simp [haf])
     have e94 := rd HA.out 94 (by kernel_rfl) g0
     have g2 := f2 (by simp [haf])
     have e96 := rd HA.out 96 (by kernel_rfl) rfl
     refine ⟨?_⟩;go_simp;refine (radd_3 _ _ ps2 (mulP qs2 (-1)) r2 (-t2) H2H.out _ (hX.below fB).val g2).mono ?_;rintro e w1 ⟨v9,rfl,hr,hb⟩;go_simp;refine hK (upd U 97 (.tuple #[v9,.int .i64 k2])) _ _ ?_ ?_
     · rw [HA.out];kernel_rfl
     · exact ⟨(fb.step hb (Nat.le_refl _)),(fk.trans (KeepQ.below hb)),(Nat.le_trans fs hb.size),(fB.step hb (Nat.le_refl _)),(oK.stay hb),(oA.stay hb),(oB.stay hb),(oX.stay hb),(oY.stay hb),(oP.stay hb),(oQ.stay hb),(oU.stay hb),f0,f1,(mvQ mq_rtm (KeepQ.below hb) f2),(fun _ => ⟨_,_,rfl,hr,rfl⟩),(mvQ (mq_t2 mq_rtm mq_is) (KeepQ.below hb) f4),(mvQ mq_rtm (KeepQ.below hb) f5),f6,(fun h => (f7 h).below hb),f9,s8,m7⟩
    refine StepsU.run rfl ?_ ?_
    ·
     intro L U wr hF hlk haf A K hA hK;have HA : Hid (A = putAll _ _ U) := hA;clear hA;simp [Aft,Region.binds] at haf;obtain ⟨fb,fk,fs,fB,oK,oA,oB,oX,oY,oP,oQ,oU,f0,f1,f2,f3,f4,f5,f6,f7,f9,s8,m7⟩ := hF;have g3 := f3 (by simp [haf])
     have e97 := rd HA.out 97 (by kernel_rfl) rfl
     refine ⟨?_⟩;go_simp;refine hK (upd U 93 (U 97)) _ _ ?_ ?_
     · rw [HA.out];kernel_rfl
     · exact ⟨fb,fk,fs,fB,oK,oA,oB,oX,oY,oP,oQ,oU,f0,f1,f2,f3,(fun _ => g3),f5,f6,f7,f9,s8,m7⟩
    refine StepsU.run rfl ?_ ?_
    ·
     intro L U wr hF hlk haf A K hA hK;have HA : Hid (A = putAll _ _ U) := hA;clear hA;simp [Aft,Region.binds] at haf;obtain ⟨fb,fk,fs,fB,oK,oA,oB,oX,oY,oP,oQ,oU,f0,f1,f2,f3,f4,f5,f6,f7,f9,s8,m7⟩ := hF;have g4 := f4 (by simp [haf])
     obtain ⟨t0,t1,hT,k0,k1⟩ := g4;have e93 := rd HA.out 93 (by kernel_rfl) hT
     refine ⟨?_⟩;go_simp;have hs8 : L 8 = false := by cases h : L 8 with | false => rfl | true => rw [s8 h] at hlk;cases hlk
     refine hK (upd U 98 t0) _ _ ?_ ?_
     · rw [HA.out];kernel_rfl
     · exact ⟨fb,fk,fs,fB,oK,oA,oB,oX,oY,oP,oQ,oU,f0,f1,f2,f3,f4,(fun _ => k0),f6,(fun h => flip_v (P := fun v => NEWU _ _ _ _ v) hs8 (f7 h)),f9,(fun _ => rfl),m7⟩
    refine StepsU.run rfl ?_ ?_
    ·
     intro L U wr hF hlk haf A K hA hK;have HA : Hid (A = putAll _ _ U) := hA;clear hA;simp [Aft,Region.binds] at haf;obtain ⟨fb,fk,fs,fB,oK,oA,oB,oX,oY,oP,oQ,oU,f0,f1,f2,f3,f4,f5,f6,f7,f9,s8,m7⟩ := hF;have g4 := f4 (by simp [haf])
     obtain ⟨t0,t1,hT,k0,k1⟩ := g4;have e93 := rd HA.out 93 (by kernel_rfl) hT
     refine ⟨?_⟩;go_simp;refine hK (upd U 99 t1) _ _ ?_ ?_
     · rw [HA.out];kernel_rfl
     · exact ⟨fb,fk,fs,fB,oK,oA,oB,oX,oY,oP,oQ,oU,f0,f1,f2,f3,f4,f5,(fun _ => k1),f7,f9,s8,m7⟩
    refine StepsU.run rfl ?_ ?_
    ·
     intro L U wr hF hlk haf A K hA hK;have HA : Hid (A = putAll _ _ U) := hA;clear hA;simp [Aft,Region.binds] at haf;obtain ⟨fb,fk,fs,fB,oK,oA,oB,oX,oY,oP,oQ,oU,f0,f1,f2,f3,f4,f5,f6,f7,f9,s8,m7⟩ := hF;have hst : L 8 = false := by cases h : L 8 with | false => rfl | true => rw [m7 h] at hlk;cases hlk
     refine ⟨?_⟩;go_simp;have hb := below_new wr (.cells #[.slice none 0 0,.bool false,.slice none 0 0] 41 (0,0));refine hK (upd U 21 (.pointer (some ⟨wr.heap.size,0,none⟩))) _ _ ?_ ?_
     · rw [HA.out];kernel_rfl
     · exact ⟨(fb.step hb (Nat.le_refl _)),(fk.trans (KeepQ.below hb)),(Nat.le_trans fs hb.size),(fB.step hb (Nat.le_refl _)),(oK.stay hb),(oA.stay hb),(oB.stay hb),(oX.stay hb),(oY.stay hb),(oP.stay hb),(oQ.stay hb),(oU.stay hb),f0,f1,(mvQ mq_rtm (KeepQ.below hb) f2),(mvQ (mq_t2 mq_rtm mq_is) (KeepQ.below hb) f3),(mvQ (mq_t2 mq_rtm mq_is) (KeepQ.below hb) f4),(mvQ mq_rtm (KeepQ.below hb) f5),f6,(fun _ => newU_zero (by simp [hst]) (NEWU.mk fs (nuT _ _ _ _ _ _ _))),f9,s8,(fun _ => rfl)⟩
    refine StepsU.run rfl ?_ ?_
    ·
     intro L U wr hF hlk haf A K hA hK;have HA : Hid (A = putAll _ _ U) := hA;clear hA;simp [Aft,Region.binds] at haf;obtain ⟨fb,fk,fs,fB,oK,oA,oB,oX,oY,oP,oQ,oU,f0,f1,f2,f3,f4,f5,f6,f7,f9,s8,m7⟩ := hF;have g5 := f5 (by simp [haf])
     obtain ⟨yp,yq,yr,yx,ya,yn,yc,hsrc⟩ := RTermR.shape g5;have e98 := rd HA.out 98 (by kernel_rfl) hsrc
     have g7 := f7 (by simp [haf])
     rw [hlk,cond_false] at g7;obtain ⟨b,cs,hp,hBb,hcs,hblk,hN⟩ := g7;injection hcs with hcs;subst hcs;have e21 := rd HA.out 21 (by kernel_rfl) hp
     have q0 := hblk.frozen 0;have q1 := hblk.frozen 1;have q2 := hblk.frozen 2;have c0 := hblk.cell 0;have c1 := hblk.cell 1;have c2 := hblk.cell 2;simp at c0;simp at c1;simp at c2;have hlt := hblk.lt;refine ⟨?_⟩;go_simp;refine hK U _ _ ?_ ?_
     · exact HA.out
     · exact ⟨(below_stores (Nat.le_trans (by exact hbW.size) hBb) [.slice yp yq yr,.bool yx,.slice ya yn yc] 0 fb),(fk.trans (keepQ_stores (by decide) (by decide) [.slice yp yq yr,.bool yx,.slice ya yn yc] 0 hblk (nuT _ _ _ _ _ _ _) (nuT _ _ _ _ _ _ _))),(by simp;exact fs),(below_stores hBb [.slice yp yq yr,.bool yx,.slice ya yn yc] 0 fB),(oK.otherS (Nat.ne_of_gt (Nat.lt_of_lt_of_le ltK hBb)) 0 [.slice yp yq yr,.bool yx,.slice ya yn yc]),(oA.otherS (Nat.ne_of_gt (Nat.lt_of_lt_of_le ltA hBb)) 0 [.slice yp yq yr,.bool yx,.slice ya yn yc]),(oB.otherS (Nat.ne_of_gt (Nat.lt_of_lt_of_le ltB hBb)) 0 [.slice yp yq yr,.bool yx,.slice ya yn yc]),(oX.otherS (Nat.ne_of_gt (Nat.lt_of_lt_of_le ltX hBb)) 0 [.slice yp yq yr,.bool yx,.slice ya yn yc]),(oY.otherS (Nat.ne_of_gt (Nat.lt_of_lt_of_le ltY hBb)) 0 [.slice yp yq yr,.bool yx,.slice ya yn yc]),(oP.otherS (Nat.ne_of_gt (Nat.lt_of_lt_of_le ltP hBb)) 0 [.slice yp yq yr,.bool yx,.slice ya yn yc]),(oQ.otherS (Nat.ne_of_gt (Nat.lt_of_lt_of_le ltQ hBb)) 0 [.slice yp yq yr,.bool yx,.slice ya yn yc]),(oU.otherS (Nat.ne_of_gt (Nat.lt_of_lt_of_le ltU hBb)) 0 [.slice yp yq yr,.bool yx,.slice ya yn yc]),f0,f1,(mvQ mq_rtm (keepQ_stores (by decide) (by decide) [.slice yp yq yr,.bool yx,.slice ya yn yc] 0 hblk (nuT _ _ _ _ _ _ _) (nuT _ _ _ _ _ _ _)) f2),(mvQ (mq_t2 mq_rtm mq_is) (keepQ_stores (by decide) (by decide) [.slice yp yq yr,.bool yx,.slice ya yn yc] 0 hblk (nuT _ _ _ _ _ _ _) (nuT _ _ _ _ _ _ _)) f3),(mvQ (mq_t2 mq_rtm mq_is) (keepQ_stores (by decide) (by decide) [.slice yp yq yr,.bool yx,.slice ya yn yc] 0 hblk (nuT _ _ _ _ _ _ _) (nuT _ _ _ _ _ _ _)) f4),(mvQ mq_rtm (keepQ_stores (by decide) (by decide) [.slice yp yq yr,.bool yx,.slice ya yn yc] 0 hblk (nuT _ _ _ _ _ _ _) (nuT _ _ _ _ _ _ _)) f5),f6,(fun _ => by simp only [cond_true,Bool.true_or,beq_self_eq_true];exact storedU_new hp hsrc (NEWU.overS hBb hblk [.slice yp yq yr,.bool yx,.slice ya yn yc] rfl (nuT _ _ _ _ _ _ _))),f9,(fun _ => by simp [haf]),(fun _ => by simp [haf])⟩
    refine StepsU.run rfl ?_ StepsU.nil
    ·
     intro L U wr hF hlk haf A K hA hK;have HA : Hid (A = putAll _ _ U) := hA;clear hA;simp [Aft,Region.binds] at haf;obtain ⟨fb,fk,fs,fB,oK,oA,oB,oX,oY,oP,oQ,oU,f0,f1,f2,f3,f4,f5,f6,f7,f9,s8,m7⟩ := hF;have g6 := f6 (by simp [haf])
     have e99 := rd HA.out 99 (by kernel_rfl) rfl
     refine ⟨?_⟩;go_simp;refine hK (upd U 22 (U 99)) _ _ ?_ ?_
     · rw [HA.out];kernel_rfl
     · exact ⟨fb,fk,fs,fB,oK,oA,oB,oX,oY,oP,oQ,oU,f0,f1,f2,f3,f4,f5,f6,f7,(fun _ => g6),s8,m7⟩
   clear hbw oK oA oB oX oY oP oQ oU;intro L U11 V11 hall hF;obtain ⟨hbw,fk,fs,fB,oK,oA,oB,oX,oY,oP,oQ,oU,f0,f1,f2,f3,f4,f5,f6,f7,f9,s8,m7⟩ := hF;clear s8 m7;have g0 := f0 (hall 0 (by decide))
   have g1 := f1 (hall 1 (by decide))
   have g2 := f2 (hall 2 (by decide))
   have g3 := f3 (hall 3 (by decide))
   have g4 := f4 (hall 4 (by decide))
   have g5 := f5 (hall 5 (by decide))
   have g6 := f6 (hall 6 (by decide))
   have g7 := f7 (hall 7 (by decide))
   rw [hall 8 (by decide),cond_true] at g7
   have g9 := f9 (hall 9 (by decide))
   clear hall f0 f1 f2 f3 f4 f5 f6 f7 f9;replace hA := hA.below fB;replace hB := hB.below fB;replace hX := hX.below fB;replace hY := hY.below fB;replace hP := hP.below fB;replace hQ := hQ.below fB;replace hU := hU.below fB;clear fB;obtain ⟨bZ,csZ,hpZ,lbZ,hcsZ,oZ,-⟩ := g7;obtain ⟨pZ,qZ,rZ,xZ,aZ,nZ,cZ,hvZ⟩ := RTermR.shape g5;have hZ : RTermR _ _ _ _ := g5;rw [hvZ] at hZ hcsZ;injection hcsZ with hcsZ;subst hcsZ;clear hvZ;have ltZ := oZ.lt;have neKZ : w.heap.size ≠ bZ := Nat.ne_of_lt (Nat.lt_of_lt_of_le ltK lbZ);have neAZ : w4.heap.size ≠ bZ := Nat.ne_of_lt (Nat.lt_of_lt_of_le ltA lbZ);have neBZ : w5.heap.size ≠ bZ := Nat.ne_of_lt (Nat.lt_of_lt_of_le ltB lbZ);have neXZ : w6.heap.size ≠ bZ := Nat.ne_of_lt (Nat.lt_of_lt_of_le ltX lbZ);have neYZ : w7.heap.size ≠ bZ := Nat.ne_of_lt (Nat.lt_of_lt_of_le ltY lbZ);have nePZ : w8.heap.size ≠ bZ := Nat.ne_of_lt (Nat.lt_of_lt_of_le ltP lbZ);have neQZ : w9.heap.size ≠ bZ := Nat.ne_of_lt (Nat.lt_of_lt_of_le ltQ lbZ);have neUZ : w10.heap.size ≠ bZ := Nat.ne_of_lt (Nat.lt_of_lt_of_le ltU lbZ);have lwZ : w.heap.size ≤ bZ := Nat.le_trans hbW.size lbZ;replace ltK := oK.lt;replace ltA := oA.lt;replace ltB := oB.lt;replace ltX := oX.lt;replace ltY := oY.lt;replace ltP := oP.lt;replace ltQ := oQ.lt;replace ltU := oU.lt;clear lbZ;try clear g0
   try clear g1
   try clear g2
   try clear g3
   try clear g4
   try clear g5
   try clear g6
   clear hbW;simp only [setM_some,setM_none,setM_nil];rw [hpZ];clear hpZ;clear fk fs;have e22 : U11 22 = _ := g9;rw [e22];clear g9 e22;obtain ⟨_,_,_,_,_,_,_,hz9,hZ2⟩ := hZ;injection hz9 with hz9;simp at hz9;obtain ⟨⟨rfl,rfl,rfl⟩,rfl,rfl,rfl,rfl⟩ := hz9;obtain ⟨S1,hS1⟩ : ∃ S,S = tT ps2 r2 := ⟨_,rfl⟩;obtain ⟨S2,hS2⟩ : ∃ S,S = tT qs2 t2 := ⟨_,rfl⟩;obtain ⟨bb,hbb⟩ : ∃ bb,bb = decide (ps2 = qs2 ∧ r2 = t2) := ⟨_,rfl⟩;have HS1 : Hid (tT ps2 r2 = S1) := hS1.symm;have HS2 : Hid (tT qs2 t2 = S2) := hS2.symm;have HBB : Hid (decide (ps2 = qs2 ∧ r2 = t2) = bb) := hbb.symm;have HSB : Hid ((S1.toList == S2.toList) = bb) := by
    show _ = _
    rw [hbb];by_cases h : ps2 = qs2 ∧ r2 = t2
    · rw [decide_eq_true h,hS1,hS2,h.1,h.2];simp
    ·
     rw [decide_eq_false h,beq_eq_false_iff_ne];intro k;apply h
     have k2 : S1 = S2 := by apply ByteArray.ext;apply Array.toList_inj.1;rw [← toList_data S1,← toList_data S2];exact k
     rw [hS1,hS2] at k2;exact tT_inj k2
   clear hS1 hS2 hbb;go_wp2;have hbW := hbw;refine wp_region_M (by kernel_rfl) [100,101,102,103,104,105,106,107,108,109,110,111,112,113,114,115,116,117,118,119,120,121,122,123,124,125,126,127,128,129,130,131,132,133] [none,none,none,none,none,none,none,none,none,none,none,none,none,none,none,none,none,none,none,none,none,none,none,none,none,none,none,none,none,none,none,none,none,none,none,none,none,none,none,none,none,none,none,none,none,none,none,none,none,none,none,none,none,none,none,none,none,none,none,none,none,none,none,none,none,none,none,none,none,none,none,none,none,none,none,none,none,none,none,none,none,none,none,none,none,none,none,none,none,none,none,none,none,none,none,none,none,none,none,none,some 100,some 101,some 102,some 103,some 104,some 105,some 106,some 107,some 108,some 109,some 110,some 111,some 112,some 113,some 114,some 115,some 116,some 117,some 118,some 119,some 120,some 121,some 122,some 123,some 124,some 125,some 126,some 127,some 128,some 129,some 130,some 131,some 132,some 133] (fun U => by kernel_rfl) (fun L U wr => Below w.heap.size w wr ∧ KeepB V11 wr ∧ V11.heap.size ≤ wr.heap.size ∧ Blk 25 wr (w.heap.size) #[.string SB,.slice vo vn vc,.int .i64 v] ∧ Blk 33 wr (w4.heap.size) #[.slice pA qA rA,.bool xA,.slice aA nA cA] ∧ Blk 33 wr (w5.heap.size) #[.slice pB qB rB,.bool xB,.slice aB nB cB] ∧ Blk 41 wr (w6.heap.size) #[.slice pX qX rX,.bool xX,.slice aX nX cX] ∧ Blk 41 wr (w7.heap.size) #[.slice pY qY rY,.bool xY,.slice aY nY cY] ∧ Blk 33 wr (w8.heap.size) #[.slice pP qP rP,.bool xP,.slice aP nP cP] ∧ Blk 33 wr (w9.heap.size) #[.slice pQ qQ rQ,.bool xQ,.slice aQ nQ cQ] ∧ Blk 41 wr (w10.heap.size) #[.slice pU qU rU,.bool xU,.slice aU nU cU] ∧ Blk 41 wr (bZ) #[.slice pZ qZ rZ,.bool xZ,.slice aZ nZ cZ] ∧ (L 0 = true → IS (.agg #[.slice pP qP rP,.bool xP,.slice aP nP cP]) (U 100) wr) ∧ (L 1 = true → IS (.int .i64 k1) (U 101) wr) ∧ (L 2 = true → IS (.agg #[.slice pU qU rU,.bool xU,.slice aU nU cU]) (U 102) wr) ∧ (L 3 = true → IS (.int .i64 k1) (U 103) wr) ∧ (L 4 = true → IS (.bool true) (U 104) wr) ∧ (L 5 = true → IS (.bool false) (U 105) wr) ∧ (L 6 = true → IS (.bool false) (U 106) wr) ∧ (L 7 = true → IS (.agg #[.slice pQ qQ rQ,.bool xQ,.slice aQ nQ cQ]) (U 107) wr) ∧ (L 8 = true → IS (.int .i64 k2) (U 108) wr) ∧ (L 9 = true → IS (.agg #[.slice pZ qZ rZ,.bool xZ,.slice aZ nZ cZ]) (U 109) wr) ∧ (L 10 = true → IS (.int .i64 k2) (U 110) wr) ∧ (L 11 = true → IS (.bool true) (U 111) wr) ∧ (L 12 = true → IS (.bool false) (U 112) wr) ∧ (L 13 = true → IS (.bool false) (U 113) wr) ∧ (L 14 = true → IS (.bool false) (U 114) wr) ∧ (L 15 = true → IS (.agg #[.slice pA qA rA,.bool xA,.slice aA nA cA]) (U 115) wr) ∧ (L 16 = true → TRM (mulP ps2 (-1)) (-r2) (U 116) wr) ∧ (L 17 = true → IS (.string (tT (mulP ps2 (-1)) (-r2))) (U 117) wr) ∧ (L 18 = true → IS (.agg #[.slice pX qX rX,.bool xX,.slice aX nX cX]) (U 118) wr) ∧ (L 19 = true → RTM (mulP ps2 (-1)) (-r2) (U 119) wr) ∧ (L 20 = true → IS (.string (tT (mulP ps2 (-1)) (-r2))) (U 120) wr) ∧ (L 21 = true → IS (.bool false) (U 121) wr) ∧ (L 22 = true → IS (.bool false) (U 122) wr) ∧ (L 23 = true → IS (.bool false) (U 123) wr) ∧ (L 24 = true → IS (.agg #[.slice pA qA rA,.bool xA,.slice aA nA cA]) (U 124) wr) ∧ (L 25 = true → IS (.agg #[.slice pB qB rB,.bool xB,.slice aB nB cB]) (U 125) wr) ∧ (L 26 = true → IS (.bool bb) (U 126) wr) ∧ (L 27 = true → IS (.agg #[.slice pX qX rX,.bool xX,.slice aX nX cX]) (U 127) wr) ∧ (L 28 = true → IS (.string S1) (U 128) wr) ∧ (L 29 = true → IS (.agg #[.slice pY qY rY,.bool xY,.slice aY nY cY]) (U 129) wr) ∧ (L 30 = true → IS (.string S2) (U 130) wr) ∧ (L 31 = true → IS (.bool bb) (U 131) wr) ∧ (L 32 = true → IS (.bool false) (U 132) wr) ∧ (L 33 = true → IS (.bool false) (U 133) wr)) (by kernel_rfl) ?_ ?_ ?_
   · exact fun U => ⟨hbw.drew,KeepB.below (Below.refl _ _).drew,Nat.le_refl _,oK.drew,oA.drew,oB.drew,oX.drew,oY.drew,oP.drew,oQ.drew,oU.drew,oZ.drew,(fun h => by cases h),(fun h => by cases h),(fun h => by cases h),(fun h => by cases h),(fun h => by cases h),(fun h => by cases h),(fun h => by cases h),(fun h => by cases h),(fun h => by cases h),(fun h => by cases h),(fun h => by cases h),(fun h => by cases h),(fun h => by cases h),(fun h => by cases h),(fun h => by cases h),(fun h => by cases h),(fun h => by cases h),(fun h => by cases h),(fun h => by cases h),(fun h => by cases h),(fun h => by cases h),(fun h => by cases h),(fun h => by cases h),(fun h => by cases h),(fun h => by cases h),(fun h => by cases h),(fun h => by cases h),(fun h => by cases h),(fun h => by cases h),(fun h => by cases h),(fun h => by cases h),(fun h => by cases h),(fun h => by cases h),(fun h => by cases h)⟩
   ·
    refine StepsU.run rfl ?_ ?_
    ·
     intro L U wr hF hlk haf A K hA hK;have HA : Hid (A = putAll _ _ U) := hA;clear hA;simp [Aft,Region.binds] at haf;obtain ⟨fb,fk,fs,oK,oA,oB,oX,oY,oP,oQ,oU,oZ,f0,f1,f2,f3,f4,f5,f6,f7,f8,f9,f10,f11,f12,f13,f14,f15,f16,f17,f18,f19,f20,f21,f22,f23,f24,f25,f26,f27,f28,f29,f30,f31,f32,f33⟩ := hF;have e15 : A.tmps[15]? = some (.pointer (some ⟨w8.heap.size,0,none⟩)) := by rw [HA.out];kernel_rfl
     have c0 := Blk.cell oP 0;have c1 := Blk.cell oP 1;have c2 := Blk.cell oP 2;simp at c0;simp at c1;simp at c2;refine ⟨?_⟩;go_simp;refine hK (upd U 100 (.agg #[.slice pP qP rP,.bool xP,.slice aP nP cP])) _ _ ?_ ?_
     · rw [HA.out];kernel_rfl
     · exact ⟨fb,fk,fs,oK,oA,oB,oX,oY,oP,oQ,oU,oZ,(fun _ => rfl),f1,f2,f3,f4,f5,f6,f7,f8,f9,f10,f11,f12,f13,f14,f15,f16,f17,f18,f19,f20,f21,f22,f23,f24,f25,f26,f27,f28,f29,f30,f31,f32,f33⟩
    refine StepsU.run rfl ?_ ?_
    ·
     intro L U wr hF hlk haf A K hA hK;have HA : Hid (A = putAll _ _ U) := hA;clear hA;simp [Aft,Region.binds] at haf;obtain ⟨fb,fk,fs,oK,oA,oB,oX,oY,oP,oQ,oU,oZ,f0,f1,f2,f3,f4,f5,f6,f7,f8,f9,f10,f11,f12,f13,f14,f15,f16,f17,f18,f19,f20,f21,f22,f23,f24,f25,f26,f27,f28,f29,f30,f31,f32,f33⟩ := hF;have e16 : A.tmps[16]? = some (.int .i64 k1) := by rw [HA.out];kernel_rfl
     refine ⟨?_⟩;go_simp;refine hK (upd U 101 (.int .i64 k1)) _ _ ?_ ?_
     · rw [HA.out];kernel_rfl
     · exact ⟨fb,fk,fs,oK,oA,oB,oX,oY,oP,oQ,oU,oZ,f0,(fun _ => rfl),f2,f3,f4,f5,f6,f7,f8,f9,f10,f11,f12,f13,f14,f15,f16,f17,f18,f19,f20,f21,f22,f23,f24,f25,f26,f27,f28,f29,f30,f31,f32,f33⟩
    refine StepsU.run rfl ?_ ?_
    ·
     intro L U wr hF hlk haf A K hA hK;have HA : Hid (A = putAll _ _ U) := hA;clear hA;simp [Aft,Region.binds] at haf;obtain ⟨fb,fk,fs,oK,oA,oB,oX,oY,oP,oQ,oU,oZ,f0,f1,f2,f3,f4,f5,f6,f7,f8,f9,f10,f11,f12,f13,f14,f15,f16,f17,f18,f19,f20,f21,f22,f23,f24,f25,f26,f27,f28,f29,f30,f31,f32,f33⟩ := hF;have e19 : A.tmps[19]? = some (.pointer (some ⟨w10.heap.size,0,none⟩)) := by rw [HA.out];kernel_rfl
     have c0 := Blk.cell oU 0;have c1 := Blk.cell oU 1;have c2 := Blk.cell oU 2;simp at c0;simp at c1;simp at c2;refine ⟨?_⟩;go_simp;refine hK (upd U 102 (.agg #[.slice pU qU rU,.bool xU,.slice aU nU cU])) _ _ ?_ ?_
     · rw [HA.out];kernel_rfl
     · exact ⟨fb,fk,fs,oK,oA,oB,oX,oY,oP,oQ,oU,oZ,f0,f1,(fun _ => rfl),f3,f4,f5,f6,f7,f8,f9,f10,f11,f12,f13,f14,f15,f16,f17,f18,f19,f20,f21,f22,f23,f24,f25,f26,f27,f28,f29,f30,f31,f32,f33⟩
    refine StepsU.run rfl ?_ ?_
    ·
     intro L U wr hF hlk haf A K hA hK;have HA : Hid (A = putAll _ _ U) := hA;clear hA;simp [Aft,Region.binds] at haf;obtain ⟨fb,fk,fs,oK,oA,oB,oX,oY,oP,oQ,oU,oZ,f0,f1,f2,f3,f4,f5,f6,f7,f8,f9,f10,f11,f12,f13,f14,f15,f16,f17,f18,f19,f20,f21,f22,f23,f24,f25,f26,f27,f28,f29,f30,f31,f32,f33⟩ := hF;have e20 : A.tmps[20]? = some (.int .i64 k1) := by rw [HA.out];kernel_rfl
     refine ⟨?_⟩;go_simp;refine hK (upd U 103 (.int .i64 k1)) _ _ ?_ ?_
     · rw [HA.out];kernel_rfl
     · exact ⟨fb,fk,fs,oK,oA,oB,oX,oY,oP,oQ,oU,oZ,f0,f1,f2,(fun _ => rfl),f4,f5,f6,f7,f8,f9,f10,f11,f12,f13,f14,f15,f16,f17,f18,f19,f20,f21,f22,f23,f24,f25,f26,f27,f28,f29,f30,f31,f32,f33⟩
    refine StepsU.run rfl ?_ ?_
    ·
     intro L U wr hF hlk haf A K hA hK;have HA : Hid (A = putAll _ _ U) := hA;clear hA;simp [Aft,Region.binds] at haf;obtain ⟨fb,fk,fs,oK,oA,oB,oX,oY,oP,oQ,oU,oZ,f0,f1,f2,f3,f4,f5,f6,f7,f8,f9,f10,f11,f12,f13,f14,f15,f16,f17,f18,f19,f20,f21,f22,f23,f24,f25,f26,f27,f28,f29,f30,f31,f32,f33⟩ := hF;have g0 := f0 (by simp [haf])
     have e100 := rd HA.out 100 (by kernel_rfl) g0
     have g1 := f1 (by simp [haf])
     have e101 := rd HA.out 101 (by kernel_rfl) g1
     have g2 := f2 (by simp [haf])
     have e102 := rd HA.out 102 (by kernel_rfl) g2
     have g3 := f3 (by simp [haf])
     have e103 := rd HA.out 103 (by kernel_rfl) g3
     refine ⟨?_⟩;go_simp;refine (same_yes3 _ _ u1 j1 k1 _ (hP.below fk.b).val (hU.below fk.b).val (HTB.out.below fb)).mono ?_;rintro e w1 ⟨rfl,hb⟩;go_simp;refine hK (upd U 104 (.bool true)) _ _ ?_ ?_
     · rw [HA.out];kernel_rfl
     · exact ⟨(fb.step hb (Nat.le_refl _)),(fk.trans (KeepB.below hb)),(Nat.le_trans fs hb.size),(oK.stay hb),(oA.stay hb),(oB.stay hb),(oX.stay hb),(oY.stay hb),(oP.stay hb),(oQ.stay hb),(oU.stay hb),(oZ.stay hb),f0,f1,f2,f3,(fun _ => rfl),f5,f6,f7,f8,f9,f10,f11,f12,f13,f14,f15,(mvB mb_trm (KeepB.below hb) f16),f17,f18,(mvB mb_rtm (KeepB.below hb) f19),f20,f21,f22,f23,f24,f25,f26,f27,f28,f29,f30,f31,f32,f33⟩
    refine StepsU.run rfl ?_ ?_
    ·
     intro L U wr hF hlk haf A K hA hK;have HA : Hid (A = putAll _ _ U) := hA;clear hA;simp [Aft,Region.binds] at haf;obtain ⟨fb,fk,fs,oK,oA,oB,oX,oY,oP,oQ,oU,oZ,f0,f1,f2,f3,f4,f5,f6,f7,f8,f9,f10,f11,f12,f13,f14,f15,f16,f17,f18,f19,f20,f21,f22,f23,f24,f25,f26,f27,f28,f29,f30,f31,f32,f33⟩ := hF;have g4 := f4 (by simp [haf])
     have e104 := rd HA.out 104 (by kernel_rfl) g4
     refine ⟨?_⟩;go_simp;refine hK (upd U 105 (.bool false)) _ _ ?_ ?_
     · rw [HA.out];kernel_rfl
     · exact ⟨fb,fk,fs,oK,oA,oB,oX,oY,oP,oQ,oU,oZ,f0,f1,f2,f3,f4,(fun _ => rfl),f6,f7,f8,f9,f10,f11,f12,f13,f14,f15,f16,f17,f18,f19,f20,f21,f22,f23,f24,f25,f26,f27,f28,f29,f30,f31,f32,f33⟩
    refine StepsU.run rfl ?_ ?_
    ·
     intro L U wr hF hlk haf A K hA hK;have HA : Hid (A = putAll _ _ U) := hA;clear hA;simp [Aft,Region.binds] at haf;obtain ⟨fb,fk,fs,oK,oA,oB,oX,oY,oP,oQ,oU,oZ,f0,f1,f2,f3,f4,f5,f6,f7,f8,f9,f10,f11,f12,f13,f14,f15,f16,f17,f18,f19,f20,f21,f22,f23,f24,f25,f26,f27,f28,f29,f30,f31,f32,f33⟩ := hF;have g5 := f5 (by simp [haf])
     have e105 := rd HA.out 105 (by kernel_rfl) rfl
     refine ⟨?_⟩;go_simp;refine hK (upd U 106 (U 105)) _ _ ?_ ?_
     · rw [HA.out];kernel_rfl
     · exact ⟨fb,fk,fs,oK,oA,oB,oX,oY,oP,oQ,oU,oZ,f0,f1,f2,f3,f4,f5,(fun _ => g5),f7,f8,f9,f10,f11,f12,f13,f14,f15,f16,f17,f18,f19,f20,f21,f22,f23,f24,f25,f26,f27,f28,f29,f30,f31,f32,f33⟩
    refine StepsU.cond ?_ ?_
    ·
     intro L U wr hF hlk haf A K hA hK;have HA : Hid (A = putAll _ _ U) := hA;clear hA;simp [Aft,Region.binds] at haf;obtain ⟨fb,fk,fs,oK,oA,oB,oX,oY,oP,oQ,oU,oZ,f0,f1,f2,f3,f4,f5,f6,f7,f8,f9,f10,f11,f12,f13,f14,f15,f16,f17,f18,f19,f20,f21,f22,f23,f24,f25,f26,f27,f28,f29,f30,f31,f32,f33⟩ := hF;have gg := f6 (by simp [haf])
     have ee := rd HA.out 106 (by kernel_rfl) gg
     refine ⟨?_⟩;rw [if_pos (by simp [Region.wanted,yielded,ee])]
     refine Gate.out ?_;clear gg ee;have e17 : A.tmps[17]? = some (.pointer (some ⟨w9.heap.size,0,none⟩)) := by rw [HA.out];kernel_rfl
     have c0 := Blk.cell oQ 0;have c1 := Blk.cell oQ 1;have c2 := Blk.cell oQ 2;simp at c0;simp at c1;simp at c2;refine ⟨?_⟩;go_simp;refine hK (upd U 107 (.agg #[.slice pQ qQ rQ,.bool xQ,.slice aQ nQ cQ])) _ _ ?_ ?_
     · rw [HA.out];kernel_rfl
     · exact ⟨fb,fk,fs,oK,oA,oB,oX,oY,oP,oQ,oU,oZ,f0,f1,f2,f3,f4,f5,f6,(fun _ => rfl),f8,f9,f10,f11,f12,f13,f14,f15,f16,f17,f18,f19,f20,f21,f22,f23,f24,f25,f26,f27,f28,f29,f30,f31,f32,f33⟩
    refine StepsU.cond ?_ ?_
    ·
     intro L U wr hF hlk haf A K hA hK;have HA : Hid (A = putAll _ _ U) := hA;clear hA;simp [Aft,Region.binds] at haf;obtain ⟨fb,fk,fs,oK,oA,oB,oX,oY,oP,oQ,oU,oZ,f0,f1,f2,f3,f4,f5,f6,f7,f8,f9,f10,f11,f12,f13,f14,f15,f16,f17,f18,f19,f20,f21,f22,f23,f24,f25,f26,f27,f28,f29,f30,f31,f32,f33⟩ := hF;have gg := f6 (by simp [haf])
     have ee := rd HA.out 106 (by kernel_rfl) gg
     refine ⟨?_⟩;rw [if_pos (by simp [Region.wanted,yielded,ee])]
     refine Gate.out ?_;clear gg ee;have e18 : A.tmps[18]? = some (.int .i64 k2) := by rw [HA.out];kernel_rfl
     refine ⟨?_⟩;go_simp;refine hK (upd U 108 (.int .i64 k2)) _ _ ?_ ?_
     · rw [HA.out];kernel_rfl
     · exact ⟨fb,fk,fs,oK,oA,oB,oX,oY,oP,oQ,oU,oZ,f0,f1,f2,f3,f4,f5,f6,f7,(fun _ => rfl),f9,f10,f11,f12,f13,f14,f15,f16,f17,f18,f19,f20,f21,f22,f23,f24,f25,f26,f27,f28,f29,f30,f31,f32,f33⟩
    refine StepsU.cond ?_ ?_
    ·
     intro L U wr hF hlk haf A K hA hK;have HA : Hid (A = putAll _ _ U) := hA;clear hA;simp [Aft,Region.binds] at haf;obtain ⟨fb,fk,fs,oK,oA,oB,oX,oY,oP,oQ,oU,oZ,f0,f1,f2,f3,f4,f5,f6,f7,f8,f9,f10,f11,f12,f13,f14,f15,f16,f17,f18,f19,f20,f21,f22,f23,f24,f25,f26,f27,f28,f29,f30,f31,f32,f33⟩ := hF;have gg := f6 (by simp [haf])
     have ee := rd HA.out 106 (by kernel_rfl) gg
     refine ⟨?_⟩;rw [if_pos (by simp [Region.wanted,yielded,ee])]
     refine Gate.out ?_;clear gg ee;have e21 : A.tmps[21]? = some (.pointer (some ⟨bZ,0,none⟩)) := by rw [HA.out];kernel_rfl
     have c0 := Blk.cell oZ 0;have c1 := Blk.cell oZ 1;have c2 := Blk.cell oZ 2;simp at c0;simp at c1;simp at c2;refine ⟨?_⟩;go_simp;refine hK (upd U 109 (.agg #[.slice pZ qZ rZ,.bool xZ,.slice aZ nZ cZ])) _ _ ?_ ?_
     · rw [HA.out];kernel_rfl
     · exact ⟨fb,fk,fs,oK,oA,oB,oX,oY,oP,oQ,oU,oZ,f0,f1,f2,f3,f4,f5,f6,f7,f8,(fun _ => rfl),f10,f11,f12,f13,f14,f15,f16,f17,f18,f19,f20,f21,f22,f23,f24,f25,f26,f27,f28,f29,f30,f31,f32,f33⟩
    refine StepsU.cond ?_ ?_
    ·
     intro L U wr hF hlk haf A K hA hK;have HA : Hid (A = putAll _ _ U) := hA;clear hA;simp [Aft,Region.binds] at haf;obtain ⟨fb,fk,fs,oK,oA,oB,oX,oY,oP,oQ,oU,oZ,f0,f1,f2,f3,f4,f5,f6,f7,f8,f9,f10,f11,f12,f13,f14,f15,f16,f17,f18,f19,f20,f21,f22,f23,f24,f25,f26,f27,f28,f29,f30,f31,f32,f33⟩ := hF;have gg := f6 (by simp [haf])
     have ee := rd HA.out 106 (by kernel_rfl) gg
     refine ⟨?_⟩;rw [if_pos (by simp [Region.wanted,yielded,ee])]
     refine Gate.out ?_;clear gg ee;have e22 : A.tmps[22]? = some (.int .i64 k2) := by rw [HA.out];kernel_rfl
     refine ⟨?_⟩;go_simp;refine hK (upd U 110 (.int .i64 k2)) _ _ ?_ ?_
     · rw [HA.out];kernel_rfl
     · exact ⟨fb,fk,fs,oK,oA,oB,oX,oY,oP,oQ,oU,oZ,f0,f1,f2,f3,f4,f5,f6,f7,f8,f9,(fun _ => rfl),f11,f12,f13,f14,f15,f16,f17,f18,f19,f20,f21,f22,f23,f24,f25,f26,f27,f28,f29,f30,f31,f32,f33⟩
    refine StepsU.cond ?_ ?_
    ·
     intro L U wr hF hlk haf A K hA hK;have HA : Hid (A = putAll _ _ U) := hA;clear hA;simp [Aft,Region.binds] at haf;obtain ⟨fb,fk,fs,oK,oA,oB,oX,oY,oP,oQ,oU,oZ,f0,f1,f2,f3,f4,f5,f6,f7,f8,f9,f10,f11,f12,f13,f14,f15,f16,f17,f18,f19,f20,f21,f22,f23,f24,f25,f26,f27,f28,f29,f30,f31,f32,f33⟩ := hF;have gg := f6 (by simp [haf])
     have ee := rd HA.out 106 (by kernel_rfl) gg
     refine ⟨?_⟩;rw [if_pos (by simp [Region.wanted,yielded,ee])]
     refine Gate.out ?_;clear gg ee;have g7 := f7 (by simp [haf])
     have e107 := rd HA.out 107 (by kernel_rfl) g7
     have g8 := f8 (by simp [haf])
     have e108 := rd HA.out 108 (by kernel_rfl) g8
     have g9 := f9 (by simp [haf])
     have e109 := rd HA.out 109 (by kernel_rfl) g9
     have g10 := f10 (by simp [haf])
     have e110 := rd HA.out 110 (by kernel_rfl) g10
     refine ⟨?_⟩;go_simp;refine (same_yes3 _ _ u2 j2 k2 _ (hQ.below fk.b).val (hZ2.below fk.b).val (HTB.out.below fb)).mono ?_;rintro e w1 ⟨rfl,hb⟩;go_simp;refine hK (upd U 111 (.bool true)) _ _ ?_ ?_
     · rw [HA.out];kernel_rfl
     · exact ⟨(fb.step hb (Nat.le_refl _)),(fk.trans (KeepB.below hb)),(Nat.le_trans fs hb.size),(oK.stay hb),(oA.stay hb),(oB.stay hb),(oX.stay hb),(oY.stay hb),(oP.stay hb),(oQ.stay hb),(oU.stay hb),(oZ.stay hb),f0,f1,f2,f3,f4,f5,f6,f7,f8,f9,f10,(fun _ => rfl),f12,f13,f14,f15,(mvB mb_trm (KeepB.below hb) f16),f17,f18,(mvB mb_rtm (KeepB.below hb) f19),f20,f21,f22,f23,f24,f25,f26,f27,f28,f29,f30,f31,f32,f33⟩
    refine StepsU.cond ?_ ?_
    ·
     intro L U wr hF hlk haf A K hA hK;have HA : Hid (A = putAll _ _ U) := hA;clear hA;simp [Aft,Region.binds] at haf;obtain ⟨fb,fk,fs,oK,oA,oB,oX,oY,oP,oQ,oU,oZ,f0,f1,f2,f3,f4,f5,f6,f7,f8,f9,f10,f11,f12,f13,f14,f15,f16,f17,f18,f19,f20,f21,f22,f23,f24,f25,f26,f27,f28,f29,f30,f31,f32,f33⟩ := hF;have gg := f6 (by simp [haf])
     have ee := rd HA.out 106 (by kernel_rfl) gg
     refine ⟨?_⟩;rw [if_pos (by simp [Region.wanted,yielded,ee])]
     refine Gate.out ?_;clear gg ee;have g11 := f11 (by simp [haf])
     have e111 := rd HA.out 111 (by kernel_rfl) g11
     refine ⟨?_⟩;go_simp;refine hK (upd U 112 (.bool false)) _ _ ?_ ?_
     · rw [HA.out];kernel_rfl
     · exact ⟨fb,fk,fs,oK,oA,oB,oX,oY,oP,oQ,oU,oZ,f0,f1,f2,f3,f4,f5,f6,f7,f8,f9,f10,f11,(fun _ => rfl),f13,f14,f15,f16,f17,f18,f19,f20,f21,f22,f23,f24,f25,f26,f27,f28,f29,f30,f31,f32,f33⟩
    refine StepsU.run rfl ?_ ?_
    ·
     intro L U wr hF hlk haf A K hA hK;have HA : Hid (A = putAll _ _ U) := hA;clear hA;simp [Aft,Region.binds] at haf;obtain ⟨fb,fk,fs,oK,oA,oB,oX,oY,oP,oQ,oU,oZ,f0,f1,f2,f3,f4,f5,f6,f7,f8,f9,f10,f11,f12,f13,f14,f15,f16,f17,f18,f19,f20,f21,f22,f23,f24,f25,f26,f27,f28,f29,f30,f31,f32,f33⟩ := hF;have g6 := f6 (by simp [haf])
     have g12 := f12 (by simp [haf])
     have e106 := rd HA.out 106 (by kernel_rfl) g6
     have e112 := rd HA.out 112 (by kernel_rfl) g12
     refine ⟨?_⟩;go_simp;refine hK (upd U 113 (.bool false)) _ _ ?_ ?_
     · rw [HA.out];kernel_rfl
     · exact ⟨fb,fk,fs,oK,oA,oB,oX,oY,oP,oQ,oU,oZ,f0,f1,f2,f3,f4,f5,f6,f7,f8,f9,f10,f11,f12,(fun _ => rfl),f14,f15,f16,f17,f18,f19,f20,f21,f22,f23,f24,f25,f26,f27,f28,f29,f30,f31,f32,f33⟩
    refine StepsU.run rfl ?_ ?_
    ·
     intro L U wr hF hlk haf A K hA hK;have HA : Hid (A = putAll _ _ U) := hA;clear hA;simp [Aft,Region.binds] at haf;obtain ⟨fb,fk,fs,oK,oA,oB,oX,oY,oP,oQ,oU,oZ,f0,f1,f2,f3,f4,f5,f6,f7,f8,f9,f10,f11,f12,f13,f14,f15,f16,f17,f18,f19,f20,f21,f22,f23,f24,f25,f26,f27,f28,f29,f30,f31,f32,f33⟩ := hF;have g13 := f13 (by simp [haf])
     have e113 := rd HA.out 113 (by kernel_rfl) rfl
     refine ⟨?_⟩;go_simp;refine hK (upd U 114 (U 113)) _ _ ?_ ?_
     · rw [HA.out];kernel_rfl
     · exact ⟨fb,fk,fs,oK,oA,oB,oX,oY,oP,oQ,oU,oZ,f0,f1,f2,f3,f4,f5,f6,f7,f8,f9,f10,f11,f12,f13,(fun _ => g13),f15,f16,f17,f18,f19,f20,f21,f22,f23,f24,f25,f26,f27,f28,f29,f30,f31,f32,f33⟩
    refine StepsU.cond ?_ ?_
    ·
     intro L U wr hF hlk haf A K hA hK;have HA : Hid (A = putAll _ _ U) := hA;clear hA;simp [Aft,Region.binds] at haf;obtain ⟨fb,fk,fs,oK,oA,oB,oX,oY,oP,oQ,oU,oZ,f0,f1,f2,f3,f4,f5,f6,f7,f8,f9,f10,f11,f12,f13,f14,f15,f16,f17,f18,f19,f20,f21,f22,f23,f24,f25,f26,f27,f28,f29,f30,f31,f32,f33⟩ := hF;have gg := f14 (by simp [haf])
     have ee := rd HA.out 114 (by kernel_rfl) gg
     refine ⟨?_⟩;rw [if_pos (by simp [Region.wanted,yielded,ee])]
     refine Gate.out ?_;clear gg ee;have e7 : A.tmps[7]? = some (.pointer (some ⟨w4.heap.size,0,none⟩)) := by rw [HA.out];kernel_rfl
     have c0 := Blk.cell oA 0;have c1 := Blk.cell oA 1;have c2 := Blk.cell oA 2;simp at c0;simp at c1;simp at c2;refine ⟨?_⟩;go_simp;refine hK (upd U 115 (.agg #[.slice pA qA rA,.bool xA,.slice aA nA cA])) _ _ ?_ ?_
     · rw [HA.out];kernel_rfl
     · exact ⟨fb,fk,fs,oK,oA,oB,oX,oY,oP,oQ,oU,oZ,f0,f1,f2,f3,f4,f5,f6,f7,f8,f9,f10,f11,f12,f13,f14,(fun _ => rfl),f16,f17,f18,f19,f20,f21,f22,f23,f24,f25,f26,f27,f28,f29,f30,f31,f32,f33⟩
    refine StepsU.cond ?_ ?_
    ·
     intro L U wr hF hlk haf A K hA hK;have HA : Hid (A = putAll _ _ U) := hA;clear hA;simp [Aft,Region.binds] at haf;obtain ⟨fb,fk,fs,oK,oA,oB,oX,oY,oP,oQ,oU,oZ,f0,f1,f2,f3,f4,f5,f6,f7,f8,f9,f10,f11,f12,f13,f14,f15,f16,f17,f18,f19,f20,f21,f22,f23,f24,f25,f26,f27,f28,f29,f30,f31,f32,f33⟩ := hF;have gg := f14 (by simp [haf])
     have ee := rd HA.out 114 (by kernel_rfl) gg
     refine ⟨?_⟩;rw [if_pos (by simp [Region.wanted,yielded,ee])]
     refine Gate.out ?_;clear gg ee;have g15 := f15 (by simp [haf])
     have e115 := rd HA.out 115 (by kernel_rfl) g15
     refine ⟨?_⟩;go_simp;refine (lneg_any _ ps2 r2 _ (hA.below fk.b).val).mono ?_;rintro e w1 ⟨v9,rfl,hr,hb⟩;go_simp;refine hK (upd U 116 v9) _ _ ?_ ?_
     · rw [HA.out];kernel_rfl
     · exact ⟨(fb.step hb (Nat.le_refl _)),(fk.trans (KeepB.below hb)),(Nat.le_trans fs hb.size),(oK.stay hb),(oA.stay hb),(oB.stay hb),(oX.stay hb),(oY.stay hb),(oP.stay hb),(oQ.stay hb),(oU.stay hb),(oZ.stay hb),f0,f1,f2,f3,f4,f5,f6,f7,f8,f9,f10,f11,f12,f13,f14,f15,(fun _ => hr),f17,f18,(mvB mb_rtm (KeepB.below hb) f19),f20,f21,f22,f23,f24,f25,f26,f27,f28,f29,f30,f31,f32,f33⟩
    refine StepsU.cond ?_ ?_
    ·
     intro L U wr hF hlk haf A K hA hK;have HA : Hid (A = putAll _ _ U) := hA;clear hA;simp [Aft,Region.binds] at haf;obtain ⟨fb,fk,fs,oK,oA,oB,oX,oY,oP,oQ,oU,oZ,f0,f1,f2,f3,f4,f5,f6,f7,f8,f9,f10,f11,f12,f13,f14,f15,f16,f17,f18,f19,f20,f21,f22,f23,f24,f25,f26,f27,f28,f29,f30,f31,f32,f33⟩ := hF;have gg := f14 (by simp [haf])
     have ee := rd HA.out 114 (by kernel_rfl) gg
     refine ⟨?_⟩;rw [if_pos (by simp [Region.wanted,yielded,ee])]
     refine Gate.out ?_;clear gg ee;have g16 := f16 (by simp [haf])
     have e116 := rd HA.out 116 (by kernel_rfl) rfl
     refine ⟨?_⟩;go_simp;refine (ltext_any _ (mulP ps2 (-1)) (-r2) _ g16 (HTB.out.below fb)).mono ?_;rintro e w1 ⟨rfl,hb⟩;go_simp;refine hK (upd U 117 (.string (tT (mulP ps2 (-1)) (-r2)))) _ _ ?_ ?_
     · rw [HA.out];kernel_rfl
     · exact ⟨(fb.step hb (Nat.le_refl _)),(fk.trans (KeepB.below hb)),(Nat.le_trans fs hb.size),(oK.stay hb),(oA.stay hb),(oB.stay hb),(oX.stay hb),(oY.stay hb),(oP.stay hb),(oQ.stay hb),(oU.stay hb),(oZ.stay hb),f0,f1,f2,f3,f4,f5,f6,f7,f8,f9,f10,f11,f12,f13,f14,f15,(mvB mb_trm (KeepB.below hb) f16),(fun _ => rfl),f18,(mvB mb_rtm (KeepB.below hb) f19),f20,f21,f22,f23,f24,f25,f26,f27,f28,f29,f30,f31,f32,f33⟩
    refine StepsU.cond ?_ ?_
    ·
     intro L U wr hF hlk haf A K hA hK;have HA : Hid (A = putAll _ _ U) := hA;clear hA;simp [Aft,Region.binds] at haf;obtain ⟨fb,fk,fs,oK,oA,oB,oX,oY,oP,oQ,oU,oZ,f0,f1,f2,f3,f4,f5,f6,f7,f8,f9,f10,f11,f12,f13,f14,f15,f16,f17,f18,f19,f20,f21,f22,f23,f24,f25,f26,f27,f28,f29,f30,f31,f32,f33⟩ := hF;have gg := f14 (by simp [haf])
     have ee := rd HA.out 114 (by kernel_rfl) gg
     refine ⟨?_⟩;rw [if_pos (by simp [Region.wanted,yielded,ee])]
     refine Gate.out ?_;clear gg ee;have e11 : A.tmps[11]? = some (.pointer (some ⟨w6.heap.size,0,none⟩)) := by rw [HA.out];kernel_rfl
     have c0 := Blk.cell oX 0;have c1 := Blk.cell oX 1;have c2 := Blk.cell oX 2;simp at c0;simp at c1;simp at c2;refine ⟨?_⟩;go_simp;refine hK (upd U 118 (.agg #[.slice pX qX rX,.bool xX,.slice aX nX cX])) _ _ ?_ ?_
     · rw [HA.out];kernel_rfl
     · exact ⟨fb,fk,fs,oK,oA,oB,oX,oY,oP,oQ,oU,oZ,f0,f1,f2,f3,f4,f5,f6,f7,f8,f9,f10,f11,f12,f13,f14,f15,f16,f17,(fun _ => rfl),f19,f20,f21,f22,f23,f24,f25,f26,f27,f28,f29,f30,f31,f32,f33⟩
    refine StepsU.cond ?_ ?_
    ·
     intro L U wr hF hlk haf A K hA hK;have HA : Hid (A = putAll _ _ U) := hA;clear hA;simp [Aft,Region.binds] at haf;obtain ⟨fb,fk,fs,oK,oA,oB,oX,oY,oP,oQ,oU,oZ,f0,f1,f2,f3,f4,f5,f6,f7,f8,f9,f10,f11,f12,f13,f14,f15,f16,f17,f18,f19,f20,f21,f22,f23,f24,f25,f26,f27,f28,f29,f30,f31,f32,f33⟩ := hF;have gg := f14 (by simp [haf])
     have ee := rd HA.out 114 (by kernel_rfl) gg
     refine ⟨?_⟩;rw [if_pos (by simp [Region.wanted,yielded,ee])]
     refine Gate.out ?_;clear gg ee;have g18 := f18 (by simp [haf])
     have e118 := rd HA.out 118 (by kernel_rfl) g18
     refine ⟨?_⟩;go_simp;refine (rneg3_any _ ps2 r2 _ (hX.below fk.b).val).mono ?_;rintro e w1 ⟨v9,rfl,hr,hb⟩;go_simp;refine hK (upd U 119 v9) _ _ ?_ ?_
     · rw [HA.out];kernel_rfl
     · exact ⟨(fb.step hb (Nat.le_refl _)),(fk.trans (KeepB.below hb)),(Nat.le_trans fs hb.size),(oK.stay hb),(oA.stay hb),(oB.stay hb),(oX.stay hb),(oY.stay hb),(oP.stay hb),(oQ.stay hb),(oU.stay hb),(oZ.stay hb),f0,f1,f2,f3,f4,f5,f6,f7,f8,f9,f10,f11,f12,f13,f14,f15,(mvB mb_trm (KeepB.below hb) f16),f17,f18,(fun _ => hr),f20,f21,f22,f23,f24,f25,f26,f27,f28,f29,f30,f31,f32,f33⟩
    refine StepsU.cond ?_ ?_
    ·
     intro L U wr hF hlk haf A K hA hK;have HA : Hid (A = putAll _ _ U) := hA;clear hA;simp [Aft,Region.binds] at haf;obtain ⟨fb,fk,fs,oK,oA,oB,oX,oY,oP,oQ,oU,oZ,f0,f1,f2,f3,f4,f5,f6,f7,f8,f9,f10,f11,f12,f13,f14,f15,f16,f17,f18,f19,f20,f21,f22,f23,f24,f25,f26,f27,f28,f29,f30,f31,f32,f33⟩ := hF;have gg := f14 (by simp [haf])
     have ee := rd HA.out 114 (by kernel_rfl) gg
     refine ⟨?_⟩;rw [if_pos (by simp [Region.wanted,yielded,ee])]
     refine Gate.out ?_;clear gg ee;have g19 := f19 (by simp [haf])
     have e119 := rd HA.out 119 (by kernel_rfl) rfl
     refine ⟨?_⟩;go_simp;refine (rtext_any _ (mulP ps2 (-1)) (-r2) _ g19).mono ?_;rintro e w1 ⟨rfl,hb⟩;go_simp;refine hK (upd U 120 (.string (tT (mulP ps2 (-1)) (-r2)))) _ _ ?_ ?_
     · rw [HA.out];kernel_rfl
     · exact ⟨(fb.step hb (Nat.le_refl _)),(fk.trans (KeepB.below hb)),(Nat.le_trans fs hb.size),(oK.stay hb),(oA.stay hb),(oB.stay hb),(oX.stay hb),(oY.stay hb),(oP.stay hb),(oQ.stay hb),(oU.stay hb),(oZ.stay hb),f0,f1,f2,f3,f4,f5,f6,f7,f8,f9,f10,f11,f12,f13,f14,f15,(mvB mb_trm (KeepB.below hb) f16),f17,f18,(mvB mb_rtm (KeepB.below hb) f19),(fun _ => rfl),f21,f22,f23,f24,f25,f26,f27,f28,f29,f30,f31,f32,f33⟩
    refine StepsU.cond ?_ ?_
    ·
     intro L U wr hF hlk haf A K hA hK;have HA : Hid (A = putAll _ _ U) := hA;clear hA;simp [Aft,Region.binds] at haf;obtain ⟨fb,fk,fs,oK,oA,oB,oX,oY,oP,oQ,oU,oZ,f0,f1,f2,f3,f4,f5,f6,f7,f8,f9,f10,f11,f12,f13,f14,f15,f16,f17,f18,f19,f20,f21,f22,f23,f24,f25,f26,f27,f28,f29,f30,f31,f32,f33⟩ := hF;have gg := f14 (by simp [haf])
     have ee := rd HA.out 114 (by kernel_rfl) gg
     refine ⟨?_⟩;rw [if_pos (by simp [Region.wanted,yielded,ee])]
     refine Gate.out ?_;clear gg ee;have g17 := f17 (by simp [haf])
     have g20 := f20 (by simp [haf])
     have e117 := rd HA.out 117 (by kernel_rfl) g17
     have e120 := rd HA.out 120 (by kernel_rfl) g20
     refine ⟨?_⟩;go_simp;refine hK (upd U 121 (.bool false)) _ _ ?_ ?_
     · rw [HA.out];kernel_rfl
     · exact ⟨fb,fk,fs,oK,oA,oB,oX,oY,oP,oQ,oU,oZ,f0,f1,f2,f3,f4,f5,f6,f7,f8,f9,f10,f11,f12,f13,f14,f15,f16,f17,f18,f19,f20,(fun _ => rfl),f22,f23,f24,f25,f26,f27,f28,f29,f30,f31,f32,f33⟩
    refine StepsU.run rfl ?_ ?_
    ·
     intro L U wr hF hlk haf A K hA hK;have HA : Hid (A = putAll _ _ U) := hA;clear hA;simp [Aft,Region.binds] at haf;obtain ⟨fb,fk,fs,oK,oA,oB,oX,oY,oP,oQ,oU,oZ,f0,f1,f2,f3,f4,f5,f6,f7,f8,f9,f10,f11,f12,f13,f14,f15,f16,f17,f18,f19,f20,f21,f22,f23,f24,f25,f26,f27,f28,f29,f30,f31,f32,f33⟩ := hF;have g14 := f14 (by simp [haf])
     have g21 := f21 (by simp [haf])
     have e114 := rd HA.out 114 (by kernel_rfl) g14
     have e121 := rd HA.out 121 (by kernel_rfl) g21
     refine ⟨?_⟩;go_simp;refine hK (upd U 122 (.bool false)) _ _ ?_ ?_
     · rw [HA.out];kernel_rfl
     · exact ⟨fb,fk,fs,oK,oA,oB,oX,oY,oP,oQ,oU,oZ,f0,f1,f2,f3,f4,f5,f6,f7,f8,f9,f10,f11,f12,f13,f14,f15,f16,f17,f18,f19,f20,f21,(fun _ => rfl),f23,f24,f25,f26,f27,f28,f29,f30,f31,f32,f33⟩
    refine StepsU.run rfl ?_ ?_
    ·
     intro L U wr hF hlk haf A K hA hK;have HA : Hid (A = putAll _ _ U) := hA;clear hA;simp [Aft,Region.binds] at haf;obtain ⟨fb,fk,fs,oK,oA,oB,oX,oY,oP,oQ,oU,oZ,f0,f1,f2,f3,f4,f5,f6,f7,f8,f9,f10,f11,f12,f13,f14,f15,f16,f17,f18,f19,f20,f21,f22,f23,f24,f25,f26,f27,f28,f29,f30,f31,f32,f33⟩ := hF;have g22 := f22 (by simp [haf])
     have e122 := rd HA.out 122 (by kernel_rfl) rfl
     refine ⟨?_⟩;go_simp;refine hK (upd U 123 (U 122)) _ _ ?_ ?_
     · rw [HA.out];kernel_rfl
     · exact ⟨fb,fk,fs,oK,oA,oB,oX,oY,oP,oQ,oU,oZ,f0,f1,f2,f3,f4,f5,f6,f7,f8,f9,f10,f11,f12,f13,f14,f15,f16,f17,f18,f19,f20,f21,f22,(fun _ => g22),f24,f25,f26,f27,f28,f29,f30,f31,f32,f33⟩
    refine StepsU.cond ?_ ?_
    ·
     intro L U wr hF hlk haf A K hA hK;have HA : Hid (A = putAll _ _ U) := hA;clear hA;simp [Aft,Region.binds] at haf;obtain ⟨fb,fk,fs,oK,oA,oB,oX,oY,oP,oQ,oU,oZ,f0,f1,f2,f3,f4,f5,f6,f7,f8,f9,f10,f11,f12,f13,f14,f15,f16,f17,f18,f19,f20,f21,f22,f23,f24,f25,f26,f27,f28,f29,f30,f31,f32,f33⟩ := hF;have gg := f23 (by simp [haf])
     have ee := rd HA.out 123 (by kernel_rfl) gg
     refine ⟨?_⟩;rw [if_pos (by simp [Region.wanted,yielded,ee])]
     refine Gate.out ?_;clear gg ee;have e7 : A.tmps[7]? = some (.pointer (some ⟨w4.heap.size,0,none⟩)) := by rw [HA.out];kernel_rfl
     have c0 := Blk.cell oA 0;have c1 := Blk.cell oA 1;have c2 := Blk.cell oA 2;simp at c0;simp at c1;simp at c2;refine ⟨?_⟩;go_simp;refine hK (upd U 124 (.agg #[.slice pA qA rA,.bool xA,.slice aA nA cA])) _ _ ?_ ?_
     · rw [HA.out];kernel_rfl
     · exact ⟨fb,fk,fs,oK,oA,oB,oX,oY,oP,oQ,oU,oZ,f0,f1,f2,f3,f4,f5,f6,f7,f8,f9,f10,f11,f12,f13,f14,f15,f16,f17,f18,f19,f20,f21,f22,f23,(fun _ => rfl),f25,f26,f27,f28,f29,f30,f31,f32,f33⟩
    refine StepsU.cond ?_ ?_
    ·
     intro L U wr hF hlk haf A K hA hK;have HA : Hid (A = putAll _ _ U) := hA;clear hA;simp [Aft,Region.binds] at haf;obtain ⟨fb,fk,fs,oK,oA,oB,oX,oY,oP,oQ,oU,oZ,f0,f1,f2,f3,f4,f5,f6,f7,f8,f9,f10,f11,f12,f13,f14,f15,f16,f17,f18,f19,f20,f21,f22,f23,f24,f25,f26,f27,f28,f29,f30,f31,f32,f33⟩ := hF;have gg := f23 (by simp [haf])
     have ee := rd HA.out 123 (by kernel_rfl) gg
     refine ⟨?_⟩;rw [if_pos (by simp [Region.wanted,yielded,ee])]
     refine Gate.out ?_;clear gg ee;have e9 : A.tmps[9]? = some (.pointer (some ⟨w5.heap.size,0,none⟩)) := by rw [HA.out];kernel_rfl
     have c0 := Blk.cell oB 0;have c1 := Blk.cell oB 1;have c2 := Blk.cell oB 2;simp at c0;simp at c1;simp at c2;refine ⟨?_⟩;go_simp;refine hK (upd U 125 (.agg #[.slice pB qB rB,.bool xB,.slice aB nB cB])) _ _ ?_ ?_
     · rw [HA.out];kernel_rfl
     · exact ⟨fb,fk,fs,oK,oA,oB,oX,oY,oP,oQ,oU,oZ,f0,f1,f2,f3,f4,f5,f6,f7,f8,f9,f10,f11,f12,f13,f14,f15,f16,f17,f18,f19,f20,f21,f22,f23,f24,(fun _ => rfl),f26,f27,f28,f29,f30,f31,f32,f33⟩
    refine StepsU.cond ?_ ?_
    ·
     intro L U wr hF hlk haf A K hA hK;have HA : Hid (A = putAll _ _ U) := hA;clear hA;simp [Aft,Region.binds] at haf;obtain ⟨fb,fk,fs,oK,oA,oB,oX,oY,oP,oQ,oU,oZ,f0,f1,f2,f3,f4,f5,f6,f7,f8,f9,f10,f11,f12,f13,f14,f15,f16,f17,f18,f19,f20,f21,f22,f23,f24,f25,f26,f27,f28,f29,f30,f31,f32,f33⟩ := hF;have gg := f23 (by simp [haf])
     have ee := rd HA.out 123 (by kernel_rfl) gg
     refine ⟨?_⟩;rw [if_pos (by simp [Region.wanted,yielded,ee])]
     refine Gate.out ?_;clear gg ee;have g24 := f24 (by simp [haf])
     have e124 := rd HA.out 124 (by kernel_rfl) g24
     have g25 := f25 (by simp [haf])
     have e125 := rd HA.out 125 (by kernel_rfl) g25
     refine ⟨?_⟩;go_simp;refine (lsame_2 _ _ ps2 qs2 r2 t2 bb HBB.out _ (hA.below fk.b).val (hB.below fk.b).val).mono ?_;rintro e w1 ⟨rfl,hb⟩;go_simp;refine hK (upd U 126 (.bool bb)) _ _ ?_ ?_
     · rw [HA.out];kernel_rfl
     · exact ⟨(fb.step hb (Nat.le_refl _)),(fk.trans (KeepB.below hb)),(Nat.le_trans fs hb.size),(oK.stay hb),(oA.stay hb),(oB.stay hb),(oX.stay hb),(oY.stay hb),(oP.stay hb),(oQ.stay hb),(oU.stay hb),(oZ.stay hb),f0,f1,f2,f3,f4,f5,f6,f7,f8,f9,f10,f11,f12,f13,f14,f15,(mvB mb_trm (KeepB.below hb) f16),f17,f18,(mvB mb_rtm (KeepB.below hb) f19),f20,f21,f22,f23,f24,f25,(fun _ => rfl),f27,f28,f29,f30,f31,f32,f33⟩
    refine StepsU.cond ?_ ?_
    ·
     intro L U wr hF hlk haf A K hA hK;have HA : Hid (A = putAll _ _ U) := hA;clear hA;simp [Aft,Region.binds] at haf;obtain ⟨fb,fk,fs,oK,oA,oB,oX,oY,oP,oQ,oU,oZ,f0,f1,f2,f3,f4,f5,f6,f7,f8,f9,f10,f11,f12,f13,f14,f15,f16,f17,f18,f19,f20,f21,f22,f23,f24,f25,f26,f27,f28,f29,f30,f31,f32,f33⟩ := hF;have gg := f23 (by simp [haf])
     have ee := rd HA.out 123 (by kernel_rfl) gg
     refine ⟨?_⟩;rw [if_pos (by simp [Region.wanted,yielded,ee])]
     refine Gate.out ?_;clear gg ee;have e11 : A.tmps[11]? = some (.pointer (some ⟨w6.heap.size,0,none⟩)) := by rw [HA.out];kernel_rfl
     have c0 := Blk.cell oX 0;have c1 := Blk.cell oX 1;have c2 := Blk.cell oX 2;simp at c0;simp at c1;simp at c2;refine ⟨?_⟩;go_simp;refine hK (upd U 127 (.agg #[.slice pX qX rX,.bool xX,.slice aX nX cX])) _ _ ?_ ?_
     · rw [HA.out];kernel_rfl
     · exact ⟨fb,fk,fs,oK,oA,oB,oX,oY,oP,oQ,oU,oZ,f0,f1,f2,f3,f4,f5,f6,f7,f8,f9,f10,f11,f12,f13,f14,f15,f16,f17,f18,f19,f20,f21,f22,f23,f24,f25,f26,(fun _ => rfl),f28,f29,f30,f31,f32,f33⟩
    refine StepsU.cond ?_ ?_
    ·
     intro L U wr hF hlk haf A K hA hK;have HA : Hid (A = putAll _ _ U) := hA;clear hA;simp [Aft,Region.binds] at haf;obtain ⟨fb,fk,fs,oK,oA,oB,oX,oY,oP,oQ,oU,oZ,f0,f1,f2,f3,f4,f5,f6,f7,f8,f9,f10,f11,f12,f13,f14,f15,f16,f17,f18,f19,f20,f21,f22,f23,f24,f25,f26,f27,f28,f29,f30,f31,f32,f33⟩ := hF;have gg := f23 (by simp [haf])
     have ee := rd HA.out 123 (by kernel_rfl) gg
     refine ⟨?_⟩;rw [if_pos (by simp [Region.wanted,yielded,ee])]
     refine Gate.out ?_;clear gg ee;have g27 := f27 (by simp [haf])
     have e127 := rd HA.out 127 (by kernel_rfl) g27
     refine ⟨?_⟩;go_simp;refine (rtext_2 _ ps2 r2 S1 HS1.out _ (hX.below fk.b).val).mono ?_;rintro e w1 ⟨rfl,hb⟩;go_simp;refine hK (upd U 128 (.string S1)) _ _ ?_ ?_
     · rw [HA.out];kernel_rfl
     · exact ⟨(fb.step hb (Nat.le_refl _)),(fk.trans (KeepB.below hb)),(Nat.le_trans fs hb.size),(oK.stay hb),(oA.stay hb),(oB.stay hb),(oX.stay hb),(oY.stay hb),(oP.stay hb),(oQ.stay hb),(oU.stay hb),(oZ.stay hb),f0,f1,f2,f3,f4,f5,f6,f7,f8,f9,f10,f11,f12,f13,f14,f15,(mvB mb_trm (KeepB.below hb) f16),f17,f18,(mvB mb_rtm (KeepB.below hb) f19),f20,f21,f22,f23,f24,f25,f26,f27,(fun _ => rfl),f29,f30,f31,f32,f33⟩
    refine StepsU.cond ?_ ?_
    ·
     intro L U wr hF hlk haf A K hA hK;have HA : Hid (A = putAll _ _ U) := hA;clear hA;simp [Aft,Region.binds] at haf;obtain ⟨fb,fk,fs,oK,oA,oB,oX,oY,oP,oQ,oU,oZ,f0,f1,f2,f3,f4,f5,f6,f7,f8,f9,f10,f11,f12,f13,f14,f15,f16,f17,f18,f19,f20,f21,f22,f23,f24,f25,f26,f27,f28,f29,f30,f31,f32,f33⟩ := hF;have gg := f23 (by simp [haf])
     have ee := rd HA.out 123 (by kernel_rfl) gg
     refine ⟨?_⟩;rw [if_pos (by simp [Region.wanted,yielded,ee])]
     refine Gate.out ?_;clear gg ee;have e13 : A.tmps[13]? = some (.pointer (some ⟨w7.heap.size,0,none⟩)) := by rw [HA.out];kernel_rfl
     have c0 := Blk.cell oY 0;have c1 := Blk.cell oY 1;have c2 := Blk.cell oY 2;simp at c0;simp at c1;simp at c2;refine ⟨?_⟩;go_simp;refine hK (upd U 129 (.agg #[.slice pY qY rY,.bool xY,.slice aY nY cY])) _ _ ?_ ?_
     · rw [HA.out];kernel_rfl
     · exact ⟨fb,fk,fs,oK,oA,oB,oX,oY,oP,oQ,oU,oZ,f0,f1,f2,f3,f4,f5,f6,f7,f8,f9,f10,f11,f12,f13,f14,f15,f16,f17,f18,f19,f20,f21,f22,f23,f24,f25,f26,f27,f28,(fun _ => rfl),f30,f31,f32,f33⟩
    refine StepsU.cond ?_ ?_
    ·
     intro L U wr hF hlk haf A K hA hK;have HA : Hid (A = putAll _ _ U) := hA;clear hA;simp [Aft,Region.binds] at haf;obtain ⟨fb,fk,fs,oK,oA,oB,oX,oY,oP,oQ,oU,oZ,f0,f1,f2,f3,f4,f5,f6,f7,f8,f9,f10,f11,f12,f13,f14,f15,f16,f17,f18,f19,f20,f21,f22,f23,f24,f25,f26,f27,f28,f29,f30,f31,f32,f33⟩ := hF;have gg := f23 (by simp [haf])
     have ee := rd HA.out 123 (by kernel_rfl) gg
     refine ⟨?_⟩;rw [if_pos (by simp [Region.wanted,yielded,ee])]
     refine Gate.out ?_;clear gg ee;have g29 := f29 (by simp [haf])
     have e129 := rd HA.out 129 (by kernel_rfl) g29
     refine ⟨?_⟩;go_simp;refine (rtext_2 _ qs2 t2 S2 HS2.out _ (hY.below fk.b).val).mono ?_;rintro e w1 ⟨rfl,hb⟩;go_simp;refine hK (upd U 130 (.string S2)) _ _ ?_ ?_
     · rw [HA.out];kernel_rfl
     · exact ⟨(fb.step hb (Nat.le_refl _)),(fk.trans (KeepB.below hb)),(Nat.le_trans fs hb.size),(oK.stay hb),(oA.stay hb),(oB.stay hb),(oX.stay hb),(oY.stay hb),(oP.stay hb),(oQ.stay hb),(oU.stay hb),(oZ.stay hb),f0,f1,f2,f3,f4,f5,f6,f7,f8,f9,f10,f11,f12,f13,f14,f15,(mvB mb_trm (KeepB.below hb) f16),f17,f18,(mvB mb_rtm (KeepB.below hb) f19),f20,f21,f22,f23,f24,f25,f26,f27,f28,f29,(fun _ => rfl),f31,f32,f33⟩
    refine StepsU.cond ?_ ?_
    ·
     intro L U wr hF hlk haf A K hA hK;have HA : Hid (A = putAll _ _ U) := hA;clear hA;simp [Aft,Region.binds] at haf;obtain ⟨fb,fk,fs,oK,oA,oB,oX,oY,oP,oQ,oU,oZ,f0,f1,f2,f3,f4,f5,f6,f7,f8,f9,f10,f11,f12,f13,f14,f15,f16,f17,f18,f19,f20,f21,f22,f23,f24,f25,f26,f27,f28,f29,f30,f31,f32,f33⟩ := hF;have gg := f23 (by simp [haf])
     have ee := rd HA.out 123 (by kernel_rfl) gg
     refine ⟨?_⟩;rw [if_pos (by simp [Region.wanted,yielded,ee])]
     refine Gate.out ?_;clear gg ee;have g28 := f28 (by simp [haf])
     have g30 := f30 (by simp [haf])
     have hsb := HSB.out;have e128 := rd HA.out 128 (by kernel_rfl) g28
     have e130 := rd HA.out 130 (by kernel_rfl) g30
     refine ⟨?_⟩;go_simp;refine hK (upd U 131 (.bool bb)) _ _ ?_ ?_
     · rw [HA.out];kernel_rfl
     · exact ⟨fb,fk,fs,oK,oA,oB,oX,oY,oP,oQ,oU,oZ,f0,f1,f2,f3,f4,f5,f6,f7,f8,f9,f10,f11,f12,f13,f14,f15,f16,f17,f18,f19,f20,f21,f22,f23,f24,f25,f26,f27,f28,f29,f30,(fun _ => rfl),f32,f33⟩
    refine StepsU.cond ?_ ?_
    ·
     intro L U wr hF hlk haf A K hA hK;have HA : Hid (A = putAll _ _ U) := hA;clear hA;simp [Aft,Region.binds] at haf;obtain ⟨fb,fk,fs,oK,oA,oB,oX,oY,oP,oQ,oU,oZ,f0,f1,f2,f3,f4,f5,f6,f7,f8,f9,f10,f11,f12,f13,f14,f15,f16,f17,f18,f19,f20,f21,f22,f23,f24,f25,f26,f27,f28,f29,f30,f31,f32,f33⟩ := hF;have gg := f23 (by simp [haf])
     have ee := rd HA.out 123 (by kernel_rfl) gg
     refine ⟨?_⟩;rw [if_pos (by simp [Region.wanted,yielded,ee])]
     refine Gate.out ?_;clear gg ee;have g26 := f26 (by simp [haf])
     have g31 := f31 (by simp [haf])
     have e126 := rd HA.out 126 (by kernel_rfl) g26
     have e131 := rd HA.out 131 (by kernel_rfl) g31
     refine ⟨?_⟩;go_simp;refine hK (upd U 132 (.bool false)) _ _ ?_ ?_
     · rw [HA.out];kernel_rfl
     · exact ⟨fb,fk,fs,oK,oA,oB,oX,oY,oP,oQ,oU,oZ,f0,f1,f2,f3,f4,f5,f6,f7,f8,f9,f10,f11,f12,f13,f14,f15,f16,f17,f18,f19,f20,f21,f22,f23,f24,f25,f26,f27,f28,f29,f30,f31,(fun _ => rfl),f33⟩
    refine StepsU.run rfl ?_ StepsU.nil
    ·
     intro L U wr hF hlk haf A K hA hK;have HA : Hid (A = putAll _ _ U) := hA;clear hA;simp [Aft,Region.binds] at haf;obtain ⟨fb,fk,fs,oK,oA,oB,oX,oY,oP,oQ,oU,oZ,f0,f1,f2,f3,f4,f5,f6,f7,f8,f9,f10,f11,f12,f13,f14,f15,f16,f17,f18,f19,f20,f21,f22,f23,f24,f25,f26,f27,f28,f29,f30,f31,f32,f33⟩ := hF;have g23 := f23 (by simp [haf])
     have g32 := f32 (by simp [haf])
     have e123 := rd HA.out 123 (by kernel_rfl) g23
     have e132 := rd HA.out 132 (by kernel_rfl) g32
     refine ⟨?_⟩;go_simp;refine hK (upd U 133 (.bool false)) _ _ ?_ ?_
     · rw [HA.out];kernel_rfl
     · exact ⟨fb,fk,fs,oK,oA,oB,oX,oY,oP,oQ,oU,oZ,f0,f1,f2,f3,f4,f5,f6,f7,f8,f9,f10,f11,f12,f13,f14,f15,f16,f17,f18,f19,f20,f21,f22,f23,f24,f25,f26,f27,f28,f29,f30,f31,f32,(fun _ => rfl)⟩
   clear hbw oK oA oB oX oY oP oQ oU oZ;intro L U12 V12 hall hF;obtain ⟨hbw,fk,fs,oK,oA,oB,oX,oY,oP,oQ,oU,oZ,f0,f1,f2,f3,f4,f5,f6,f7,f8,f9,f10,f11,f12,f13,f14,f15,f16,f17,f18,f19,f20,f21,f22,f23,f24,f25,f26,f27,f28,f29,f30,f31,f32,f33⟩ := hF;have g0 := f0 (hall 0 (by decide))
   have g1 := f1 (hall 1 (by decide))
   have g2 := f2 (hall 2 (by decide))
   have g3 := f3 (hall 3 (by decide))
   have g4 := f4 (hall 4 (by decide))
   have g5 := f5 (hall 5 (by decide))
   have g6 := f6 (hall 6 (by decide))
   have g7 := f7 (hall 7 (by decide))
   have g8 := f8 (hall 8 (by decide))
   have g9 := f9 (hall 9 (by decide))
   have g10 := f10 (hall 10 (by decide))
   have g11 := f11 (hall 11 (by decide))
   have g12 := f12 (hall 12 (by decide))
   have g13 := f13 (hall 13 (by decide))
   have g14 := f14 (hall 14 (by decide))
   have g15 := f15 (hall 15 (by decide))
   have g16 := f16 (hall 16 (by decide))
   have g17 := f17 (hall 17 (by decide))
   have g18 := f18 (hall 18 (by decide))
   have g19 := f19 (hall 19 (by decide))
   have g20 := f20 (hall 20 (by decide))
   have g21 := f21 (hall 21 (by decide))
   have g22 := f22 (hall 22 (by decide))
   have g23 := f23 (hall 23 (by decide))
   have g24 := f24 (hall 24 (by decide))
   have g25 := f25 (hall 25 (by decide))
   have g26 := f26 (hall 26 (by decide))
   have g27 := f27 (hall 27 (by decide))
   have g28 := f28 (hall 28 (by decide))
   have g29 := f29 (hall 29 (by decide))
   have g30 := f30 (hall 30 (by decide))
   have g31 := f31 (hall 31 (by decide))
   have g32 := f32 (hall 32 (by decide))
   have g33 := f33 (hall 33 (by decide))
   clear hall f0 f1 f2 f3 f4 f5 f6 f7 f8 f9 f10 f11 f12 f13 f14 f15 f16 f17 f18 f19 f20 f21 f22 f23 f24 f25 f26 f27 f28 f29 f30 f31 f32 f33;replace hA := hA.below fk.b;replace hB := hB.below fk.b;replace hX := hX.below fk.b;replace hY := hY.below fk.b;replace hP := hP.below fk.b;replace hQ := hQ.below fk.b;replace hU := hU.below fk.b;replace hZ2 := hZ2.below fk.b;replace ltK := oK.lt;replace ltA := oA.lt;replace ltB := oB.lt;replace ltX := oX.lt;replace ltY := oY.lt;replace ltP := oP.lt;replace ltQ := oQ.lt;replace ltU := oU.lt;replace ltZ := oZ.lt;try clear g0
   try clear g1
   try clear g2
   try clear g3
   try clear g4
   try clear g5
   try clear g6
   try clear g7
   try clear g8
   try clear g9
   try clear g10
   try clear g11
   try clear g12
   try clear g13
   try clear g14
   try clear g15
   try clear g16
   try clear g17
   try clear g18
   try clear g19
   try clear g20
   try clear g21
   try clear g22
   try clear g23
   try clear g24
   try clear g25
   try clear g26
   try clear g27
   try clear g28
   try clear g29
   try clear g30
   try clear g31
   try clear g32
   clear hbW;simp only [setM_some,setM_none,setM_nil];clear fk fs;have e133 : U12 133 = _ := g33;rw [e133];clear g33 e133 hP hQ hU hZ2;clear ltP oP;clear ltQ oQ;clear ltU oU;clear ltZ oZ;go_upto_region 18 with fail
   generalize V12 = W9 at hbw oK oA oB oX oY ltK ltA ltB ltX ltY hA hB hX hY ⊢;have hb3 := below_new W9 (.cells #[.string SB] 9 (0,0));have oS := Blk.new W9 9 #[.string SB];have hSA := sarr_one W9 SB;obtain ⟨Kc0,Kc1,Kc2⟩ := oK.three;obtain ⟨Kk0,Kk1,Kk2⟩ := oK.frozen3;go_wp2_with fail
   refine (values_any (some ⟨W9.heap.size,0,none⟩) 1 1 [SB] _ hSA rfl (by decide)).mono ?_
   rintro e w30 ⟨a1,c1,a2,c2,k9,rfl,hk9,hA1,hA2,hb⟩;replace hb := hb3.step hb (Nat.le_refl _);clear hb3 oS hSA;clear Kc0 Kc1 Kc2 Kk0 Kk1 Kk2;replace oK := oK.stay hb;replace ltK := oK.lt;replace oA := oA.stay hb;replace ltA := oA.lt;replace oB := oB.stay hb;replace ltB := oB.lt;replace oX := oX.stay hb;replace ltX := oX.lt;replace oY := oY.stay hb;replace ltY := oY.lt;replace hA := hA.below hb;replace hB := hB.below hb;replace hX := hX.below hb;replace hY := hY.below hb;replace hbw := hbw.step hb (Nat.le_refl _);clear hb;have hk1 : k9 = 1 := by rw [← hk9];unfold valZ;rfl
   subst hk1;clear hk9;obtain ⟨z,hz9⟩ : ∃ z,z = pzd (cutS SB) := ⟨_,rfl⟩;have hvz : valZ [SB] = [z] := by rw [hz9];rfl
   rw [hvz] at hA1 hA2;clear hvz hz9;obtain ⟨gV,oV,rfl,sV,aV,nV,cV,V0,V1,hV⟩ := arr_one hA1;clear hA1;obtain ⟨u3,j3,k3,H3⟩ := Two.any (tMulOk ps2 r2 z) (scP ps2 z) (r2 * z);obtain ⟨u4,j4,k4,H4⟩ := Two.any (putOk ps2 r2 v qs2 t2) (putP ps2 v qs2) (putR ps2 r2 v t2);have H3H : Hid (Two _ _ _ u3 j3 k3) := H3;have H4H : Hid (Two _ _ _ u4 j4 k4) := H4;clear H3 H4;go_wp2;have hbW := hbw;refine wp_region_M (by kernel_rfl) [25,26,141,142,143,144,145,146,147,148] [none,none,none,none,none,none,none,none,none,none,none,none,none,none,none,none,none,none,none,none,none,none,none,none,none,some 25,some 26,none,none,none,none,none,none,none,none,none,none,none,none,none,none,none,none,none,none,none,none,none,none,none,none,none,none,none,none,none,none,none,none,none,none,none,none,none,none,none,none,none,none,none,none,none,none,none,none,none,none,none,none,none,none,none,none,none,none,none,none,none,none,none,none,none,none,none,none,none,none,none,none,none,none,none,none,none,none,none,none,none,none,none,none,none,none,none,none,none,none,none,none,none,none,none,none,none,none,none,none,none,none,none,none,none,none,none,none,none,none,none,none,none,none,some 141,some 142,some 143,some 144,some 145,some 146,some 147,some 148] (fun U => by kernel_rfl) (fun L U wr => Below w.heap.size w wr ∧ KeepP w30 wr ∧ w30.heap.size ≤ wr.heap.size ∧ Below w30.heap.size w30 wr ∧ Blk 25 wr (w.heap.size) #[.string SB,.slice vo vn vc,.int .i64 v] ∧ Blk 33 wr (w4.heap.size) #[.slice pA qA rA,.bool xA,.slice aA nA cA] ∧ Blk 33 wr (w5.heap.size) #[.slice pB qB rB,.bool xB,.slice aB nB cB] ∧ Blk 41 wr (w6.heap.size) #[.slice pX qX rX,.bool xX,.slice aX nX cX] ∧ Blk 41 wr (w7.heap.size) #[.slice pY qY rY,.bool xY,.slice aY nY cY] ∧ (L 0 = true → IS (.agg #[.slice pA qA rA,.bool xA,.slice aA nA cA]) (U 142) wr) ∧ (L 1 = true → IS (.slice (some ⟨gV,oV,none⟩) 1 c1) (U 143) wr) ∧ (L 2 = true → IS (.pointer (some ⟨gV,oV,none⟩)) (U 144) wr) ∧ (L 3 = true → IS (.agg #[.bool sV,.slice aV nV cV]) (U 145) wr) ∧ (L 4 = true → T2 (TRM u3 j3) (IS (.int .i64 k3)) (U 146) wr) ∧ (L 5 = true → T2 (TRM u3 j3) (IS (.int .i64 k3)) (U 141) wr) ∧ (L 6 = true → TRM u3 j3 (U 147) wr) ∧ (L 7 = true → IS (.int .i64 k3) (U 148) wr) ∧ (L 8 = true → NEWU 33 w30.heap.size wr (U 25) (bif L 9 then U 147 else .agg #[.slice none 0 0,.bool false,.slice none 0 0])) ∧ (L 10 = true → IS (.int .i64 k3) (U 26) wr) ∧ (L 9 = true → L 6 = true) ∧ (L 9 = true → L 8 = true)) (by kernel_rfl) ?_ ?_ ?_
   · exact fun U => ⟨hbw.drew,KeepP.below (Below.refl _ _).drew,Nat.le_refl _,(Below.refl _ _).drew,oK.drew,oA.drew,oB.drew,oX.drew,oY.drew,(fun h => by cases h),(fun h => by cases h),(fun h => by cases h),(fun h => by cases h),(fun h => by cases h),(fun h => by cases h),(fun h => by cases h),(fun h => by cases h),(fun h => by cases h),(fun h => by cases h),(fun h => by cases h),(fun h => by cases h)⟩
   ·
    refine StepsU.run rfl ?_ ?_
    ·
     intro L U wr hF hlk haf A K hA hK;have HA : Hid (A = putAll _ _ U) := hA;clear hA;simp [Aft,Region.binds] at haf;obtain ⟨fb,fk,fs,fB,oK,oA,oB,oX,oY,f0,f1,f2,f3,f4,f5,f6,f7,f8,f10,s9,m8⟩ := hF;have e7 : A.tmps[7]? = some (.pointer (some ⟨w4.heap.size,0,none⟩)) := by rw [HA.out];kernel_rfl
     have c0 := Blk.cell oA 0;have c1 := Blk.cell oA 1;have c2 := Blk.cell oA 2;simp at c0;simp at c1;simp at c2;refine ⟨?_⟩;go_simp;refine hK (upd U 142 (.agg #[.slice pA qA rA,.bool xA,.slice aA nA cA])) _ _ ?_ ?_
     · rw [HA.out];kernel_rfl
     · exact ⟨fb,fk,fs,fB,oK,oA,oB,oX,oY,(fun _ => rfl),f1,f2,f3,f4,f5,f6,f7,f8,f10,s9,m8⟩
    refine StepsU.run rfl ?_ ?_
    ·
     intro L U wr hF hlk haf A K hA hK;have HA : Hid (A = putAll _ _ U) := hA;clear hA;simp [Aft,Region.binds] at haf;obtain ⟨fb,fk,fs,fB,oK,oA,oB,oX,oY,f0,f1,f2,f3,f4,f5,f6,f7,f8,f10,s9,m8⟩ := hF;have e23 : A.tmps[23]? = some (.slice (some ⟨gV,oV,none⟩) 1 c1) := by rw [HA.out];kernel_rfl
     refine ⟨?_⟩;go_simp;refine hK (upd U 143 (.slice (some ⟨gV,oV,none⟩) 1 c1)) _ _ ?_ ?_
     · rw [HA.out];kernel_rfl
     · exact ⟨fb,fk,fs,fB,oK,oA,oB,oX,oY,f0,(fun _ => rfl),f2,f3,f4,f5,f6,f7,f8,f10,s9,m8⟩
    refine StepsU.run rfl ?_ ?_
    ·
     intro L U wr hF hlk haf A K hA hK;have HA : Hid (A = putAll _ _ U) := hA;clear hA;simp [Aft,Region.binds] at haf;obtain ⟨fb,fk,fs,fB,oK,oA,oB,oX,oY,f0,f1,f2,f3,f4,f5,f6,f7,f8,f10,s9,m8⟩ := hF;have g1 := f1 (by simp [haf])
     have e143 := rd HA.out 143 (by kernel_rfl) g1
     refine ⟨?_⟩;go_simp;refine hK (upd U 144 (.pointer (some ⟨gV,oV,none⟩))) _ _ ?_ ?_
     · rw [HA.out];kernel_rfl
     · exact ⟨fb,fk,fs,fB,oK,oA,oB,oX,oY,f0,f1,(fun _ => rfl),f3,f4,f5,f6,f7,f8,f10,s9,m8⟩
    refine StepsU.run rfl ?_ ?_
    ·
     intro L U wr hF hlk haf A K hA hK;have HA : Hid (A = putAll _ _ U) := hA;clear hA;simp [Aft,Region.binds] at haf;obtain ⟨fb,fk,fs,fB,oK,oA,oB,oX,oY,f0,f1,f2,f3,f4,f5,f6,f7,f8,f10,s9,m8⟩ := hF;have g2 := f2 (by simp [haf])
     have kV0 := (fB.cell (p := ⟨gV,oV,none⟩) (World.block_lt_of_cell? w30 _ V0)).trans V0;have kV1 := (fB.cell (p := ⟨gV,oV + 1,none⟩) (World.block_lt_of_cell? w30 _ V1)).trans V1;have e144 := rd HA.out 144 (by kernel_rfl) g2
     refine ⟨?_⟩;go_simp;refine hK (upd U 145 (.agg #[.bool sV,.slice aV nV cV])) _ _ ?_ ?_
     · rw [HA.out];kernel_rfl
     · exact ⟨fb,fk,fs,fB,oK,oA,oB,oX,oY,f0,f1,f2,(fun _ => rfl),f4,f5,f6,f7,f8,f10,s9,m8⟩
    refine StepsU.run rfl ?_ ?_
    ·
     intro L U wr hF hlk haf A K hA hK;have HA : Hid (A = putAll _ _ U) := hA;clear hA;simp [Aft,Region.binds] at haf;obtain ⟨fb,fk,fs,fB,oK,oA,oB,oX,oY,f0,f1,f2,f3,f4,f5,f6,f7,f8,f10,s9,m8⟩ := hF;have g0 := f0 (by simp [haf])
     have e142 := rd HA.out 142 (by kernel_rfl) g0
     have g3 := f3 (by simp [haf])
     have e145 := rd HA.out 145 (by kernel_rfl) g3
     refine ⟨?_⟩;go_simp;refine (lscale_2 _ _ ps2 r2 z H3H.out _ (hA.below fB).val (hV.below fB)).mono ?_;rintro e w1 ⟨v9,rfl,hr,hb⟩;go_simp;refine hK (upd U 146 (.tuple #[v9,.int .i64 k3])) _ _ ?_ ?_
     · rw [HA.out];kernel_rfl
     · exact ⟨(fb.step hb (Nat.le_refl _)),(fk.trans (KeepP.below hb)),(Nat.le_trans fs hb.size),(fB.step hb (Nat.le_refl _)),(oK.stay hb),(oA.stay hb),(oB.stay hb),(oX.stay hb),(oY.stay hb),f0,f1,f2,f3,(fun _ => ⟨_,_,rfl,hr,rfl⟩),(mvP (mp_t2 mp_trm mp_is) (KeepP.below hb) f5),(mvP mp_trm (KeepP.below hb) f6),f7,(fun h => (f8 h).below hb),f10,s9,m8⟩
    refine StepsU.run rfl ?_ ?_
    ·
     intro L U wr hF hlk haf A K hA hK;have HA : Hid (A = putAll _ _ U) := hA;clear hA;simp [Aft,Region.binds] at haf;obtain ⟨fb,fk,fs,fB,oK,oA,oB,oX,oY,f0,f1,f2,f3,f4,f5,f6,f7,f8,f10,s9,m8⟩ := hF;have g4 := f4 (by simp [haf])
     have e146 := rd HA.out 146 (by kernel_rfl) rfl
     refine ⟨?_⟩;go_simp;refine hK (upd U 141 (U 146)) _ _ ?_ ?_
     · rw [HA.out];kernel_rfl
     · exact ⟨fb,fk,fs,fB,oK,oA,oB,oX,oY,f0,f1,f2,f3,f4,(fun _ => g4),f6,f7,f8,f10,s9,m8⟩
    refine StepsU.run rfl ?_ ?_
    ·
     intro L U wr hF hlk haf A K hA hK;have HA : Hid (A = putAll _ _ U) := hA;clear hA;simp [Aft,Region.binds] at haf;obtain ⟨fb,fk,fs,fB,oK,oA,oB,oX,oY,f0,f1,f2,f3,f4,f5,f6,f7,f8,f10,s9,m8⟩ := hF;have g5 := f5 (by simp [haf])
     obtain ⟨t0,t1,hT,k0,k1⟩ := g5;have e141 := rd HA.out 141 (by kernel_rfl) hT
     refine ⟨?_⟩;go_simp;have hs9 : L 9 = false := by cases h : L 9 with | false => rfl | true => rw [s9 h] at hlk;cases hlk
     refine hK (upd U 147 t0) _ _ ?_ ?_
     · rw [HA.out];kernel_rfl
     · exact ⟨fb,fk,fs,fB,oK,oA,oB,oX,oY,f0,f1,f2,f3,f4,f5,(fun _ => k0),f7,(fun h => flip_v (P := fun v => NEWU _ _ _ _ v) hs9 (f8 h)),f10,(fun _ => rfl),m8⟩
    refine StepsU.run rfl ?_ ?_
    ·
     intro L U wr hF hlk haf A K hA hK;have HA : Hid (A = putAll _ _ U) := hA;clear hA;simp [Aft,Region.binds] at haf;obtain ⟨fb,fk,fs,fB,oK,oA,oB,oX,oY,f0,f1,f2,f3,f4,f5,f6,f7,f8,f10,s9,m8⟩ := hF;have g5 := f5 (by simp [haf])
     obtain ⟨t0,t1,hT,k0,k1⟩ := g5;have e141 := rd HA.out 141 (by kernel_rfl) hT
     refine ⟨?_⟩;go_simp;refine hK (upd U 148 t1) _ _ ?_ ?_
     · rw [HA.out];kernel_rfl
     · exact ⟨fb,fk,fs,fB,oK,oA,oB,oX,oY,f0,f1,f2,f3,f4,f5,f6,(fun _ => k1),f8,f10,s9,m8⟩
    refine StepsU.run rfl ?_ ?_
    ·
     intro L U wr hF hlk haf A K hA hK;have HA : Hid (A = putAll _ _ U) := hA;clear hA;simp [Aft,Region.binds] at haf;obtain ⟨fb,fk,fs,fB,oK,oA,oB,oX,oY,f0,f1,f2,f3,f4,f5,f6,f7,f8,f10,s9,m8⟩ := hF;have hst : L 9 = false := by cases h : L 9 with | false => rfl | true => rw [m8 h] at hlk;cases hlk
     refine ⟨?_⟩;go_simp;have hb := below_new wr (.cells #[.slice none 0 0,.bool false,.slice none 0 0] 33 (0,0));refine hK (upd U 25 (.pointer (some ⟨wr.heap.size,0,none⟩))) _ _ ?_ ?_
     · rw [HA.out];kernel_rfl
     · exact ⟨(fb.step hb (Nat.le_refl _)),(fk.trans (KeepP.below hb)),(Nat.le_trans fs hb.size),(fB.step hb (Nat.le_refl _)),(oK.stay hb),(oA.stay hb),(oB.stay hb),(oX.stay hb),(oY.stay hb),f0,f1,f2,f3,(mvP (mp_t2 mp_trm mp_is) (KeepP.below hb) f4),(mvP (mp_t2 mp_trm mp_is) (KeepP.below hb) f5),(mvP mp_trm (KeepP.below hb) f6),f7,(fun _ => newU_zero (by simp [hst]) (NEWU.mk fs (nuT _ _ _ _ _ _ _))),f10,s9,(fun _ => rfl)⟩
    refine StepsU.run rfl ?_ ?_
    ·
     intro L U wr hF hlk haf A K hA hK;have HA : Hid (A = putAll _ _ U) := hA;clear hA;simp [Aft,Region.binds] at haf;obtain ⟨fb,fk,fs,fB,oK,oA,oB,oX,oY,f0,f1,f2,f3,f4,f5,f6,f7,f8,f10,s9,m8⟩ := hF;have g6 := f6 (by simp [haf])
     obtain ⟨yp,yq,yr,yx,ya,yn,yc,hsrc⟩ := TermR.shape g6;have e147 := rd HA.out 147 (by kernel_rfl) hsrc
     have g8 := f8 (by simp [haf])
     rw [hlk,cond_false] at g8;obtain ⟨b,cs,hp,hBb,hcs,hblk,hN⟩ := g8;injection hcs with hcs;subst hcs;have e25 := rd HA.out 25 (by kernel_rfl) hp
     have q0 := hblk.frozen 0;have q1 := hblk.frozen 1;have q2 := hblk.frozen 2;have c0 := hblk.cell 0;have c1 := hblk.cell 1;have c2 := hblk.cell 2;simp at c0;simp at c1;simp at c2;have hlt := hblk.lt;refine ⟨?_⟩;go_simp;refine hK U _ _ ?_ ?_
     · exact HA.out
     · exact ⟨(below_stores (Nat.le_trans (by exact hbW.size) hBb) [.slice yp yq yr,.bool yx,.slice ya yn yc] 0 fb),(fk.trans (keepP_stores (by decide) (by decide) [.slice yp yq yr,.bool yx,.slice ya yn yc] 0 hblk (nuT _ _ _ _ _ _ _) (nuT _ _ _ _ _ _ _))),(by simp;exact fs),(below_stores hBb [.slice yp yq yr,.bool yx,.slice ya yn yc] 0 fB),(oK.otherS (Nat.ne_of_gt (Nat.lt_of_lt_of_le ltK hBb)) 0 [.slice yp yq yr,.bool yx,.slice ya yn yc]),(oA.otherS (Nat.ne_of_gt (Nat.lt_of_lt_of_le ltA hBb)) 0 [.slice yp yq yr,.bool yx,.slice ya yn yc]),(oB.otherS (Nat.ne_of_gt (Nat.lt_of_lt_of_le ltB hBb)) 0 [.slice yp yq yr,.bool yx,.slice ya yn yc]),(oX.otherS (Nat.ne_of_gt (Nat.lt_of_lt_of_le ltX hBb)) 0 [.slice yp yq yr,.bool yx,.slice ya yn yc]),(oY.otherS (Nat.ne_of_gt (Nat.lt_of_lt_of_le ltY hBb)) 0 [.slice yp yq yr,.bool yx,.slice ya yn yc]),f0,f1,f2,f3,(mvP (mp_t2 mp_trm mp_is) (keepP_stores (by decide) (by decide) [.slice yp yq yr,.bool yx,.slice ya yn yc] 0 hblk (nuT _ _ _ _ _ _ _) (nuT _ _ _ _ _ _ _)) f4),(mvP (mp_t2 mp_trm mp_is) (keepP_stores (by decide) (by decide) [.slice yp yq yr,.bool yx,.slice ya yn yc] 0 hblk (nuT _ _ _ _ _ _ _) (nuT _ _ _ _ _ _ _)) f5),(mvP mp_trm (keepP_stores (by decide) (by decide) [.slice yp yq yr,.bool yx,.slice ya yn yc] 0 hblk (nuT _ _ _ _ _ _ _) (nuT _ _ _ _ _ _ _)) f6),f7,(fun _ => by simp only [cond_true,Bool.true_or,beq_self_eq_true];exact storedU_new hp hsrc (NEWU.overS hBb hblk [.slice yp yq yr,.bool yx,.slice ya yn yc] rfl (nuT _ _ _ _ _ _ _))),f10,(fun _ => by simp [haf]),(fun _ => by simp [haf])⟩
    refine StepsU.run rfl ?_ StepsU.nil
    ·
     intro L U wr hF hlk haf A K hA hK;have HA : Hid (A = putAll _ _ U) := hA;clear hA;simp [Aft,Region.binds] at haf;obtain ⟨fb,fk,fs,fB,oK,oA,oB,oX,oY,f0,f1,f2,f3,f4,f5,f6,f7,f8,f10,s9,m8⟩ := hF;have g7 := f7 (by simp [haf])
     have e148 := rd HA.out 148 (by kernel_rfl) rfl
     refine ⟨?_⟩;go_simp;refine hK (upd U 26 (U 148)) _ _ ?_ ?_
     · rw [HA.out];kernel_rfl
     · exact ⟨fb,fk,fs,fB,oK,oA,oB,oX,oY,f0,f1,f2,f3,f4,f5,f6,f7,f8,(fun _ => g7),s9,m8⟩
   clear hbw oK oA oB oX oY;intro L U13 V13 hall hF;obtain ⟨hbw,fk,fs,fB,oK,oA,oB,oX,oY,f0,f1,f2,f3,f4,f5,f6,f7,f8,f10,s9,m8⟩ := hF;clear s9 m8;have g0 := f0 (hall 0 (by decide))
   have g1 := f1 (hall 1 (by decide))
   have g2 := f2 (hall 2 (by decide))
   have g3 := f3 (hall 3 (by decide))
   have g4 := f4 (hall 4 (by decide))
   have g5 := f5 (hall 5 (by decide))
   have g6 := f6 (hall 6 (by decide))
   have g7 := f7 (hall 7 (by decide))
   have g8 := f8 (hall 8 (by decide))
   rw [hall 9 (by decide),cond_true] at g8
   have g10 := f10 (hall 10 (by decide))
   clear hall f0 f1 f2 f3 f4 f5 f6 f7 f8 f10;replace hA := hA.below fB;replace hB := hB.below fB;replace hX := hX.below fB;replace hY := hY.below fB;replace hA2 := hA2.below fB;clear fB;obtain ⟨bD,csD,hpD,lbD,hcsD,oD,-⟩ := g8;obtain ⟨pD,qD,rD,xD,aD,nD,cD,hvD⟩ := TermR.shape g6;have hD : TermR _ _ _ _ := g6;rw [hvD] at hD hcsD;injection hcsD with hcsD;subst hcsD;clear hvD;have ltD := oD.lt;have neKD : w.heap.size ≠ bD := Nat.ne_of_lt (Nat.lt_of_lt_of_le ltK lbD);have neAD : w4.heap.size ≠ bD := Nat.ne_of_lt (Nat.lt_of_lt_of_le ltA lbD);have neBD : w5.heap.size ≠ bD := Nat.ne_of_lt (Nat.lt_of_lt_of_le ltB lbD);have neXD : w6.heap.size ≠ bD := Nat.ne_of_lt (Nat.lt_of_lt_of_le ltX lbD);have neYD : w7.heap.size ≠ bD := Nat.ne_of_lt (Nat.lt_of_lt_of_le ltY lbD);have lwD : w.heap.size ≤ bD := Nat.le_trans hbW.size lbD;replace ltK := oK.lt;replace ltA := oA.lt;replace ltB := oB.lt;replace ltX := oX.lt;replace ltY := oY.lt;clear lbD;try clear g0
   try clear g1
   try clear g2
   try clear g3
   try clear g4
   try clear g5
   try clear g6
   try clear g7
   clear hbW;simp only [setM_some,setM_none,setM_nil];rw [hpD];clear hpD;clear fk fs;have e26 : U13 26 = _ := g10;rw [e26];clear g10 e26;clear V0 V1 hV;obtain ⟨gW,oW,rfl,sW,aW,nW,cW,W0,W1,hW⟩ := arrR_one hA2;clear hA2;go_wp2;have hbW := hbw;refine wp_region_M (by kernel_rfl) [27,28,149,150,151,152,153,154,155,156] [none,none,none,none,none,none,none,none,none,none,none,none,none,none,none,none,none,none,none,none,none,none,none,none,none,none,none,some 27,some 28,none,none,none,none,none,none,none,none,none,none,none,none,none,none,none,none,none,none,none,none,none,none,none,none,none,none,none,none,none,none,none,none,none,none,none,none,none,none,none,none,none,none,none,none,none,none,none,none,none,none,none,none,none,none,none,none,none,none,none,none,none,none,none,none,none,none,none,none,none,none,none,none,none,none,none,none,none,none,none,none,none,none,none,none,none,none,none,none,none,none,none,none,none,none,none,none,none,none,none,none,none,none,none,none,none,none,none,none,none,none,none,none,none,none,none,none,none,none,none,none,some 149,some 150,some 151,some 152,some 153,some 154,some 155,some 156] (fun U => by kernel_rfl) (fun L U wr => Below w.heap.size w wr ∧ KeepQ V13 wr ∧ V13.heap.size ≤ wr.heap.size ∧ Below V13.heap.size V13 wr ∧ Blk 25 wr (w.heap.size) #[.string SB,.slice vo vn vc,.int .i64 v] ∧ Blk 33 wr (w4.heap.size) #[.slice pA qA rA,.bool xA,.slice aA nA cA] ∧ Blk 33 wr (w5.heap.size) #[.slice pB qB rB,.bool xB,.slice aB nB cB] ∧ Blk 41 wr (w6.heap.size) #[.slice pX qX rX,.bool xX,.slice aX nX cX] ∧ Blk 41 wr (w7.heap.size) #[.slice pY qY rY,.bool xY,.slice aY nY cY] ∧ Blk 33 wr (bD) #[.slice pD qD rD,.bool xD,.slice aD nD cD] ∧ (L 0 = true → IS (.agg #[.slice pX qX rX,.bool xX,.slice aX nX cX]) (U 150) wr) ∧ (L 1 = true → IS (.slice (some ⟨gW,oW,none⟩) 1 c2) (U 151) wr) ∧ (L 2 = true → IS (.pointer (some ⟨gW,oW,none⟩)) (U 152) wr) ∧ (L 3 = true → IS (.agg #[.bool sW,.slice aW nW cW]) (U 153) wr) ∧ (L 4 = true → T2 (RTM u3 j3) (IS (.int .i64 k3)) (U 154) wr) ∧ (L 5 = true → T2 (RTM u3 j3) (IS (.int .i64 k3)) (U 149) wr) ∧ (L 6 = true → RTM u3 j3 (U 155) wr) ∧ (L 7 = true → IS (.int .i64 k3) (U 156) wr) ∧ (L 8 = true → NEWU 41 V13.heap.size wr (U 27) (bif L 9 then U 155 else .agg #[.slice none 0 0,.bool false,.slice none 0 0])) ∧ (L 10 = true → IS (.int .i64 k3) (U 28) wr) ∧ (L 9 = true → L 6 = true) ∧ (L 9 = true → L 8 = true)) (by kernel_rfl) ?_ ?_ ?_
   · exact fun U => ⟨hbw.drew,KeepQ.below (Below.refl _ _).drew,Nat.le_refl _,(Below.refl _ _).drew,oK.drew,oA.drew,oB.drew,oX.drew,oY.drew,oD.drew,(fun h => by cases h),(fun h => by cases h),(fun h => by cases h),(fun h => by cases h),(fun h => by cases h),(fun h => by cases h),(fun h => by cases h),(fun h => by cases h),(fun h => by cases h),(fun h => by cases h),(fun h => by cases h),(fun h => by cases h)⟩
   ·
    refine StepsU.run rfl ?_ ?_
    ·
     intro L U wr hF hlk haf A K hA hK;have HA : Hid (A = putAll _ _ U) := hA;clear hA;simp [Aft,Region.binds] at haf;obtain ⟨fb,fk,fs,fB,oK,oA,oB,oX,oY,oD,f0,f1,f2,f3,f4,f5,f6,f7,f8,f10,s9,m8⟩ := hF;have e11 : A.tmps[11]? = some (.pointer (some ⟨w6.heap.size,0,none⟩)) := by rw [HA.out];kernel_rfl
     have c0 := Blk.cell oX 0;have c1 := Blk.cell oX 1;have c2 := Blk.cell oX 2;simp at c0;simp at c1;simp at c2;refine ⟨?_⟩;go_simp;refine hK (upd U 150 (.agg #[.slice pX qX rX,.bool xX,.slice aX nX cX])) _ _ ?_ ?_
     · rw [HA.out];kernel_rfl
     · exact ⟨fb,fk,fs,fB,oK,oA,oB,oX,oY,oD,(fun _ => rfl),f1,f2,f3,f4,f5,f6,f7,f8,f10,s9,m8⟩
    refine StepsU.run rfl ?_ ?_
    ·
     intro L U wr hF hlk haf A K hA hK;have HA : Hid (A = putAll _ _ U) := hA;clear hA;simp [Aft,Region.binds] at haf;obtain ⟨fb,fk,fs,fB,oK,oA,oB,oX,oY,oD,f0,f1,f2,f3,f4,f5,f6,f7,f8,f10,s9,m8⟩ := hF;have e24 : A.tmps[24]? = some (.slice (some ⟨gW,oW,none⟩) 1 c2) := by rw [HA.out];kernel_rfl
     refine ⟨?_⟩;go_simp;refine hK (upd U 151 (.slice (some ⟨gW,oW,none⟩) 1 c2)) _ _ ?_ ?_
     · rw [HA.out];kernel_rfl
     · exact ⟨fb,fk,fs,fB,oK,oA,oB,oX,oY,oD,f0,(fun _ => rfl),f2,f3,f4,f5,f6,f7,f8,f10,s9,m8⟩
    refine StepsU.run rfl ?_ ?_
    ·
     intro L U wr hF hlk haf A K hA hK;have HA : Hid (A = putAll _ _ U) := hA;clear hA;simp [Aft,Region.binds] at haf;obtain ⟨fb,fk,fs,fB,oK,oA,oB,oX,oY,oD,f0,f1,f2,f3,f4,f5,f6,f7,f8,f10,s9,m8⟩ := hF;have g1 := f1 (by simp [haf])
     have e151 := rd HA.out 151 (by kernel_rfl) g1
     refine ⟨?_⟩;go_simp;refine hK (upd U 152 (.pointer (some ⟨gW,oW,none⟩))) _ _ ?_ ?_
     · rw [HA.out];kernel_rfl
     · exact ⟨fb,fk,fs,fB,oK,oA,oB,oX,oY,oD,f0,f1,(fun _ => rfl),f3,f4,f5,f6,f7,f8,f10,s9,m8⟩
    refine StepsU.run rfl ?_ ?_
    ·
     intro L U wr hF hlk haf A K hA hK;have HA : Hid (A = putAll _ _ U) := hA;clear hA;simp [Aft,Region.binds] at haf;obtain ⟨fb,fk,fs,fB,oK,oA,oB,oX,oY,oD,f0,f1,f2,f3,f4,f5,f6,f7,f8,f10,s9,m8⟩ := hF;have g2 := f2 (by simp [haf])
     have kV0 := (fB.cell (p := ⟨gW,oW,none⟩) (World.block_lt_of_cell? V13 _ W0)).trans W0;have kV1 := (fB.cell (p := ⟨gW,oW + 1,none⟩) (World.block_lt_of_cell? V13 _ W1)).trans W1;have e152 := rd HA.out 152 (by kernel_rfl) g2
     refine ⟨?_⟩;go_simp;refine hK (upd U 153 (.agg #[.bool sW,.slice aW nW cW])) _ _ ?_ ?_
     · rw [HA.out];kernel_rfl
     · exact ⟨fb,fk,fs,fB,oK,oA,oB,oX,oY,oD,f0,f1,f2,(fun _ => rfl),f4,f5,f6,f7,f8,f10,s9,m8⟩
    refine StepsU.run rfl ?_ ?_
    ·
     intro L U wr hF hlk haf A K hA hK;have HA : Hid (A = putAll _ _ U) := hA;clear hA;simp [Aft,Region.binds] at haf;obtain ⟨fb,fk,fs,fB,oK,oA,oB,oX,oY,oD,f0,f1,f2,f3,f4,f5,f6,f7,f8,f10,s9,m8⟩ := hF;have g0 := f0 (by simp [haf])
     have e150 := rd HA.out 150 (by kernel_rfl) g0
     have g3 := f3 (by simp [haf])
     have e153 := rd HA.out 153 (by kernel_rfl) g3
     refine ⟨?_⟩;go_simp;refine (rscale_2 _ _ ps2 r2 z H3H.out _ (hX.below fB).val (hW.below fB)).mono ?_;rintro e w1 ⟨v9,rfl,hr,hb⟩;go_simp;refine hK (upd U 154 (.tuple #[v9,.int .i64 k3])) _ _ ?_ ?_
     · rw [HA.out];kernel_rfl
     · exact ⟨(fb.step hb (Nat.le_refl _)),(fk.trans (KeepQ.below hb)),(Nat.le_trans fs hb.size),(fB.step hb (Nat.le_refl _)),(oK.stay hb),(oA.stay hb),(oB.stay hb),(oX.stay hb),(oY.stay hb),(oD.stay hb),f0,f1,f2,f3,(fun _ => ⟨_,_,rfl,hr,rfl⟩),(mvQ (mq_t2 mq_rtm mq_is) (KeepQ.below hb) f5),(mvQ mq_rtm (KeepQ.below hb) f6),f7,(fun h => (f8 h).below hb),f10,s9,m8⟩
    refine StepsU.run rfl ?_ ?_
    ·
     intro L U wr hF hlk haf A K hA hK;have HA : Hid (A = putAll _ _ U) := hA;clear hA;simp [Aft,Region.binds] at haf;obtain ⟨fb,fk,fs,fB,oK,oA,oB,oX,oY,oD,f0,f1,f2,f3,f4,f5,f6,f7,f8,f10,s9,m8⟩ := hF;have g4 := f4 (by simp [haf])
     have e154 := rd HA.out 154 (by kernel_rfl) rfl
     refine ⟨?_⟩;go_simp;refine hK (upd U 149 (U 154)) _ _ ?_ ?_
     · rw [HA.out];kernel_rfl
     · exact ⟨fb,fk,fs,fB,oK,oA,oB,oX,oY,oD,f0,f1,f2,f3,f4,(fun _ => g4),f6,f7,f8,f10,s9,m8⟩
    refine StepsU.run rfl ?_ ?_
    ·
     intro L U wr hF hlk haf A K hA hK;have HA : Hid (A = putAll _ _ U) := hA;clear hA;simp [Aft,Region.binds] at haf;obtain ⟨fb,fk,fs,fB,oK,oA,oB,oX,oY,oD,f0,f1,f2,f3,f4,f5,f6,f7,f8,f10,s9,m8⟩ := hF;have g5 := f5 (by simp [haf])
     obtain ⟨t0,t1,hT,k0,k1⟩ := g5;have e149 := rd HA.out 149 (by kernel_rfl) hT
     refine ⟨?_⟩;go_simp;have hs9 : L 9 = false := by cases h : L 9 with | false => rfl | true => rw [s9 h] at hlk;cases hlk
     refine hK (upd U 155 t0) _ _ ?_ ?_
     · rw [HA.out];kernel_rfl
     · exact ⟨fb,fk,fs,fB,oK,oA,oB,oX,oY,oD,f0,f1,f2,f3,f4,f5,(fun _ => k0),f7,(fun h => flip_v (P := fun v => NEWU _ _ _ _ v) hs9 (f8 h)),f10,(fun _ => rfl),m8⟩
    refine StepsU.run rfl ?_ ?_
    ·
     intro L U wr hF hlk haf A K hA hK;have HA : Hid (A = putAll _ _ U) := hA;clear hA;simp [Aft,Region.binds] at haf;obtain ⟨fb,fk,fs,fB,oK,oA,oB,oX,oY,oD,f0,f1,f2,f3,f4,f5,f6,f7,f8,f10,s9,m8⟩ := hF;have g5 := f5 (by simp [haf])
     obtain ⟨t0,t1,hT,k0,k1⟩ := g5;have e149 := rd HA.out 149 (by kernel_rfl) hT
     refine ⟨?_⟩;go_simp;refine hK (upd U 156 t1) _ _ ?_ ?_
     · rw [HA.out];kernel_rfl
     · exact ⟨fb,fk,fs,fB,oK,oA,oB,oX,oY,oD,f0,f1,f2,f3,f4,f5,f6,(fun _ => k1),f8,f10,s9,m8⟩
    refine StepsU.run rfl ?_ ?_
    ·
     intro L U wr hF hlk haf A K hA hK;have HA : Hid (A = putAll _ _ U) := hA;clear hA;simp [Aft,Region.binds] at haf;obtain ⟨fb,fk,fs,fB,oK,oA,oB,oX,oY,oD,f0,f1,f2,f3,f4,f5,f6,f7,f8,f10,s9,m8⟩ := hF;have hst : L 9 = false := by cases h : L 9 with | false => rfl | true => rw [m8 h] at hlk;cases hlk
     refine ⟨?_⟩;go_simp;have hb := below_new wr (.cells #[.slice none 0 0,.bool false,.slice none 0 0] 41 (0,0));refine hK (upd U 27 (.pointer (some ⟨wr.heap.size,0,none⟩))) _ _ ?_ ?_
     · rw [HA.out];kernel_rfl
     · exact ⟨(fb.step hb (Nat.le_refl _)),(fk.trans (KeepQ.below hb)),(Nat.le_trans fs hb.size),(fB.step hb (Nat.le_refl _)),(oK.stay hb),(oA.stay hb),(oB.stay hb),(oX.stay hb),(oY.stay hb),(oD.stay hb),f0,f1,f2,f3,(mvQ (mq_t2 mq_rtm mq_is) (KeepQ.below hb) f4),(mvQ (mq_t2 mq_rtm mq_is) (KeepQ.below hb) f5),(mvQ mq_rtm (KeepQ.below hb) f6),f7,(fun _ => newU_zero (by simp [hst]) (NEWU.mk fs (nuT _ _ _ _ _ _ _))),f10,s9,(fun _ => rfl)⟩
    refine StepsU.run rfl ?_ ?_
    ·
     intro L U wr hF hlk haf A K hA hK;have HA : Hid (A = putAll _ _ U) := hA;clear hA;simp [Aft,Region.binds] at haf;obtain ⟨fb,fk,fs,fB,oK,oA,oB,oX,oY,oD,f0,f1,f2,f3,f4,f5,f6,f7,f8,f10,s9,m8⟩ := hF;have g6 := f6 (by simp [haf])
     obtain ⟨yp,yq,yr,yx,ya,yn,yc,hsrc⟩ := RTermR.shape g6;have e155 := rd HA.out 155 (by kernel_rfl) hsrc
     have g8 := f8 (by simp [haf])
     rw [hlk,cond_false] at g8;obtain ⟨b,cs,hp,hBb,hcs,hblk,hN⟩ := g8;injection hcs with hcs;subst hcs;have e27 := rd HA.out 27 (by kernel_rfl) hp
     have q0 := hblk.frozen 0;have q1 := hblk.frozen 1;have q2 := hblk.frozen 2;have c0 := hblk.cell 0;have c1 := hblk.cell 1;have c2 := hblk.cell 2;simp at c0;simp at c1;simp at c2;have hlt := hblk.lt;refine ⟨?_⟩;go_simp;refine hK U _ _ ?_ ?_
     · exact HA.out
     · exact ⟨(below_stores (Nat.le_trans (by exact hbW.size) hBb) [.slice yp yq yr,.bool yx,.slice ya yn yc] 0 fb),(fk.trans (keepQ_stores (by decide) (by decide) [.slice yp yq yr,.bool yx,.slice ya yn yc] 0 hblk (nuT _ _ _ _ _ _ _) (nuT _ _ _ _ _ _ _))),(by simp;exact fs),(below_stores hBb [.slice yp yq yr,.bool yx,.slice ya yn yc] 0 fB),(oK.otherS (Nat.ne_of_gt (Nat.lt_of_lt_of_le ltK hBb)) 0 [.slice yp yq yr,.bool yx,.slice ya yn yc]),(oA.otherS (Nat.ne_of_gt (Nat.lt_of_lt_of_le ltA hBb)) 0 [.slice yp yq yr,.bool yx,.slice ya yn yc]),(oB.otherS (Nat.ne_of_gt (Nat.lt_of_lt_of_le ltB hBb)) 0 [.slice yp yq yr,.bool yx,.slice ya yn yc]),(oX.otherS (Nat.ne_of_gt (Nat.lt_of_lt_of_le ltX hBb)) 0 [.slice yp yq yr,.bool yx,.slice ya yn yc]),(oY.otherS (Nat.ne_of_gt (Nat.lt_of_lt_of_le ltY hBb)) 0 [.slice yp yq yr,.bool yx,.slice ya yn yc]),(oD.otherS (Nat.ne_of_gt (Nat.lt_of_lt_of_le ltD hBb)) 0 [.slice yp yq yr,.bool yx,.slice ya yn yc]),f0,f1,f2,f3,(mvQ (mq_t2 mq_rtm mq_is) (keepQ_stores (by decide) (by decide) [.slice yp yq yr,.bool yx,.slice ya yn yc] 0 hblk (nuT _ _ _ _ _ _ _) (nuT _ _ _ _ _ _ _)) f4),(mvQ (mq_t2 mq_rtm mq_is) (keepQ_stores (by decide) (by decide) [.slice yp yq yr,.bool yx,.slice ya yn yc] 0 hblk (nuT _ _ _ _ _ _ _) (nuT _ _ _ _ _ _ _)) f5),(mvQ mq_rtm (keepQ_stores (by decide) (by decide) [.slice yp yq yr,.bool yx,.slice ya yn yc] 0 hblk (nuT _ _ _ _ _ _ _) (nuT _ _ _ _ _ _ _)) f6),f7,(fun _ => by simp only [cond_true,Bool.true_or,beq_self_eq_true];exact storedU_new hp hsrc (NEWU.overS hBb hblk [.slice yp yq yr,.bool yx,.slice ya yn yc] rfl (nuT _ _ _ _ _ _ _))),f10,(fun _ => by simp [haf]),(fun _ => by simp [haf])⟩
    refine StepsU.run rfl ?_ StepsU.nil
    ·
     intro L U wr hF hlk haf A K hA hK;have HA : Hid (A = putAll _ _ U) := hA;clear hA;simp [Aft,Region.binds] at haf;obtain ⟨fb,fk,fs,fB,oK,oA,oB,oX,oY,oD,f0,f1,f2,f3,f4,f5,f6,f7,f8,f10,s9,m8⟩ := hF;have g7 := f7 (by simp [haf])
     have e156 := rd HA.out 156 (by kernel_rfl) rfl
     refine ⟨?_⟩;go_simp;refine hK (upd U 28 (U 156)) _ _ ?_ ?_
     · rw [HA.out];kernel_rfl
     · exact ⟨fb,fk,fs,fB,oK,oA,oB,oX,oY,oD,f0,f1,f2,f3,f4,f5,f6,f7,f8,(fun _ => g7),s9,m8⟩
   clear hbw oK oA oB oX oY oD;intro L U14 V14 hall hF;obtain ⟨hbw,fk,fs,fB,oK,oA,oB,oX,oY,oD,f0,f1,f2,f3,f4,f5,f6,f7,f8,f10,s9,m8⟩ := hF;clear s9 m8;have g0 := f0 (hall 0 (by decide))
   have g1 := f1 (hall 1 (by decide))
   have g2 := f2 (hall 2 (by decide))
   have g3 := f3 (hall 3 (by decide))
   have g4 := f4 (hall 4 (by decide))
   have g5 := f5 (hall 5 (by decide))
   have g6 := f6 (hall 6 (by decide))
   have g7 := f7 (hall 7 (by decide))
   have g8 := f8 (hall 8 (by decide))
   rw [hall 9 (by decide),cond_true] at g8
   have g10 := f10 (hall 10 (by decide))
   clear hall f0 f1 f2 f3 f4 f5 f6 f7 f8 f10;replace hA := hA.below fB;replace hB := hB.below fB;replace hX := hX.below fB;replace hY := hY.below fB;replace hD := hD.below fB;clear fB;obtain ⟨bG,csG,hpG,lbG,hcsG,oG,-⟩ := g8;obtain ⟨pG,qG,rG,xG,aG,nG,cG,hvG⟩ := RTermR.shape g6;have hG : RTermR _ _ _ _ := g6;rw [hvG] at hG hcsG;injection hcsG with hcsG;subst hcsG;clear hvG;have ltG := oG.lt;have neKG : w.heap.size ≠ bG := Nat.ne_of_lt (Nat.lt_of_lt_of_le ltK lbG);have neAG : w4.heap.size ≠ bG := Nat.ne_of_lt (Nat.lt_of_lt_of_le ltA lbG);have neBG : w5.heap.size ≠ bG := Nat.ne_of_lt (Nat.lt_of_lt_of_le ltB lbG);have neXG : w6.heap.size ≠ bG := Nat.ne_of_lt (Nat.lt_of_lt_of_le ltX lbG);have neYG : w7.heap.size ≠ bG := Nat.ne_of_lt (Nat.lt_of_lt_of_le ltY lbG);have neDG : bD ≠ bG := Nat.ne_of_lt (Nat.lt_of_lt_of_le ltD lbG);have lwG : w.heap.size ≤ bG := Nat.le_trans hbW.size lbG;replace ltK := oK.lt;replace ltA := oA.lt;replace ltB := oB.lt;replace ltX := oX.lt;replace ltY := oY.lt;replace ltD := oD.lt;clear lbG;try clear g0
   try clear g1
   try clear g2
   try clear g3
   try clear g4
   try clear g5
   try clear g6
   try clear g7
   clear hbW;simp only [setM_some,setM_none,setM_nil];rw [hpG];clear hpG;clear fk fs;have e28 : U14 28 = _ := g10;rw [e28];clear g10 e28 W0 W1 hW;obtain ⟨Ac0,Ac1,Ac2⟩ := oA.three;obtain ⟨Ak0,Ak1,Ak2⟩ := oA.frozen3;obtain ⟨Kc0,Kc1,Kc2⟩ := oK.three;obtain ⟨Kk0,Kk1,Kk2⟩ := oK.frozen3;obtain ⟨Bc0,Bc1,Bc2⟩ := oB.three;obtain ⟨Bk0,Bk1,Bk2⟩ := oB.frozen3;go_wp2_with fail
   refine (lput_2 _ _ ps2 qs2 r2 t2 v H4H.out _ hA.val hB.val).mono ?_;rintro e w15 ⟨pE,qE,rE,xE,aE,nE,cE,rfl,hE,hb⟩;clear Ac0 Ac1 Ac2 Ak0 Ak1 Ak2;clear Kc0 Kc1 Kc2 Kk0 Kk1 Kk2;clear Bc0 Bc1 Bc2 Bk0 Bk1 Bk2;replace oK := oK.stay hb;replace ltK := oK.lt;replace oA := oA.stay hb;replace ltA := oA.lt;replace oB := oB.stay hb;replace ltB := oB.lt;replace oX := oX.stay hb;replace ltX := oX.lt;replace oY := oY.stay hb;replace ltY := oY.lt;replace oD := oD.stay hb;replace ltD := oD.lt;replace oG := oG.stay hb;replace ltG := oG.lt;replace hA := hA.below hb;replace hB := hB.below hb;replace hX := hX.below hb;replace hY := hY.below hb;replace hD := hD.below hb;replace hG := hG.below hb;replace hbw := hbw.step hb (Nat.le_refl _);clear hb;have hn := below_new w15 (.cells #[.slice pE qE rE,.bool xE,.slice aE nE cE] 33 (0,0));have oE := Blk.new w15 33 #[.slice pE qE rE,.bool xE,.slice aE nE cE];have neKE : w.heap.size ≠ w15.heap.size := by have := ltK;(try simp at this);omega
   have neAE : w4.heap.size ≠ w15.heap.size := by have := ltA;(try simp at this);omega
   have neBE : w5.heap.size ≠ w15.heap.size := by have := ltB;(try simp at this);omega
   have neXE : w6.heap.size ≠ w15.heap.size := by have := ltX;(try simp at this);omega
   have neYE : w7.heap.size ≠ w15.heap.size := by have := ltY;(try simp at this);omega
   have neDE : bD ≠ w15.heap.size := by have := ltD;(try simp at this);omega
   have neGE : bG ≠ w15.heap.size := by have := ltG;(try simp at this);omega
   have lwE : w.heap.size ≤ w15.heap.size := by have := hbw.size;(try simp at this);omega
   replace oK := oK.stay hn;replace ltK := oK.lt;replace oA := oA.stay hn;replace ltA := oA.lt;replace oB := oB.stay hn;replace ltB := oB.lt;replace oX := oX.stay hn;replace ltX := oX.lt;replace oY := oY.stay hn;replace ltY := oY.lt;replace oD := oD.stay hn;replace ltD := oD.lt;replace oG := oG.stay hn;replace ltG := oG.lt;replace hA := hA.below hn;replace hB := hB.below hn;replace hX := hX.below hn;replace hY := hY.below hn;replace hD := hD.below hn;replace hG := hG.below hn;replace hE := hE.below hn;replace hbw := hbw.step hn (Nat.le_refl _);clear hn;have ltE := oE.lt;obtain ⟨Xc0,Xc1,Xc2⟩ := oX.three;obtain ⟨Xk0,Xk1,Xk2⟩ := oX.frozen3;obtain ⟨Kc0,Kc1,Kc2⟩ := oK.three;obtain ⟨Kk0,Kk1,Kk2⟩ := oK.frozen3;obtain ⟨Yc0,Yc1,Yc2⟩ := oY.three;obtain ⟨Yk0,Yk1,Yk2⟩ := oY.frozen3;go_wp2_with fail
   refine (rput_2 _ _ ps2 qs2 r2 t2 v H4H.out _ hX.val hY.val).mono ?_;rintro e w16 ⟨pF,qF,rF,xF,aF,nF,cF,rfl,hF,hb⟩;clear Xc0 Xc1 Xc2 Xk0 Xk1 Xk2;clear Kc0 Kc1 Kc2 Kk0 Kk1 Kk2;clear Yc0 Yc1 Yc2 Yk0 Yk1 Yk2;replace oK := oK.stay hb;replace ltK := oK.lt;replace oA := oA.stay hb;replace ltA := oA.lt;replace oB := oB.stay hb;replace ltB := oB.lt;replace oX := oX.stay hb;replace ltX := oX.lt;replace oY := oY.stay hb;replace ltY := oY.lt;replace oD := oD.stay hb;replace ltD := oD.lt;replace oG := oG.stay hb;replace ltG := oG.lt;replace oE := oE.stay hb;replace ltE := oE.lt;replace hA := hA.below hb;replace hB := hB.below hb;replace hX := hX.below hb;replace hY := hY.below hb;replace hD := hD.below hb;replace hG := hG.below hb;replace hE := hE.below hb;replace hbw := hbw.step hb (Nat.le_refl _);clear hb;have hn := below_new w16 (.cells #[.slice pF qF rF,.bool xF,.slice aF nF cF] 41 (0,0));have oF := Blk.new w16 41 #[.slice pF qF rF,.bool xF,.slice aF nF cF];have neKF : w.heap.size ≠ w16.heap.size := by have := ltK;(try simp at this);omega
   have neAF : w4.heap.size ≠ w16.heap.size := by have := ltA;(try simp at this);omega
   have neBF : w5.heap.size ≠ w16.heap.size := by have := ltB;(try simp at this);omega
   have neXF : w6.heap.size ≠ w16.heap.size := by have := ltX;(try simp at this);omega
   have neYF : w7.heap.size ≠ w16.heap.size := by have := ltY;(try simp at this);omega
   have neDF : bD ≠ w16.heap.size := by have := ltD;(try simp at this);omega
   have neGF : bG ≠ w16.heap.size := by have := ltG;(try simp at this);omega
   have neEF : w15.heap.size ≠ w16.heap.size := by have := ltE;(try simp at this);omega
   have lwF : w.heap.size ≤ w16.heap.size := by have := hbw.size;(try simp at this);omega
   replace oK := oK.stay hn;replace ltK := oK.lt;replace oA := oA.stay hn;replace ltA := oA.lt;replace oB := oB.stay hn;replace ltB := oB.lt;replace oX := oX.stay hn;replace ltX := oX.lt;replace oY := oY.stay hn;replace ltY := oY.lt;replace oD := oD.stay hn;replace ltD := oD.lt;replace oG := oG.stay hn;replace ltG := oG.lt;replace oE := oE.stay hn;replace ltE := oE.lt;replace hA := hA.below hn;replace hB := hB.below hn;replace hX := hX.below hn;replace hY := hY.below hn;replace hD := hD.below hn;replace hG := hG.below hn;replace hE := hE.below hn;replace hF := hF.below hn;replace hbw := hbw.step hn (Nat.le_refl _);clear hn;have ltF := oF.lt;obtain ⟨Dc0,Dc1,Dc2⟩ := oD.three;obtain ⟨Dk0,Dk1,Dk2⟩ := oD.frozen3;obtain ⟨Gc0,Gc1,Gc2⟩ := oG.three;obtain ⟨Gk0,Gk1,Gk2⟩ := oG.frozen3;go_wp2_with fail
   refine (same_yes3 _ _ u3 j3 k3 _ hD hG (HTB.out.below hbw)).mono ?_;rintro e w17 ⟨rfl,hb⟩;clear Dc0 Dc1 Dc2 Dk0 Dk1 Dk2;clear Gc0 Gc1 Gc2 Gk0 Gk1 Gk2;replace oK := oK.stay hb;replace ltK := oK.lt;replace oA := oA.stay hb;replace ltA := oA.lt;replace oB := oB.stay hb;replace ltB := oB.lt;replace oX := oX.stay hb;replace ltX := oX.lt;replace oY := oY.stay hb;replace ltY := oY.lt;replace oD := oD.stay hb;replace ltD := oD.lt;replace oG := oG.stay hb;replace ltG := oG.lt;replace oE := oE.stay hb;replace ltE := oE.lt;replace oF := oF.stay hb;replace ltF := oF.lt;replace hA := hA.below hb;replace hB := hB.below hb;replace hX := hX.below hb;replace hY := hY.below hb;replace hD := hD.below hb;replace hG := hG.below hb;replace hE := hE.below hb;replace hF := hF.below hb;replace hbw := hbw.step hb (Nat.le_refl _);clear hb;obtain ⟨Ec0,Ec1,Ec2⟩ := oE.three;obtain ⟨Ek0,Ek1,Ek2⟩ := oE.frozen3;obtain ⟨Fc0,Fc1,Fc2⟩ := oF.three;obtain ⟨Fk0,Fk1,Fk2⟩ := oF.frozen3;go_wp2_with fail
   refine (same_yes3 _ _ u4 j4 k4 _ hE.val hF.val (HTB.out.below hbw)).mono ?_;rintro e w18 ⟨rfl,hb⟩;clear Ec0 Ec1 Ec2 Ek0 Ek1 Ek2;clear Fc0 Fc1 Fc2 Fk0 Fk1 Fk2;replace oK := oK.stay hb;replace ltK := oK.lt;replace oA := oA.stay hb;replace ltA := oA.lt;replace oB := oB.stay hb;replace ltB := oB.lt;replace oX := oX.stay hb;replace ltX := oX.lt;replace oY := oY.stay hb;replace ltY := oY.lt;replace oD := oD.stay hb;replace ltD := oD.lt;replace oG := oG.stay hb;replace ltG := oG.lt;replace oE := oE.stay hb;replace ltE := oE.lt;replace oF := oF.stay hb;replace ltF := oF.lt;replace hA := hA.below hb;replace hB := hB.below hb;replace hX := hX.below hb;replace hY := hY.below hb;replace hD := hD.below hb;replace hG := hG.below hb;replace hE := hE.below hb;replace hF := hF.below hb;replace hbw := hbw.step hb (Nat.le_refl _);clear hb;go_wp2;go_ret
   exact ⟨rfl,hbw⟩
end Go.Proofs.YteefniagebcagaaGreatDoor
