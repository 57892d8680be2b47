/- Joined: LinZ, LinFw, LinTm, LinSR: words and contracts; no statement of the seat is proved here. -/
import Derived.Test.YteefniagebcagaaGreatDoorJoin24Reckons
import Derived.Test.YteefniagebcagaaGreatDoorJoin23Reckons
import Derived.Laws.StructEq
namespace Go.Proofs.YteefniagebcagaaGreatDoor
set_option linter.unusedVariables false
theorem text_good {S : ByteArray} {z : Int} (h : TextOf S z) : Good (bs S) ∧ pval (bs S) = z := by
 obtain ⟨neg,ds,hn,hd,hz',rfl,hb⟩ := h;rw [hb];by_cases h0 : ds.length = 0
 ·
  obtain rfl := List.eq_nil_of_length_eq_zero h0;obtain rfl := hz' rfl;refine ⟨?_,by decide⟩
  show GoodB false [48]
  exact ⟨⟨by decide,by decide,by decide⟩,fun h => by cases h.1⟩
 ·
  have hlast := hn.last (by omega)
  have hl9 := hd.getD (by decide) (ds.length - 1)
  have hbl : 0 < (byt ds).reverse.length := by rw [List.length_reverse,byt_length];omega
  have hall : ∀ i,i < (byt ds).reverse.length → 48 ≤ (byt ds).reverse.getD i 0 ∧ (byt ds).reverse.getD i 0 ≤ 57 := by
   intro i hi;have hi' := hi;rw [List.length_reverse,byt_length] at hi';have e : (byt ds).reverse.getD i 0 = 48 + ds.getD (ds.length - 1 - i) 0 := by
    rw [← byt_getD ds _ (by omega),List.getD_eq_getElem?_getD,List.getD_eq_getElem?_getD,List.getElem?_reverse (by rw [byt_length];omega),byt_length]
   have := hd.getD (by decide) (ds.length - 1 - i)
   omega
  have hfirst : (byt ds).reverse.getD 0 0 = 48 + ds.getD (ds.length - 1) 0 := by
   rw [← byt_getD ds _ (by omega),List.getD_eq_getElem?_getD,List.getD_eq_getElem?_getD,List.getElem?_reverse (by rw [byt_length];omega),byt_length]
   rfl
  have hpl : Plain (byt ds).reverse := ⟨hbl,fun k => by omega,hall⟩
  have hng : GoodB neg (byt ds).reverse := by
   refine ⟨hpl,?_⟩;intro k;have h48 : (byt ds).reverse.getD 0 0 = 48 := by rw [k.2];rfl
   omega
  have hdv : dec (byt ds).reverse = val 10 ds := by
   rw [dec_val];unfold digs byt;rw [List.reverse_reverse,List.map_map];have e : ((fun c => c - 48) ∘ fun d => 48 + d) = (id : Nat → Nat) := by funext d;simp
   rw [e,List.map_id]
  have hshow : showB neg ds = (if neg = true then [45] else []) ++ (byt ds).reverse := if_neg h0
  rw [hshow];cases neg with
  | true =>
   have e1 : pneg ([45] ++ (byt ds).reverse) = true := rfl;have e2 : pbody ([45] ++ (byt ds).reverse) = (byt ds).reverse := by unfold pbody;rw [if_pos e1];rfl
   refine ⟨?_,?_⟩
   ·
    show GoodB (pneg _) (pbody _)
    simp only [if_true,e1,e2];exact hng
   ·
    show pval _ = _
    unfold pval;simp only [if_true,e1,e2,hdv]
  | false =>
   have e1 : pneg (byt ds).reverse = false := by unfold pneg;rw [hfirst,beq_eq_false_iff_ne];omega
   have e2 : pbody (byt ds).reverse = (byt ds).reverse := by unfold pbody;rw [e1];rfl
   refine ⟨?_,?_⟩
   ·
    show GoodB (pneg _) (pbody _)
    simp only [Bool.false_eq_true,if_false,List.nil_append,e1,e2];exact hng
   · unfold pval;simp only [Bool.false_eq_true,if_false,List.nil_append,e1,e2,hdv]
theorem remP_at {a : List (Nat × Int)} {v : Int} (h : Rise a) (ht : there a v) : ∃ l1 p l2,a = l1 ++ p :: l2 ∧ (p.1 : Int) = v ∧ remP a v = l1 ++ l2 ∧ coefZ a v = p.2 := by
 obtain ⟨p,hp,hv⟩ := ht;obtain ⟨h1,h2,h3⟩ := ahead_there h hp hv;refine ⟨a.take (ahead a v),p,a.drop (ahead a v + 1),?_,hv,if_pos (thereB_iff.2 ⟨p,hp,hv⟩),h3⟩;rw [List.getD_eq_getElem?_getD,List.getElem?_eq_getElem h1] at h2;simp only [Option.getD_some] at h2;rw [← h2,← List.drop_eq_getElem_cons h1,List.take_append_drop]
theorem rem_out {l1 l2 : List (Nat × Int)} {p : Nat × Int} (h : Rise (l1 ++ p :: l2)) : (∀ q ∈ l1,q.1 ≠ p.1) ∧ ∀ q ∈ l2,q.1 ≠ p.1 := by
 unfold Rise at h;rw [List.pairwise_append] at h;obtain ⟨_,h2,h3⟩ := h;refine ⟨fun q hq => ?_,fun q hq => ?_⟩
 · have := h3 q hq p (List.mem_cons_self ..);omega
 · have := (List.pairwise_cons.1 h2).1 q hq;omega
open Go.RowKit
def cutV (v : Int) : Int := if 4096 ≤ v then 4095 else v
def fewK (ms : List (Int × ByteArray)) : List (Int × ByteArray) := ms.map fun p => (cutV p.1, cutS p.2)
def fewM (ms : List (Int × ByteArray)) : List (Int × ByteArray) := fewK (ms.take 12)
theorem fewK_take {ms : List (Int × ByteArray)} {k : Nat} {v : Int} {S : ByteArray} (hk : k < ms.length) (hp : ms.getD k (0,⟨#[]⟩) = (v,S)) : cM (fewK (ms.take (k + 1))) = cM (fewK (ms.take k)) ++ [.int .i64 (cutV v),.string (cutS S)] := by
 unfold fewK;rw [List.take_succ_eq_append_getElem hk,List.map_append,cM_append];rw [List.getD_eq_getElem?_getD,List.getElem?_eq_getElem hk] at hp;simp at hp;rw [hp];rfl
theorem fewM_len (ms : List (Int × ByteArray)) : (fewM ms).length ≤ 12 := by unfold fewM fewK;rw [List.length_map,List.length_take];omega
theorem fewM_size (ms : List (Int × ByteArray)) : ∀ p ∈ fewM ms,p.2.size ≤ 400 ∧ p.1 < 4096 := by
 intro p hp;unfold fewM fewK at hp;obtain ⟨q,_,rfl⟩ := List.mem_map.1 hp;refine ⟨cutS_size q.2,?_⟩;unfold cutV;simp only [];split <;> omega
set_option maxRecDepth 20000 in
set_option maxHeartbeats 8000000 in
theorem few_any (aX : Option Addr) (nX cX : Nat) (ms : List (Int × ByteArray)) (w : World) (hm : MArr w aX ms) (hl : ms.length = nX) (hx : nX ≤ maxLen) :
  Calls Tryz.prog 10 #[.slice aX nX cX] w fun e w' => ∃ a n c,e = .returned (.slice a n c) ∧ (fewM ms).length = n ∧ MArr w' a (fewM ms) ∧ Below w.heap.size w w' := by
 have HM : Hid (MArr w aX ms) := hm;have HLN : Hid (ms.length = nX) := hl;have hn : (nX : Int) ≤ 9223372036854775807 := by unfold maxLen at hx;omega
 clear hm hl hx;have hbw := Below.refl w.heap.size w;go_enter Tryz.func10,Tryz.ntmps10;go_wp2;go_loopw [3,4] (fun pl i wl => ∃ (k : Nat),k ≤ nX ∧ k ≤ 12 ∧ i = .int .i64 k ∧ LstG 2 103 w.heap.size wl pl k (cM (fewK (ms.take k))) ∧ Below w.heap.size w wl) (fun _ i _ => nX - (intOf i).toNat)
 case atStart => exact ⟨0,Nat.zero_le _,Nat.zero_le _,rfl,LstG.nil _ _ _ _,hbw⟩
 case round =>
  rename World => wl
  clear hbw;obtain ⟨k,hk,hk2,hi9,hL,hbw⟩ := hrel;subst hi9;by_cases h0 : k < nX ∧ k < 12
  ·
   obtain ⟨h0,h1⟩ := h0;have h1i : (k : Int) < 12 := by omega
   obtain ⟨gE,oE,had,k1,k2⟩ := HM.out.at k (by rw [HLN.out];exact h0)
   subst had;obtain ⟨v,hpv⟩ : ∃ x9,x9 = (ms.getD k (0,⟨#[]⟩)).1 := ⟨_,rfl⟩;obtain ⟨T,hps⟩ : ∃ x9,x9 = (ms.getD k (0,⟨#[]⟩)).2 := ⟨_,rfl⟩;rw [← hpv] at k1;rw [← hps] at k2;have HPV : Hid (ms.getD k (0,⟨#[]⟩) = (v,T)) := by show _ = _;rw [hpv,hps]
   clear hpv hps;have A0 := (hbw.cell (p := ⟨gE,oE + k * 2,none⟩) (World.block_lt_of_cell? w _ k1)).trans k1;have A1 := (hbw.cell (p := ⟨gE,oE + k * 2 + 1,none⟩) (World.block_lt_of_cell? w _ k2)).trans k2;clear k1 k2;have HTK := fewK_take (by rw [HLN.out];exact h0) HPV.out
   by_cases hT : 400 < T.size
   ·
    by_cases hV : 4096 ≤ v
    ·
     have hT0 : (400 : Int) < T.size := by omega
     have hT1 : (400 : Int) ≤ T.size := by omega
     have hT2 : 400 ≤ T.size := by omega
     have HCT : Hid (cutS T = T.extract 0 400) := if_pos hT;clear hT;have HCV : Hid (cutV v = 4095) := if_pos hV;rw [HCT.out,HCV.out] at HTK;have hb3 := (below_new wl (.cells #[.int .i64 4095,.string (T.extract 0 400)] 103 (0,0))).step (below_new (wl.alloc (.cells #[.int .i64 4095,.string (T.extract 0 400)] 103 (0,0))) (.cells #[.int .i64 4095,.string (T.extract 0 400)] 103 (0,0))) (Nat.le_refl _);have oB := Blk.new (wl.alloc (.cells #[.int .i64 4095,.string (T.extract 0 400)] 103 (0,0))) 103 #[.int .i64 4095,.string (T.extract 0 400)];simp only [World.size_alloc] at oB;have hL3 := hL.below hb3;have hbw3 := hbw.step hb3 (Nat.le_refl _);go_wp2_with (at_builtin;refine wpList_append_g rfl _ _ 22 rfl 2 w.heap.size 103 (.agg #[.int .i64 0,.string ⟨#[]⟩]) 24 Tryz.und_monos Tryz.info_mono (by decide) rfl (by decide) (nuM _ _) (by decide) _ _ _ rfl hL3 ⟨wl.heap.size + 1,0,none⟩ 1 1 [.int .i64 4095,.string (T.extract 0 400)] rfl rfl (by intro j u hj;match j,hj with | 0,hj => (simp at hj;subst hj;exact oB.cell 0) | 1,hj => (simp at hj;subst hj;exact oB.cell 1) | j + 2,hj => (simp at hj)) (by intro u hu;simp at hu;rcases hu with rfl | rfl <;> rfl) (nuM _ _) (Or.inl (by decide)) (by omega) hbw3.size ?_;intro v8 w8 hL8 hA8 hn8)
     go_roundw
     case rel => exact ⟨k + 1,by omega,by omega,by go_num,by rw [HTK];exact hL8,hbw3.trans hA8.bel⟩
     case measure => simp [intOf];omega
    ·
     have hT0 : (400 : Int) < T.size := by omega
     have hT1 : (400 : Int) ≤ T.size := by omega
     have hT2 : 400 ≤ T.size := by omega
     have HCT : Hid (cutS T = T.extract 0 400) := if_pos hT;clear hT;have HCV : Hid (cutV v = v) := if_neg hV;rw [HCT.out,HCV.out] at HTK;have hb3 := (below_new wl (.cells #[.int .i64 v,.string (T.extract 0 400)] 103 (0,0))).step (below_new (wl.alloc (.cells #[.int .i64 v,.string (T.extract 0 400)] 103 (0,0))) (.cells #[.int .i64 v,.string (T.extract 0 400)] 103 (0,0))) (Nat.le_refl _);have oB := Blk.new (wl.alloc (.cells #[.int .i64 v,.string (T.extract 0 400)] 103 (0,0))) 103 #[.int .i64 v,.string (T.extract 0 400)];simp only [World.size_alloc] at oB;have hL3 := hL.below hb3;have hbw3 := hbw.step hb3 (Nat.le_refl _);go_wp2_with (at_builtin;refine wpList_append_g rfl _ _ 22 rfl 2 w.heap.size 103 (.agg #[.int .i64 0,.string ⟨#[]⟩]) 24 Tryz.und_monos Tryz.info_mono (by decide) rfl (by decide) (nuM _ _) (by decide) _ _ _ rfl hL3 ⟨wl.heap.size + 1,0,none⟩ 1 1 [.int .i64 v,.string (T.extract 0 400)] rfl rfl (by intro j u hj;match j,hj with | 0,hj => (simp at hj;subst hj;exact oB.cell 0) | 1,hj => (simp at hj;subst hj;exact oB.cell 1) | j + 2,hj => (simp at hj)) (by intro u hu;simp at hu;rcases hu with rfl | rfl <;> rfl) (nuM _ _) (Or.inl (by decide)) (by omega) hbw3.size ?_;intro v8 w8 hL8 hA8 hn8)
     go_roundw
     case rel => exact ⟨k + 1,by omega,by omega,by go_num,by rw [HTK];exact hL8,hbw3.trans hA8.bel⟩
     case measure => simp [intOf];omega
   ·
    by_cases hV : 4096 ≤ v
    ·
     have hT0 : ¬ (400 : Int) < T.size := by omega
     have HCT : Hid (cutS T = T) := if_neg hT;clear hT;have HCV : Hid (cutV v = 4095) := if_pos hV;rw [HCT.out,HCV.out] at HTK;have hb3 := (below_new wl (.cells #[.int .i64 4095,.string T] 103 (0,0))).step (below_new (wl.alloc (.cells #[.int .i64 4095,.string T] 103 (0,0))) (.cells #[.int .i64 4095,.string T] 103 (0,0))) (Nat.le_refl _);have oB := Blk.new (wl.alloc (.cells #[.int .i64 4095,.string T] 103 (0,0))) 103 #[.int .i64 4095,.string T];simp only [World.size_alloc] at oB;have hL3 := hL.below hb3;have hbw3 := hbw.step hb3 (Nat.le_refl _);go_wp2_with (at_builtin;refine wpList_append_g rfl _ _ 22 rfl 2 w.heap.size 103 (.agg #[.int .i64 0,.string ⟨#[]⟩]) 24 Tryz.und_monos Tryz.info_mono (by decide) rfl (by decide) (nuM _ _) (by decide) _ _ _ rfl hL3 ⟨wl.heap.size + 1,0,none⟩ 1 1 [.int .i64 4095,.string T] rfl rfl (by intro j u hj;match j,hj with | 0,hj => (simp at hj;subst hj;exact oB.cell 0) | 1,hj => (simp at hj;subst hj;exact oB.cell 1) | j + 2,hj => (simp at hj)) (by intro u hu;simp at hu;rcases hu with rfl | rfl <;> rfl) (nuM _ _) (Or.inl (by decide)) (by omega) hbw3.size ?_;intro v8 w8 hL8 hA8 hn8)
     go_roundw
     case rel => exact ⟨k + 1,by omega,by omega,by go_num,by rw [HTK];exact hL8,hbw3.trans hA8.bel⟩
     case measure => simp [intOf];omega
    ·
     have hT0 : ¬ (400 : Int) < T.size := by omega
     have HCT : Hid (cutS T = T) := if_neg hT;clear hT;have HCV : Hid (cutV v = v) := if_neg hV;rw [HCT.out,HCV.out] at HTK;have hb3 := (below_new wl (.cells #[.int .i64 v,.string T] 103 (0,0))).step (below_new (wl.alloc (.cells #[.int .i64 v,.string T] 103 (0,0))) (.cells #[.int .i64 v,.string T] 103 (0,0))) (Nat.le_refl _);have oB := Blk.new (wl.alloc (.cells #[.int .i64 v,.string T] 103 (0,0))) 103 #[.int .i64 v,.string T];simp only [World.size_alloc] at oB;have hL3 := hL.below hb3;have hbw3 := hbw.step hb3 (Nat.le_refl _);go_wp2_with (at_builtin;refine wpList_append_g rfl _ _ 22 rfl 2 w.heap.size 103 (.agg #[.int .i64 0,.string ⟨#[]⟩]) 24 Tryz.und_monos Tryz.info_mono (by decide) rfl (by decide) (nuM _ _) (by decide) _ _ _ rfl hL3 ⟨wl.heap.size + 1,0,none⟩ 1 1 [.int .i64 v,.string T] rfl rfl (by intro j u hj;match j,hj with | 0,hj => (simp at hj;subst hj;exact oB.cell 0) | 1,hj => (simp at hj;subst hj;exact oB.cell 1) | j + 2,hj => (simp at hj)) (by intro u hu;simp at hu;rcases hu with rfl | rfl <;> rfl) (nuM _ _) (Or.inl (by decide)) (by omega) hbw3.size ?_;intro v8 w8 hL8 hA8 hn8)
     go_roundw
     case rel => exact ⟨k + 1,by omega,by omega,by go_num,by rw [HTK];exact hL8,hbw3.trans hA8.bel⟩
     case measure => simp [intOf];omega
  ·
   have HTK : Hid (ms.take k = ms.take 12) := by
    by_cases h : k < nX
    ·
     have : k = 12 := by omega
     rw [this];exact rfl
    · exact (List.take_of_length_le (by rw [HLN.out];omega)).trans (List.take_of_length_le (by rw [HLN.out];omega)).symm
   rw [HTK.out] at hL;obtain ⟨aL,cL,rfl,hlen,hMA⟩ := MArr.of hL;have hcase : (k : Int) < nX ∧ ¬ (k : Int) < 12 ∨ ¬ (k : Int) < nX := by omega
   clear h0 hL;rcases hcase with ⟨h0,h1⟩ | h0
   all_goals
    go_wp2;go_ret
    first | exact ⟨aL,k,cL,rfl,hlen,hMA,hbw⟩ | exact ⟨aL,k,⟨cL,rfl⟩,hlen,hMA,hbw⟩
def xP (v z : Int) : List (Nat × Int) := if v < 0 ∨ z = 0 then [] else [(v.toNat, z)]
def xR (v z : Int) : Int := if v < 0 then z else 0
def Tm : List (Int × ByteArray) → List (Nat × Int) → Int → List (Nat × Int) → Int → Prop
  | [], a, r, b, s => b = a ∧ s = r
  | p :: ms, a, r, b, s => pcd p.2 = 0 ∧ tAddOk a (xP p.1 (pzd p.2)) r (xR p.1 (pzd p.2)) ∧ Tm ms (addP a (xP p.1 (pzd p.2))) (r + xR p.1 (pzd p.2)) b s
theorem Tm.drop {ms : List (Int × ByteArray)} {k : Nat} {v : Int} {T : ByteArray} (hk : k < ms.length) (hp : ms.getD k (0,⟨#[]⟩) = (v,T)) (a : List (Nat × Int)) (r : Int) (b : List (Nat × Int)) (s : Int) :
  Tm (ms.drop k) a r b s ↔ pcd T = 0 ∧ tAddOk a (xP v (pzd T)) r (xR v (pzd T)) ∧ Tm (ms.drop (k + 1)) (addP a (xP v (pzd T))) (r + xR v (pzd T)) b s := by
 have e : ms[k] = (v,T) := by rw [List.getD_eq_getElem?_getD,List.getElem?_eq_getElem hk] at hp;exact hp
 rw [List.drop_eq_getElem_cons hk,e,Tm]
theorem var_h (v : Int) (w : World) (h0 : 0 ≤ v) (h1 : v < 4096) :
  Calls Tryz.prog 27 #[.int .i64 v] w fun e w' => ∃ p q r x a n c,e = .returned (.tuple #[.agg #[.slice p q r,.bool x,.slice a n c],.int .i64 0]) ∧ TP w' p q r x a n c [(v.toNat,1)] 0 ∧ Below w.heap.size w w' := by
 refine (lvar_any v w).mono ?_;rintro e w' ⟨ao,n,cap,x,a,m,c,ps,rfl,h,rfl,hb⟩;rw [if_pos ⟨h0,h1⟩] at h ⊢;exact ⟨_,_,_,_,_,_,_,rfl,h,hb⟩
theorem scale_h (vX vB : Value) (v z : Int) (w : World) (h0 : 0 ≤ v) (hX : TermR w vX [(v.toNat,1)] 0) (hB : AInt w vB z) (hz9 : z.natAbs < lim) :
  Calls Tryz.prog 23 #[vX,vB] w fun e w' => ∃ p q r x a n c,e = .returned (.tuple #[.agg #[.slice p q r,.bool x,.slice a n c],.int .i64 0]) ∧ TP w' p q r x a n c (xP v z) 0 ∧ Below w.heap.size w w' := by
 refine (lscale_any vX vB [(v.toNat,1)] 0 z w hX hB).mono ?_;rintro e w' ⟨u,co,rfl,hr,hb⟩;rcases hr with ⟨h1,rfl,h2⟩ | ⟨h1,h3,rfl,h2⟩ | ⟨h1,h3,_,_⟩
 · obtain ⟨p,q,r,x,a,n,c,rfl,h⟩ := h2;refine ⟨p,q,r,x,a,n,c,rfl,?_,hb⟩;unfold xP;rw [if_pos (Or.inr h1)];exact h
 ·
  obtain ⟨p,q,r,x,a,n,c,rfl,h⟩ := h2;refine ⟨p,q,r,x,a,n,c,rfl,?_,hb⟩;unfold xP;rw [if_neg (fun k => k.elim (fun k => by omega) h1)]
  unfold mulP at h;simpa using h
 ·
  refine absurd ⟨?_,?_⟩ h3
  · have := word_lim;simp;omega
  · intro p hp;simp at hp;subst hp;simpa using hz9
set_option maxRecDepth 20000 in
set_option maxHeartbeats 16000000 in
theorem term_any (aX : Option Addr) (nX cX : Nat) (ms : List (Int × ByteArray)) (w : World) (hm : MArr w aX ms) (hl : ms.length = nX) (hx : nX ≤ maxLen) (hs : ∀ p ∈ ms,p.2.size ≤ 400 ∧ p.1 < 4096) :
  Calls Tryz.prog 11 #[.slice aX nX cX] w fun e w' => ∃ v ps r ok,e = .returned (.tuple #[v,.bool ok]) ∧ TermR w' v ps r ∧ Hid ((ok = true → Tm ms [] 0 ps r) ∧ (ok = false → ∀ b s,¬ Tm ms [] 0 b s)) ∧ Below w.heap.size w w' := by
 have oR := ((Blk.new w 33 #[.slice none 0 0,.bool false,.slice none 0 0]).alloc (.cells #[.slice none 0 0,.bool false,.slice none 0 0] 33 (0,0)));have oA := (Blk.new (w.alloc (.cells #[.slice none 0 0,.bool false,.slice none 0 0] 33 (0,0))) 33 #[.slice none 0 0,.bool false,.slice none 0 0]);simp only [World.size_alloc] at oA;have hbw : Below w.heap.size w ((w.alloc (.cells #[.slice none 0 0,.bool false,.slice none 0 0] 33 (0,0))).alloc (.cells #[.slice none 0 0,.bool false,.slice none 0 0] 33 (0,0))) := by go_grown
 have ltR := oR.lt;have lwR : w.heap.size ≤ w.heap.size := by omega
 have ltA := oA.lt;have lwA : w.heap.size ≤ w.heap.size + 1 := by omega
 have HM : Hid (MArr w aX ms) := hm;have HLN : Hid (ms.length = nX) := hl;have HSZ : Hid (∀ p ∈ ms,p.2.size ≤ 400 ∧ p.1 < 4096) := hs;have hn : (nX : Int) ≤ 9223372036854775807 := by unfold maxLen at hx;omega
 clear hm hl hs hx;go_enter Tryz.func11,Tryz.ntmps11;go_wp2;go_loopw [5] (fun i wl => ∃ (k : Nat) (ps : List (Nat × Int)) (r : Int) (pA : Option Addr) (qA rA : Nat) (xA : Bool) (aA : Option Addr) (nA cA : Nat),k ≤ nX ∧ i = .int .i64 k ∧ Blk 33 wl w.heap.size #[.slice none 0 0,.bool false,.slice none 0 0] ∧ Blk 33 wl (w.heap.size + 1) #[.slice pA qA rA,.bool xA,.slice aA nA cA] ∧ TP wl pA qA rA xA aA nA cA ps r ∧ Hid (∀ b s,Tm (ms.drop k) ps r b s ↔ Tm ms [] 0 b s) ∧ Below w.heap.size w wl) (fun i _ => nX - (intOf i).toNat)
 case atStart => exact ⟨0,[],0,none,0,0,false,none,0,0,Nat.zero_le _,rfl,oR,oA,TP.zero _,fun b s => Iff.rfl,hbw⟩
 case round =>
  rename World => wl
  clear oR oA hbw ltR ltA;obtain ⟨k,ps,r,pA,qA,rA,xA,aA,nA,cA,hk,hi9,oR,oA,hA,HI,hbw⟩ := hrel;subst hi9;have ltR := oR.lt;have ltA := oA.lt;by_cases h0 : k < nX
  ·
   obtain ⟨gE,oE,had,k1,k2⟩ := HM.out.at k (by rw [HLN.out];exact h0)
   subst had;obtain ⟨v,hpv⟩ : ∃ x9,x9 = (ms.getD k (0,⟨#[]⟩)).1 := ⟨_,rfl⟩;obtain ⟨T,hps⟩ : ∃ x9,x9 = (ms.getD k (0,⟨#[]⟩)).2 := ⟨_,rfl⟩;rw [← hpv] at k1;rw [← hps] at k2;have HPV : Hid (ms.getD k (0,⟨#[]⟩) = (v,T)) := by show _ = _;rw [hpv,hps]
   clear hpv hps;have K1 : Hid (w.cell? ⟨gE,oE + k * 2,none⟩ = some (.int .i64 v)) := k1;have A1 := (hbw.cell (p := ⟨gE,oE + k * 2 + 1,none⟩) (World.block_lt_of_cell? w _ k2)).trans k2;clear k1 k2;have hmem : (v,T) ∈ ms := by have h := HPV.out;rw [List.getD_eq_getElem?_getD,List.getElem?_eq_getElem (by rw [HLN.out];exact h0)] at h;simp at h;rw [← h];exact List.getElem_mem _
   have hsz : T.size ≤ 10000 := by have := (HSZ.out _ hmem).1;simp at this;omega
   have hvm : v < 4096 := (HSZ.out _ hmem).2;clear hmem;have HST : Hid (∀ b s,Tm ms [] 0 b s ↔ pcd T = 0 ∧ tAddOk ps (xP v (pzd T)) r (xR v (pzd T)) ∧ Tm (ms.drop (k + 1)) (addP ps (xP v (pzd T))) (r + xR v (pzd T)) b s) := fun b s => (HI.out b s).symm.trans (Tm.drop (by rw [HLN.out];exact h0) HPV.out ps r b s)
   go_wp2_with fail
   refine (parse_h T _ hsz).mono ?_;rintro e w1 ⟨xP9,aP,nP,cP,rfl,hP,hb⟩;replace oR := oR.stay hb;replace ltR := oR.lt;replace oA := oA.stay hb;replace ltA := oA.lt;replace hA := hA.below hb;replace hbw := hbw.step hb (Nat.le_refl _);clear hb;clear A1;have hn := below_new w1 (.cells #[.bool xP9,.slice aP nP cP] 31 (0,0));have oP := Blk.new w1 31 #[.bool xP9,.slice aP nP cP];have neRP : w.heap.size ≠ w1.heap.size := by have := ltR;(try simp at this);omega
   have neAP : w.heap.size + 1 ≠ w1.heap.size := by have := ltA;(try simp at this);omega
   have lwP : w.heap.size ≤ w1.heap.size := by have := hbw.size;(try simp at this);omega
   replace oR := oR.stay hn;replace ltR := oR.lt;replace oA := oA.stay hn;replace ltA := oA.lt;replace hA := hA.below hn;replace hP := hP.below hn;replace hbw := hbw.step hn (Nat.le_refl _);clear hn;have ltP := oP.lt;obtain ⟨co,hco⟩ : ∃ co,co = pcd T := ⟨_,rfl⟩;obtain ⟨z,hzz⟩ : ∃ z,z = pzd T := ⟨_,rfl⟩;rw [← hco] at HST ⊢;rw [← hzz] at HST hP;have HZL : Hid (z.natAbs < lim) := by show _ < _;rw [hzz];exact pzd_lim T
   clear hco hzz;by_cases hc : co = 0
   ·
    subst hc;obtain ⟨Pc0,Pc1,Pk0,Pk1⟩ := oP.two;go_wp2_with fail
    refine (lnum_any _ z _ hP).mono ?_;rintro e w2 ⟨pX,qX,rX,xX,aX,mX,cX,rfl,hX,hb⟩;clear Pc0 Pc1 Pk0 Pk1;replace oR := oR.stay hb;replace ltR := oR.lt;replace oA := oA.stay hb;replace ltA := oA.lt;replace oP := oP.stay hb;replace ltP := oP.lt;replace hA := hA.below hb;replace hP := hP.below hb;replace hbw := hbw.step hb (Nat.le_refl _);clear hb;have hn := below_new w2 (.cells #[.slice pX qX rX,.bool xX,.slice aX mX cX] 33 (0,0));have oX := Blk.new w2 33 #[.slice pX qX rX,.bool xX,.slice aX mX cX];have neRX : w.heap.size ≠ w2.heap.size := by have := ltR;(try simp at this);omega
    have neAX : w.heap.size + 1 ≠ w2.heap.size := by have := ltA;(try simp at this);omega
    have nePX : w1.heap.size ≠ w2.heap.size := by have := ltP;(try simp at this);omega
    have lwX : w.heap.size ≤ w2.heap.size := by have := hbw.size;(try simp at this);omega
    replace oR := oR.stay hn;replace ltR := oR.lt;replace oA := oA.stay hn;replace ltA := oA.lt;replace oP := oP.stay hn;replace ltP := oP.lt;replace hA := hA.below hn;replace hP := hP.below hn;replace hX := hX.below hn;replace hbw := hbw.step hn (Nat.le_refl _);clear hn;have ltX := oX.lt;by_cases hv : 0 ≤ v
    ·
     have hv1 : ¬ v < 0 := by omega
     have HXR : Hid (xR v z = 0) := if_neg hv1;have A0 := (hbw.cell (p := ⟨gE,oE + k * 2,none⟩) (World.block_lt_of_cell? w _ K1.out)).trans K1.out;go_wp2_with fail
     refine (var_h v _ hv hvm).mono ?_;rintro e w3 ⟨pY,qY,rY,xY,aY,nY,cY,rfl,hY,hb⟩;replace oR := oR.stay hb;replace ltR := oR.lt;replace oA := oA.stay hb;replace ltA := oA.lt;replace oP := oP.stay hb;replace ltP := oP.lt;replace oX := oX.stay hb;replace ltX := oX.lt;replace hA := hA.below hb;replace hP := hP.below hb;replace hX := hX.below hb;replace hbw := hbw.step hb (Nat.le_refl _);clear hb;clear A0;have hn := below_new w3 (.cells #[.slice pY qY rY,.bool xY,.slice aY nY cY] 33 (0,0));have oY := Blk.new w3 33 #[.slice pY qY rY,.bool xY,.slice aY nY cY];have neRY : w.heap.size ≠ w3.heap.size := by have := ltR;(try simp at this);omega
     have neAY : w.heap.size + 1 ≠ w3.heap.size := by have := ltA;(try simp at this);omega
     have nePY : w1.heap.size ≠ w3.heap.size := by have := ltP;(try simp at this);omega
     have neXY : w2.heap.size ≠ w3.heap.size := by have := ltX;(try simp at this);omega
     have lwY : w.heap.size ≤ w3.heap.size := by have := hbw.size;(try simp at this);omega
     replace oR := oR.stay hn;replace ltR := oR.lt;replace oA := oA.stay hn;replace ltA := oA.lt;replace oP := oP.stay hn;replace ltP := oP.lt;replace oX := oX.stay hn;replace ltX := oX.lt;replace hA := hA.below hn;replace hP := hP.below hn;replace hX := hX.below hn;replace hY := hY.below hn;replace hbw := hbw.step hn (Nat.le_refl _);clear hn;have ltY := oY.lt;obtain ⟨Yc0,Yc1,Yc2⟩ := oY.three;obtain ⟨Yk0,Yk1,Yk2⟩ := oY.frozen3;obtain ⟨Pc0,Pc1,Pk0,Pk1⟩ := oP.two;go_wp2_with fail
     refine (scale_h _ _ v z _ hv hY.val hP HZL.out).mono ?_;rintro e w4 ⟨pZ,qZ,rZ,xZ,aZ,nZ,cZ,rfl,hZ,hb⟩;clear Yc0 Yc1 Yc2 Yk0 Yk1 Yk2;clear Pc0 Pc1 Pk0 Pk1;replace oR := oR.stay hb;replace ltR := oR.lt;replace oA := oA.stay hb;replace ltA := oA.lt;replace oP := oP.stay hb;replace ltP := oP.lt;replace oX := oX.stay hb;replace ltX := oX.lt;replace oY := oY.stay hb;replace ltY := oY.lt;replace hA := hA.below hb;replace hP := hP.below hb;replace hX := hX.below hb;replace hY := hY.below hb;replace hbw := hbw.step hb (Nat.le_refl _);clear hb;have hn := below_new w4 (.cells #[.slice pZ qZ rZ,.bool xZ,.slice aZ nZ cZ] 33 (0,0));have oZ := Blk.new w4 33 #[.slice pZ qZ rZ,.bool xZ,.slice aZ nZ cZ];have neRZ : w.heap.size ≠ w4.heap.size := by have := ltR;(try simp at this);omega
     have neAZ : w.heap.size + 1 ≠ w4.heap.size := by have := ltA;(try simp at this);omega
     have nePZ : w1.heap.size ≠ w4.heap.size := by have := ltP;(try simp at this);omega
     have neXZ : w2.heap.size ≠ w4.heap.size := by have := ltX;(try simp at this);omega
     have neYZ : w3.heap.size ≠ w4.heap.size := by have := ltY;(try simp at this);omega
     have lwZ : w.heap.size ≤ w4.heap.size := by have := hbw.size;(try simp at this);omega
     replace oR := oR.stay hn;replace ltR := oR.lt;replace oA := oA.stay hn;replace ltA := oA.lt;replace oP := oP.stay hn;replace ltP := oP.lt;replace oX := oX.stay hn;replace ltX := oX.lt;replace oY := oY.stay hn;replace ltY := oY.lt;replace hA := hA.below hn;replace hP := hP.below hn;replace hX := hX.below hn;replace hY := hY.below hn;replace hZ := hZ.below hn;replace hbw := hbw.step hn (Nat.le_refl _);clear hn;have ltZ := oZ.lt;obtain ⟨Xc0,Xc1,Xc2⟩ := oX.three;obtain ⟨Xk0,Xk1,Xk2⟩ := oX.frozen3;obtain ⟨Zc0,Zc1,Zc2⟩ := oZ.three;obtain ⟨Zk0,Zk1,Zk2⟩ := oZ.frozen3;have HX2 := hX;clear hX;clear Xc0 Xc1 Xc2 Xk0 Xk1 Xk2;clear Zc0 Zc1 Zc2 Zk0 Zk1 Zk2;obtain ⟨hK,hB,hO⟩ := resT (by decide) (by decide) oX hbw lwX pZ qZ rZ xZ aZ nZ cZ
     have oA2 := oA.otherS neAX.symm 0 [.slice pZ qZ rZ,.bool xZ,.slice aZ nZ cZ];have oR2 := oR.otherS neRX.symm 0 [.slice pZ qZ rZ,.bool xZ,.slice aZ nZ cZ];have hA2 := hA.keepP hK;have hZ2 := hZ.keepP hK;obtain ⟨Xc0,Xc1,Xc2⟩ := oX.three;obtain ⟨Xk0,Xk1,Xk2⟩ := oX.frozen3;obtain ⟨Zc0,Zc1,Zc2⟩ := oZ.three;obtain ⟨Zk0,Zk1,Zk2⟩ := oZ.frozen3;obtain ⟨Qc0,Qc1,Qc2⟩ := Blk.three (show Blk _ ((((w4.alloc (.cells #[.slice pZ qZ rZ,.bool xZ,.slice aZ nZ cZ] 33 (0,0))).setCell ⟨w2.heap.size,0,none⟩ (.slice pZ qZ rZ)).setCell ⟨w2.heap.size,1,none⟩ (.bool xZ)).setCell ⟨w2.heap.size,2,none⟩ (.slice aZ nZ cZ)) _ _ from oA2)
     obtain ⟨Sc0,Sc1,Sc2⟩ := Blk.three (show Blk _ ((((w4.alloc (.cells #[.slice pZ qZ rZ,.bool xZ,.slice aZ nZ cZ] 33 (0,0))).setCell ⟨w2.heap.size,0,none⟩ (.slice pZ qZ rZ)).setCell ⟨w2.heap.size,1,none⟩ (.bool xZ)).setCell ⟨w2.heap.size,2,none⟩ (.slice aZ nZ cZ)) _ _ from hO)
     go_wp2_with fail
     refine (ladd_any _ _ ps (xP v z) r 0 _ hA2.val hZ2.val).mono ?_;rintro e w5 ⟨u9,c9,rfl,hU,hb⟩;clear Qc0 Qc1 Qc2 Sc0 Sc1 Sc2;clear Xc0 Xc1 Xc2 Xk0 Xk1 Xk2;clear Zc0 Zc1 Zc2 Zk0 Zk1 Zk2;clear oP ltP;clear oY ltY;clear oZ ltZ;clear oX ltX oA oR hA hZ hY hP;replace oA := Blk.stay oA2 hb;replace oR := Blk.stay oR2 hb;replace ltA := oA.lt;replace ltR := oR.lt;replace hA := TP.below hA2 hb;replace hbw := hB.step hb (Nat.le_refl _);clear hb oA2 oR2 hA2 hZ2 hK hB hO;rcases hU with ⟨hok,rfl,hU⟩ | ⟨hno,rfl,hU⟩
     ·
      have HOK : Hid (tAddOk _ _ _ _) := hok;clear hok;obtain ⟨pU,qU,rU,xU,aU,nU,cU,rfl,hU⟩ := hU;obtain ⟨Ac0,Ac1,Ac2⟩ := oA.three;obtain ⟨Ak0,Ak1,Ak2⟩ := oA.frozen3;go_wp2;clear Ac0 Ac1 Ac2 Ak0 Ak1 Ak2;obtain ⟨hK,hB,hO⟩ := resT (by decide) (by decide) oA hbw lwA pU qU rU xU aU nU cU
      replace oR := oR.otherS (show w.heap.size + 1 ≠ w.heap.size by omega) 0 [.slice pU qU rU,.bool xU,.slice aU nU cU]
      replace hA := hA.keepP hK;replace hU := hU.keepP hK;replace oA := hO;replace hbw := hB;clear hK;go_roundw
      case rel =>
       refine ⟨k + 1,_,_,pU,qU,rU,xU,aU,nU,cU,by omega,by go_num,oR,oA,hU,?_,hbw⟩
       intro b s;rw [HST.out b s];rw [HXR.out];exact ⟨fun h => ⟨by simp,HOK.out,h⟩,fun h => h.2.2⟩
      case measure => simp [intOf];omega
     ·
      have HNO : Hid (¬ tAddOk _ _ _ _) := hno;clear hno;obtain ⟨pU,qU,rU,xU,aU,nU,cU,rfl,hU⟩ := hU;have HNN : Hid (∀ b s,¬ Tm ms [] 0 b s) := by
       intro b s hh;have hh2 := ((HST.out b s).1 hh).2.1;rw [HXR.out] at hh2;exact HNO.out hh2
      obtain ⟨Ac0,Ac1,Ac2⟩ := oA.three;obtain ⟨Ak0,Ak1,Ak2⟩ := oA.frozen3;obtain ⟨hK,hB,hO⟩ := resT (by decide) (by decide) oA hbw lwA pU qU rU xU aU nU cU
      replace oR := oR.otherS (show w.heap.size + 1 ≠ w.heap.size by omega) 0 [.slice pU qU rU,.bool xU,.slice aU nU cU]
      obtain ⟨Rz0,Rz1,Rz2⟩ := Blk.three (show Blk _ (((w5.setCell ⟨w.heap.size + 1,0,none⟩ (.slice pU qU rU)).setCell ⟨w.heap.size + 1,1,none⟩ (.bool xU)).setCell ⟨w.heap.size + 1,2,none⟩ (.slice aU nU cU)) _ _ from oR)
      obtain ⟨Rf0,Rf1,Rf2⟩ := Blk.frozen3 (show Blk _ (((w5.setCell ⟨w.heap.size + 1,0,none⟩ (.slice pU qU rU)).setCell ⟨w.heap.size + 1,1,none⟩ (.bool xU)).setCell ⟨w.heap.size + 1,2,none⟩ (.slice aU nU cU)) _ _ from oR)
      try simp only []
      try go_at_K
      repeat (first | go_values | go_skip | go_guarded | go_step | go_upon)
      refine bodyPost_ret (v := .tuple #[.agg #[.slice none 0 0,.bool false,.slice none 0 0],.bool false]) (by simp [results,Tryz.results11,go_sem,Rz0,Rz1,Rz2]) rfl ?_
      obtain ⟨K1,B1,_⟩ := resT (by decide) (by decide) oR hB lwR none 0 0 false none 0 0
      exact ⟨_,[],0,false,rfl,(TP.zero _).val,⟨(fun h => by cases h),fun _ => HNN.out⟩,B1⟩
    ·
     have hv1 : v < 0 := by omega
     have HXP : Hid (xP v z = []) := if_pos (Or.inl hv1);have HXR : Hid (xR v z = z) := if_pos hv1;have A0 := (hbw.cell (p := ⟨gE,oE + k * 2,none⟩) (World.block_lt_of_cell? w _ K1.out)).trans K1.out;obtain ⟨Ac0,Ac1,Ac2⟩ := oA.three;obtain ⟨Ak0,Ak1,Ak2⟩ := oA.frozen3;obtain ⟨Xc0,Xc1,Xc2⟩ := oX.three;obtain ⟨Xk0,Xk1,Xk2⟩ := oX.frozen3;go_wp2_with fail
     refine (ladd_any _ _ ps [] r z _ hA.val hX.val).mono ?_;rintro e w3 ⟨u9,c9,rfl,hU,hb⟩;clear Ac0 Ac1 Ac2 Ak0 Ak1 Ak2;clear Xc0 Xc1 Xc2 Xk0 Xk1 Xk2;replace oR := oR.stay hb;replace ltR := oR.lt;replace oA := oA.stay hb;replace ltA := oA.lt;replace oP := oP.stay hb;replace ltP := oP.lt;replace oX := oX.stay hb;replace ltX := oX.lt;replace hA := hA.below hb;replace hP := hP.below hb;replace hX := hX.below hb;replace hbw := hbw.step hb (Nat.le_refl _);clear hb;rcases hU with ⟨hok,rfl,hU⟩ | ⟨hno,rfl,hU⟩
     ·
      have HOK : Hid (tAddOk _ _ _ _) := hok;clear hok;obtain ⟨pU,qU,rU,xU,aU,nU,cU,rfl,hU⟩ := hU;obtain ⟨Ac0,Ac1,Ac2⟩ := oA.three;obtain ⟨Ak0,Ak1,Ak2⟩ := oA.frozen3;go_wp2;clear Ac0 Ac1 Ac2 Ak0 Ak1 Ak2;obtain ⟨hK,hB,hO⟩ := resT (by decide) (by decide) oA hbw lwA pU qU rU xU aU nU cU
      replace oR := oR.otherS (show w.heap.size + 1 ≠ w.heap.size by omega) 0 [.slice pU qU rU,.bool xU,.slice aU nU cU]
      replace oP := oP.otherS neAP 0 [.slice pU qU rU,.bool xU,.slice aU nU cU];replace oX := oX.otherS neAX 0 [.slice pU qU rU,.bool xU,.slice aU nU cU];replace hA := hA.keepP hK;replace hP := hP.keepP hK;replace hX := hX.keepP hK;replace hU := hU.keepP hK;replace oA := hO;replace hbw := hB;clear hK;go_roundw
      case rel =>
       refine ⟨k + 1,_,_,pU,qU,rU,xU,aU,nU,cU,by omega,by go_num,oR,oA,hU,?_,hbw⟩
       intro b s;rw [HST.out b s];rw [HXP.out,HXR.out];exact ⟨fun h => ⟨by simp,HOK.out,h⟩,fun h => h.2.2⟩
      case measure => simp [intOf];omega
     ·
      have HNO : Hid (¬ tAddOk _ _ _ _) := hno;clear hno;obtain ⟨pU,qU,rU,xU,aU,nU,cU,rfl,hU⟩ := hU;have HNN : Hid (∀ b s,¬ Tm ms [] 0 b s) := by
       intro b s hh;have hh2 := ((HST.out b s).1 hh).2.1;rw [HXP.out,HXR.out] at hh2;exact HNO.out hh2
      obtain ⟨Ac0,Ac1,Ac2⟩ := oA.three;obtain ⟨Ak0,Ak1,Ak2⟩ := oA.frozen3;obtain ⟨hK,hB,hO⟩ := resT (by decide) (by decide) oA hbw lwA pU qU rU xU aU nU cU
      replace oR := oR.otherS (show w.heap.size + 1 ≠ w.heap.size by omega) 0 [.slice pU qU rU,.bool xU,.slice aU nU cU]
      obtain ⟨Rz0,Rz1,Rz2⟩ := Blk.three (show Blk _ (((w3.setCell ⟨w.heap.size + 1,0,none⟩ (.slice pU qU rU)).setCell ⟨w.heap.size + 1,1,none⟩ (.bool xU)).setCell ⟨w.heap.size + 1,2,none⟩ (.slice aU nU cU)) _ _ from oR)
      obtain ⟨Rf0,Rf1,Rf2⟩ := Blk.frozen3 (show Blk _ (((w3.setCell ⟨w.heap.size + 1,0,none⟩ (.slice pU qU rU)).setCell ⟨w.heap.size + 1,1,none⟩ (.bool xU)).setCell ⟨w.heap.size + 1,2,none⟩ (.slice aU nU cU)) _ _ from oR)
      try simp only []
      try go_at_K
      repeat (first | go_values | go_skip | go_guarded | go_step | go_upon)
      refine bodyPost_ret (v := .tuple #[.agg #[.slice none 0 0,.bool false,.slice none 0 0],.bool false]) (by simp [results,Tryz.results11,go_sem,Rz0,Rz1,Rz2]) rfl ?_
      obtain ⟨K1,B1,_⟩ := resT (by decide) (by decide) oR hB lwR none 0 0 false none 0 0
      exact ⟨_,[],0,false,rfl,(TP.zero _).val,⟨(fun h => by cases h),fun _ => HNN.out⟩,B1⟩
   ·
    have hc2 : (co != 0) = true := by rw [bne_iff_ne];exact hc
    have HC : Hid (¬ co = 0) := hc;clear hc;obtain ⟨Rc0,Rc1,Rc2⟩ := oR.three;obtain ⟨Rk0,Rk1,Rk2⟩ := oR.frozen3;obtain ⟨Ac0,Ac1,Ac2⟩ := oA.three;obtain ⟨Ak0,Ak1,Ak2⟩ := oA.frozen3;try simp only []
    try go_at_K
    repeat (first | go_values | go_skip | go_guarded | go_step | go_upon)
    refine bodyPost_ret (v := .tuple #[.agg #[.slice pA qA rA,.bool xA,.slice aA nA cA],.bool false]) (by simp [results,Tryz.results11,go_sem,Rc0,Rc1,Rc2]) rfl ?_
    obtain ⟨K1,B1,_⟩ := resT (by decide) (by decide) oR hbw lwR pA qA rA xA aA nA cA
    exact ⟨_,ps,r,false,rfl,(hA.keepP K1).val,⟨(fun h => by cases h),fun _ b s hh => HC.out ((HST.out b s).1 hh).1⟩,B1⟩
  ·
   have HT : Hid (Tm ms [] 0 ps r) := (HI.out ps r).1 (by rw [List.drop_eq_nil_of_le (by rw [HLN.out];omega)];exact ⟨rfl,rfl⟩)
   obtain ⟨Rc0,Rc1,Rc2⟩ := oR.three;obtain ⟨Rk0,Rk1,Rk2⟩ := oR.frozen3;obtain ⟨Ac0,Ac1,Ac2⟩ := oA.three;obtain ⟨Ak0,Ak1,Ak2⟩ := oA.frozen3;try simp only []
   try go_at_K
   repeat (first | go_values | go_skip | go_guarded | go_step | go_upon)
   refine bodyPost_ret (v := .tuple #[.agg #[.slice pA qA rA,.bool xA,.slice aA nA cA],.bool true]) (by simp [results,Tryz.results11,go_sem,Rc0,Rc1,Rc2]) rfl ?_
   obtain ⟨K1,B1,_⟩ := resT (by decide) (by decide) oR hbw lwR pA qA rA xA aA nA cA
   exact ⟨_,ps,r,true,rfl,(hA.keepP K1).val,⟨fun _ => HT.out,(fun h => by cases h)⟩,B1⟩
end Go.Proofs.YteefniagebcagaaGreatDoor
