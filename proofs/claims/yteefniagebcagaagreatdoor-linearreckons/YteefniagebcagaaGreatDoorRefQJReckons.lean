/- Contract of suretyref03's Put; they prove no statement of the seat. -/
import Derived.Test.YteefniagebcagaaGreatDoorRefMJReckons
import Derived.Test.YteefniagebcagaaGreatDoorRefOJReckons
import Derived.Test.YteefniagebcagaaGreatDoorJoin25Reckons
namespace Go.Proofs.YteefniagebcagaaGreatDoor
open Go.RowKit
set_option linter.unusedVariables false
def exP (a : List (Nat × Int)) (v : Int) : List (Nat × Int) := a.filter fun p => decide ((p.1 : Int) ≠ v)
theorem exP_step {a : List (Nat × Int)} {k pv : Nat} {pz v : Int} (hk : k < a.length) (hp : a.getD k (0,0) = (pv,pz)) : exP (a.take (k + 1)) v = exP (a.take k) v ++ (if (pv : Int) = v then [] else [(pv,pz)]) := by
 unfold exP;rw [take_one hk hp,List.filter_append];congr 1
 by_cases h : (pv : Int) = v
 · rw [if_pos h];simp [h]
 · rw [if_neg h];simp [h]
theorem exP_rem {a : List (Nat × Int)} {v : Int} (hr : Rise a) (ht : there a v) : exP a v = remP a v := by
 obtain ⟨l1,p,l2,e,hv,hrm,_⟩ := remP_at hr ht;rw [hrm];rw [e] at hr ⊢;obtain ⟨k1,k2⟩ := rem_out hr;unfold exP;rw [List.filter_append,List.filter_cons,if_neg (by simp [hv])]
 congr 1
 · exact List.filter_eq_self.2 (fun q hq => decide_eq_true (fun k => k1 q hq (by omega)))
 · exact List.filter_eq_self.2 (fun q hq => decide_eq_true (fun k => k2 q hq (by omega)))
theorem exP_fine {a : List (Nat × Int)} (h : Fine a) (v : Int) : Fine (exP a v) := ⟨List.Pairwise.sublist List.filter_sublist h.1, fun p hp => h.2 p (List.mem_filter.1 hp).1⟩
theorem exP_len (a : List (Nat × Int)) (v : Int) : (exP a v).length ≤ a.length := List.length_filter_le _ _
theorem there_coef {a : List (Nat × Int)} {v : Int} (h : Fine a) : there a v ↔ coefZ a v ≠ 0 := by
 constructor
 · rintro ⟨p,hp,hv⟩;have := (ahead_there h.1 hp hv).2.2;rw [this];exact (h.2 p hp).1
 ·
  intro hc;apply Classical.byContradiction
  intro k;exact hc (coefZ_not k)
theorem coefZ_lim {a : List (Nat × Int)} (h : Fine a) (v : Int) : (coefZ a v).natAbs < lim := by
 unfold coefZ;split
 · exact fine_coef h _
 · have := word_lim;simp;omega
theorem QRes.shape9 {ok : Prop} {a : List (Nat × Int)} {m : Int} {u : Value} {c : Int} {w : World} (h : QRes ok a m u c w) : ∃ p q r x a n c,u = .agg #[.slice p q r,.bool x,.slice a n c] := by
 rcases h with ⟨_,_,h⟩ | ⟨_,_,h⟩ <;> exact h.shape
theorem QRes.below {ok : Prop} {a : List (Nat × Int)} {m : Int} {u : Value} {c : Int} {w w' : World} (h : QRes ok a m u c w) (hb : Below w.heap.size w w') : QRes ok a m u c w' := by
 rcases h with ⟨h1,h2,h⟩ | ⟨h1,h2,h⟩
 · exact Or.inl ⟨h1,h2,h.below hb⟩
 · exact Or.inr ⟨h1,h2,h.below hb⟩
set_option maxRecDepth 20000 in
set_option maxHeartbeats 16000000 in
theorem rput_any (vX vB : Value) (a b : List (Nat × Int)) (r t v : Int) (w : World) (hX : RTermR w vX a r) (hB : RTermR w vB b t) :
  Calls Tryz.prog 26 #[vX,.int .i64 v,vB] w fun e w' => ∃ u c,e = .returned (.tuple #[u,.int .i64 c]) ∧ QRes (putOk a r v b t) (putP a v b) (putR a r v t) u c w' ∧ Below w.heap.size w w' := by
 obtain ⟨pX,qX,rX,xX,aX,nX,cX,rfl,hX⟩ := hX;obtain ⟨pB,qB,rB,xB,aB,nB,cB,rfl,hB⟩ := hB;have ha0 := hX.arr;have HB0 : Hid (RTP w pB qB rB xB aB nB cB b t) := hB;have oX := (((Blk.new w 41 #[.slice pX qX rX,.bool xX,.slice aX nX cX]).alloc (.cells #[.slice pB qB rB,.bool xB,.slice aB nB cB] 41 (0,0))).alloc (.cells #[.slice none 0 0,.bool false,.slice none 0 0] 41 (0,0)));have oB := ((Blk.new (w.alloc (.cells #[.slice pX qX rX,.bool xX,.slice aX nX cX] 41 (0,0))) 41 #[.slice pB qB rB,.bool xB,.slice aB nB cB]).alloc (.cells #[.slice none 0 0,.bool false,.slice none 0 0] 41 (0,0)));have oR := (Blk.new ((w.alloc (.cells #[.slice pX qX rX,.bool xX,.slice aX nX cX] 41 (0,0))).alloc (.cells #[.slice pB qB rB,.bool xB,.slice aB nB cB] 41 (0,0))) 41 #[.slice none 0 0,.bool false,.slice none 0 0]);simp only [World.size_alloc] at oB oR;have hbw : Below w.heap.size w (((w.alloc (.cells #[.slice pX qX rX,.bool xX,.slice aX nX cX] 41 (0,0))).alloc (.cells #[.slice pB qB rB,.bool xB,.slice aB nB cB] 41 (0,0))).alloc (.cells #[.slice none 0 0,.bool false,.slice none 0 0] 41 (0,0))) := by go_grown
 replace hX := hX.below hbw;replace hB := hB.below hbw;have ltX := oX.lt;have lwX : w.heap.size ≤ w.heap.size := by omega
 have ltB := oB.lt;have lwB : w.heap.size ≤ w.heap.size + 1 := by omega
 have ltR := oR.lt;have lwR : w.heap.size ≤ w.heap.size + 1 + 1 := by omega
 go_enter Tryz.func26,Tryz.ntmps26;have HX : Hid (QArr w pX a) := ha0;have HLN : Hid (a.length = qX) := hX.len;have hlen := hX.n_le;have HFA : Hid (Fine a) := hX.fine;have HFB : Hid (Fine b) := hB.fine;clear ha0;obtain ⟨Xc0,Xc1,Xc2⟩ := oX.three;obtain ⟨Xk0,Xk1,Xk2⟩ := oX.frozen3;go_wp2_with fail
 refine (rcoef_any _ a r v _ hX.val).mono ?_;rintro e w1 ⟨xC,aC,nC,cC,rfl,hC,hb⟩;clear Xc0 Xc1 Xc2 Xk0 Xk1 Xk2;replace oX := oX.stay hb;replace ltX := oX.lt;replace oB := oB.stay hb;replace ltB := oB.lt;replace oR := oR.stay hb;replace ltR := oR.lt;replace hX := hX.below hb;replace hB := hB.below hb;replace hbw := hbw.step hb (Nat.le_refl _);clear hb;have hn := below_new w1 (.cells #[.bool xC,.slice aC nC cC] 39 (0,0));have oC := Blk.new w1 39 #[.bool xC,.slice aC nC cC];have neXC : w.heap.size ≠ w1.heap.size := by have := ltX;(try simp at this);omega
 have neBC : w.heap.size + 1 ≠ w1.heap.size := by have := ltB;(try simp at this);omega
 have neRC : w.heap.size + 1 + 1 ≠ w1.heap.size := by have := ltR;(try simp at this);omega
 have lwC : w.heap.size ≤ w1.heap.size := by have := hbw.size;(try simp at this);omega
 replace oX := oX.stay hn;replace ltX := oX.lt;replace oB := oB.stay hn;replace ltB := oB.lt;replace oR := oR.stay hn;replace ltR := oR.lt;replace hX := hX.below hn;replace hB := hB.below hn;replace hC := hC.below hn;replace hbw := hbw.step hn (Nat.le_refl _);clear hn;have ltC := oC.lt;have HZ : Hid (nC = 0 ↔ coefZ a v = 0) := hC.len.1;have HTC : Hid (there a v ↔ coefZ a v ≠ 0) := there_coef HFA.out;have HCL : Hid ((coefZ a v).natAbs < lim) := coefZ_lim HFA.out v;obtain ⟨z,hzz⟩ : ∃ z,z = coefZ a v := ⟨_,rfl⟩;have HCZ : Hid (coefZ a v = z) := hzz.symm;rw [← hzz] at hC HZ HTC HCL;clear hzz;by_cases hz9 : nC = 0
 ·
  have HT : Hid (¬ there a v) := fun k => HTC.out.1 k (HZ.out.1 hz9)
  subst hz9;obtain ⟨Xc0,Xc1,Xc2⟩ := oX.three;obtain ⟨Xk0,Xk1,Xk2⟩ := oX.frozen3;obtain ⟨Cc0,Cc1,Ck0,Ck1⟩ := oC.two;obtain ⟨Rc0,Rc1,Rc2⟩ := oR.three;obtain ⟨Rk0,Rk1,Rk2⟩ := oR.frozen3;try simp only []
  try go_at_K
  repeat (first | go_values | go_skip | go_guarded | go_step | go_upon)
  refine bodyPost_ret (v := .tuple #[.agg #[.slice pX qX rX,.bool xX,.slice aX nX cX],.int .i64 0]) (by simp [results,Tryz.results26,go_sem,Rc0,Rc1,Rc2]) rfl ?_
  obtain ⟨K1,B1,_⟩ := resTq (by decide) (by decide) oR hbw lwR pX qX rX xX aX nX cX
  have e1 : putP a v b = a := if_neg (fun k => HT.out (thereB_iff.1 k))
  have e2 : putR a r v t = r := if_neg (fun k => HT.out (thereB_iff.1 k))
  rw [e1,e2];exact ⟨_,_,rfl,Or.inl ⟨fun k => absurd k HT.out,rfl,(hX.keepQ K1).val⟩,B1⟩
 ·
  have HT : Hid (there a v) := HTC.out.2 (fun k => hz9 (HZ.out.2 k))
  have hzi : ¬ (nC : Int) = 0 := by omega
  clear hz9;obtain ⟨Xc0,Xc1,Xc2⟩ := oX.three;obtain ⟨Xk0,Xk1,Xk2⟩ := oX.frozen3;obtain ⟨Cc0,Cc1,Ck0,Ck1⟩ := oC.two;have hn := below_new (w1.alloc (.cells #[.bool xC,.slice aC nC cC] 39 (0,0))) (.cells #[.slice none 0 0,.bool xX,.slice aX nX cX] 41 (0,0));have oO := Blk.new (w1.alloc (.cells #[.bool xC,.slice aC nC cC] 39 (0,0))) 41 #[.slice none 0 0,.bool xX,.slice aX nX cX];simp only [World.size_alloc] at oO;have neXO : w.heap.size ≠ w1.heap.size + 1 := by have := ltX;(try simp at this);omega
  have neBO : w.heap.size + 1 ≠ w1.heap.size + 1 := by have := ltB;(try simp at this);omega
  have neRO : w.heap.size + 1 + 1 ≠ w1.heap.size + 1 := by have := ltR;(try simp at this);omega
  have neCO : w1.heap.size ≠ w1.heap.size + 1 := by have := ltC;(try simp at this);omega
  have lwO : w.heap.size ≤ w1.heap.size + 1 := by have := hbw.size;(try simp at this);omega
  replace oX := oX.stay hn;replace ltX := oX.lt;replace oB := oB.stay hn;replace ltB := oB.lt;replace oR := oR.stay hn;replace ltR := oR.lt;replace oC := oC.stay hn;replace ltC := oC.lt;replace hX := hX.below hn;replace hB := hB.below hn;replace hC := hC.below hn;replace hbw := hbw.step hn (Nat.le_refl _);clear hn;have ltO := oO.lt;go_wp2;go_loopw [10] (fun i wl => ∃ (k n : Nat) (u0 : Value) (xs : List Value),k ≤ qX ∧ i = .int .i64 k ∧ Blk 41 wl w.heap.size #[.slice pX qX rX,.bool xX,.slice aX nX cX] ∧ Blk 41 wl (w.heap.size + 1) #[.slice pB qB rB,.bool xB,.slice aB nB cB] ∧ Blk 41 wl (w.heap.size + 1 + 1) #[.slice none 0 0,.bool false,.slice none 0 0] ∧ Blk 39 wl (w1.heap.size) #[.bool xC,.slice aC nC cC] ∧ Blk 41 wl (w1.heap.size + 1) #[u0,.bool xX,.slice aX nX cX] ∧ LstG 3 70 w.heap.size wl u0 n xs ∧ ElsQ wl xs (exP (a.take k) v) ∧ Hid ((exP (a.take k) v).length = n) ∧ RTP wl pB qB rB xB aB nB cB b t ∧ RNum wl (.agg #[.bool xC,.slice aC nC cC]) z 400 ∧ RNum wl (.agg #[.bool xX,.slice aX nX cX]) r 400 ∧ Below w.heap.size w wl) (fun i _ => qX - (intOf i).toNat)
  case atStart => exact ⟨0,0,_,[],Nat.zero_le _,rfl,oX,oB,oR,oC,oO,LstG.nil _ _ _ _,ElsQ.nil _,rfl,hB,hC,hX.rest,hbw⟩
  case round =>
   have HRL : Hid (r.natAbs < lim) := hX.rlim;rename World => wl
   clear oX oB oR oC oO hbw hX hB hC ltX ltB ltR ltC ltO Xc0 Xc1 Xc2 Xk0 Xk1 Xk2 Cc0 Cc1 Ck0 Ck1;obtain ⟨k,n,u0,xs,hk,h8,oX,oB,oR,oC,oO,hL,hE,HQL,hB,hC,hN,hbw⟩ := hrel;subst h8;have ltX := oX.lt;have ltB := oB.lt;have ltR := oR.lt;have ltC := oC.lt;have ltO := oO.lt;obtain ⟨ao0,m0,cap0,rfl⟩ := LstG.isSlice hL;obtain ⟨bO,hbO⟩ : ∃ b,b = w1.heap.size + 1 := ⟨_,rfl⟩;rw [← hbO] at oO neXO neBO neRO neCO lwO ltO ⊢;clear hbO;obtain ⟨bC,hbC⟩ : ∃ b,b = w1.heap.size := ⟨_,rfl⟩;rw [← hbC] at oC neXC neBC neRC neCO lwC ltC ⊢;clear hbC;by_cases h0 : k < qX
   ·
    obtain ⟨gE,oE,sE,aE,mE,cE,had,k1,k2,k3,k4⟩ := HX.out.at k (by rw [HLN.out];exact h0)
    subst had;obtain ⟨pv,hpv⟩ : ∃ x9,x9 = (a.getD k (0,0)).1 := ⟨_,rfl⟩;obtain ⟨pz,hpz⟩ : ∃ x9,x9 = (a.getD k (0,0)).2 := ⟨_,rfl⟩;rw [← hpv] at k1;rw [← hpz] at k4;have HPV : Hid (a.getD k (0,0) = (pv,pz)) := by show _ = _;rw [hpv,hpz]
    clear hpv hpz;have HXS := exP_step (v := v) (by rw [HLN.out];exact h0) HPV.out
    have A0 := (hbw.cell (p := ⟨gE,oE + k * 3,none⟩) (World.block_lt_of_cell? w _ k1)).trans k1;have hn9 : n ≤ 9000 := by have := exP_len (a.take k) v;have h2 := HQL.out;rw [List.length_take] at this;omega
    have HXL : Hid (xs.length = n * 3) := hL.1;by_cases hv : (pv : Int) = v
    ·
     rw [if_pos hv,List.append_nil] at HXS;obtain ⟨Xc0,Xc1,Xc2⟩ := oX.three;obtain ⟨Xk0,Xk1,Xk2⟩ := oX.frozen3;go_wp2;go_roundw
     case rel => exact ⟨k + 1,n,_,xs,by omega,by go_num,oX,oB,oR,oC,oO,hL,by rw [HXS];exact hE,by rw [HXS];exact HQL.out,hB,hC,hN,hbw⟩
     case measure => simp [intOf];omega
    ·
     rw [if_neg hv] at HXS;obtain ⟨Xc0,Xc1,Xc2⟩ := oX.three;obtain ⟨Xk0,Xk1,Xk2⟩ := oX.frozen3;go_wp2;clear Xc0 Xc1 Xc2 Xk0 Xk1 Xk2;clear A0;have naX := hL.blk oX (by decide)
     have naB := hL.blk oB (by decide)
     have naR := hL.blk oR (by decide)
     have naC := hL.blk oC (by decide)
     have naO := hL.blk oO (by decide)
     have hLb := hbw.size;have hLg := Nat.le_refl w.heap.size;have geO := lwO;have neOX := Ne.symm neXO;have neOB := Ne.symm neBO;have neOR := Ne.symm neRO;have neOC := Ne.symm neCO;have hbW := hbw;refine wp_region_M (by kernel_rfl) [39,40,41,42,43,44,45,46,47,48] [none,none,none,none,none,none,none,none,none,none,none,none,none,none,none,none,none,none,none,none,none,none,none,none,none,none,none,none,none,none,none,none,none,none,none,none,none,none,none,some 39,some 40,some 41,some 42,some 43,some 44,some 45,some 46,some 47,some 48] (fun U => by kernel_rfl) (fun L U wr => Below w.heap.size w wr ∧ KeepN wl wr ∧ wl.heap.size ≤ wr.heap.size ∧ Blk 41 wr (w.heap.size) #[.slice (some ⟨gE,oE,none⟩) qX rX,.bool xX,.slice aX nX cX] ∧ Blk 41 wr (w.heap.size + 1) #[.slice pB qB rB,.bool xB,.slice aB nB cB] ∧ Blk 41 wr (w.heap.size + 1 + 1) #[.slice none 0 0,.bool false,.slice none 0 0] ∧ Blk 39 wr (bC) #[.bool xC,.slice aC nC cC] ∧ Blk 41 wr (bO) (bif L 10 then #[U 47,.bool xX,.slice aX nX cX] else #[.slice ao0 m0 cap0,.bool xX,.slice aX nX cX]) ∧ (L 8 = false → LstG 3 70 w.heap.size wr (.slice ao0 m0 cap0) n xs) ∧ (L 0 = true → IS (.pointer (some ⟨bO,0,none⟩)) (U 39) wr) ∧ (L 1 = true → IS (.slice ao0 m0 cap0) (U 40) wr) ∧ (L 2 = true → IS (.pointer (some ⟨w.heap.size,0,none⟩)) (U 41) wr) ∧ (L 3 = true → IS (.slice (some ⟨gE,oE,none⟩) qX rX) (U 42) wr) ∧ (L 4 = true → IS (.int .i64 k) (U 43) wr) ∧ (L 5 = true → IS (.pointer (some ⟨gE,oE + k * 3,none⟩)) (U 44) wr) ∧ (L 6 = true → IS (.agg #[.int .i64 (pv : Nat),.bool sE,.slice aE mE cE]) (U 45) wr) ∧ (L 7 = true → L 8 = false → ONE 70 #[.int .i64 (pv : Nat),.bool sE,.slice aE mE cE] (U 46) wr) ∧ (L 8 = true → LstG 3 70 w.heap.size wr (U 47) (n + 1) (xs ++ [.int .i64 (pv : Nat),.bool sE,.slice aE mE cE]) ∧ U 47 ≠ .slice none 0 0) ∧ (L 9 = true → IS (.pointer (some ⟨bO,0,none⟩)) (U 48) wr) ∧ (L 10 = true → L 8 = true) ∧ (L 8 = true → L 1 = true) ∧ (L 8 = true → L 7 = true)) (by kernel_rfl) ?_ ?_ ?_
     · exact fun U => ⟨hbw.drew,KeepN.below (Below.refl _ _).drew,Nat.le_refl _,oX.drew,oB.drew,oR.drew,oC.drew,oO.drew,(fun _ => hL.below (Below.refl _ _).drew),(fun h => by cases h),(fun h => by cases h),(fun h => by cases h),(fun h => by cases h),(fun h => by cases h),(fun h => by cases h),(fun h => by cases h),(fun h => by cases h),(fun h => by cases h),(fun h => by cases h),(fun h => by cases h),(fun h => by cases h),(fun h => by cases h)⟩
     ·
      refine StepsU.run rfl ?_ ?_
      ·
       intro L U wr hF hlk haf A K hA hK;have HA : Hid (A = putAll _ _ U) := hA;clear hA;simp [Aft,Region.binds] at haf;obtain ⟨fb,fk,fs,oX,oB,oR,oC,wO,fl,f0,f1,f2,f3,f4,f5,f6,f7,f8,f9,s10,p1,p7⟩ := hF;have e9 : A.tmps[9]? = some (.pointer (some ⟨bO,0,none⟩)) := by rw [HA.out];kernel_rfl
       refine ⟨?_⟩;go_simp;refine hK (upd U 39 (.pointer (some ⟨bO,0,none⟩))) _ _ ?_ ?_
       · rw [HA.out];kernel_rfl
       · exact ⟨fb,fk,fs,oX,oB,oR,oC,wO,fl,(fun _ => rfl),f1,f2,f3,f4,f5,f6,f7,f8,f9,s10,p1,p7⟩
      refine StepsU.run rfl ?_ ?_
      ·
       intro L U wr hF hlk haf A K hA hK;have HA : Hid (A = putAll _ _ U) := hA;clear hA;simp [Aft,Region.binds] at haf;obtain ⟨fb,fk,fs,oX,oB,oR,oC,wO,fl,f0,f1,f2,f3,f4,f5,f6,f7,f8,f9,s10,p1,p7⟩ := hF;have hst9 : L 10 = false := by cases h : L 10 with | false => rfl | true => rw [p1 (s10 h)] at hlk;cases hlk
       have o9 := wO;rw [hst9,cond_false] at o9;have g0 := f0 (by simp [haf])
       have e39 := rd HA.out 39 (by kernel_rfl) g0
       have c0 := Blk.cell o9 0;simp at c0;refine ⟨?_⟩;go_simp;refine hK (upd U 40 (.slice ao0 m0 cap0)) _ _ ?_ ?_
       · rw [HA.out];kernel_rfl
       · exact ⟨fb,fk,fs,oX,oB,oR,oC,wO,fl,f0,(fun _ => rfl),f2,f3,f4,f5,f6,f7,f8,f9,s10,(fun _ => rfl),p7⟩
      refine StepsU.run rfl ?_ ?_
      ·
       intro L U wr hF hlk haf A K hA hK;have HA : Hid (A = putAll _ _ U) := hA;clear hA;simp [Aft,Region.binds] at haf;obtain ⟨fb,fk,fs,oX,oB,oR,oC,wO,fl,f0,f1,f2,f3,f4,f5,f6,f7,f8,f9,s10,p1,p7⟩ := hF;have e3 : A.tmps[3]? = some (.pointer (some ⟨w.heap.size,0,none⟩)) := by rw [HA.out];kernel_rfl
       refine ⟨?_⟩;go_simp;refine hK (upd U 41 (.pointer (some ⟨w.heap.size,0,none⟩))) _ _ ?_ ?_
       · rw [HA.out];kernel_rfl
       · exact ⟨fb,fk,fs,oX,oB,oR,oC,wO,fl,f0,f1,(fun _ => rfl),f3,f4,f5,f6,f7,f8,f9,s10,p1,p7⟩
      refine StepsU.run rfl ?_ ?_
      ·
       intro L U wr hF hlk haf A K hA hK;have HA : Hid (A = putAll _ _ U) := hA;clear hA;simp [Aft,Region.binds] at haf;obtain ⟨fb,fk,fs,oX,oB,oR,oC,wO,fl,f0,f1,f2,f3,f4,f5,f6,f7,f8,f9,s10,p1,p7⟩ := hF;have g2 := f2 (by simp [haf])
       have e41 := rd HA.out 41 (by kernel_rfl) g2
       have c0 := Blk.cell oX 0;simp at c0;refine ⟨?_⟩;go_simp;refine hK (upd U 42 (.slice (some ⟨gE,oE,none⟩) qX rX)) _ _ ?_ ?_
       · rw [HA.out];kernel_rfl
       · exact ⟨fb,fk,fs,oX,oB,oR,oC,wO,fl,f0,f1,f2,(fun _ => rfl),f4,f5,f6,f7,f8,f9,s10,p1,p7⟩
      refine StepsU.run rfl ?_ ?_
      ·
       intro L U wr hF hlk haf A K hA hK;have HA : Hid (A = putAll _ _ U) := hA;clear hA;simp [Aft,Region.binds] at haf;obtain ⟨fb,fk,fs,oX,oB,oR,oC,wO,fl,f0,f1,f2,f3,f4,f5,f6,f7,f8,f9,s10,p1,p7⟩ := hF;have e10 : A.tmps[10]? = some (.int .i64 k) := by rw [HA.out];kernel_rfl
       refine ⟨?_⟩;go_simp;refine hK (upd U 43 (.int .i64 k)) _ _ ?_ ?_
       · rw [HA.out];kernel_rfl
       · exact ⟨fb,fk,fs,oX,oB,oR,oC,wO,fl,f0,f1,f2,f3,(fun _ => rfl),f5,f6,f7,f8,f9,s10,p1,p7⟩
      refine StepsU.run rfl ?_ ?_
      ·
       intro L U wr hF hlk haf A K hA hK;have HA : Hid (A = putAll _ _ U) := hA;clear hA;simp [Aft,Region.binds] at haf;obtain ⟨fb,fk,fs,oX,oB,oR,oC,wO,fl,f0,f1,f2,f3,f4,f5,f6,f7,f8,f9,s10,p1,p7⟩ := hF;have g3 := f3 (by simp [haf])
       have g4 := f4 (by simp [haf])
       have e42 := rd HA.out 42 (by kernel_rfl) g3
       have e43 := rd HA.out 43 (by kernel_rfl) g4
       refine ⟨?_⟩;go_simp;refine hK (upd U 44 (.pointer (some ⟨gE,oE + k * 3,none⟩))) _ _ ?_ ?_
       · rw [HA.out];kernel_rfl
       · exact ⟨fb,fk,fs,oX,oB,oR,oC,wO,fl,f0,f1,f2,f3,f4,(fun _ => rfl),f6,f7,f8,f9,s10,p1,p7⟩
      refine StepsU.run rfl ?_ ?_
      ·
       intro L U wr hF hlk haf A K hA hK;have HA : Hid (A = putAll _ _ U) := hA;clear hA;simp [Aft,Region.binds] at haf;obtain ⟨fb,fk,fs,oX,oB,oR,oC,wO,fl,f0,f1,f2,f3,f4,f5,f6,f7,f8,f9,s10,p1,p7⟩ := hF;have g5 := f5 (by simp [haf])
       have kA0 := (fb.cell (p := ⟨gE,oE + k * 3,none⟩) (World.block_lt_of_cell? w _ k1)).trans k1;have kA1 := (fb.cell (p := ⟨gE,oE + k * 3 + 1,none⟩) (World.block_lt_of_cell? w _ k2)).trans k2;have kA2 := (fb.cell (p := ⟨gE,oE + k * 3 + 2,none⟩) (World.block_lt_of_cell? w _ k3)).trans k3;have e44 := rd HA.out 44 (by kernel_rfl) g5
       refine ⟨?_⟩;go_simp;refine hK (upd U 45 (.agg #[.int .i64 (pv : Nat),.bool sE,.slice aE mE cE])) _ _ ?_ ?_
       · rw [HA.out];kernel_rfl
       · exact ⟨fb,fk,fs,oX,oB,oR,oC,wO,fl,f0,f1,f2,f3,f4,f5,(fun _ => rfl),f7,f8,f9,s10,p1,p7⟩
      refine StepsU.run rfl ?_ ?_
      ·
       intro L U wr hF hlk haf A K hA hK;have HA : Hid (A = putAll _ _ U) := hA;clear hA;simp [Aft,Region.binds] at haf;obtain ⟨fb,fk,fs,oX,oB,oR,oC,wO,fl,f0,f1,f2,f3,f4,f5,f6,f7,f8,f9,s10,p1,p7⟩ := hF;have g6 := f6 (by simp [haf])
       have e45 := rd HA.out 45 (by kernel_rfl) g6
       have hap : L 8 = false := by cases h : L 8 with | false => rfl | true => rw [p7 h] at hlk;cases hlk
       refine ⟨?_⟩;go_simp;have hb := below_new wr (.cells #[.int .i64 (pv : Nat),.bool sE,.slice aE mE cE] 70 (0,0));refine hK (upd U 46 (.slice (some ⟨wr.heap.size,0,none⟩) 1 1)) _ _ ?_ ?_
       · rw [HA.out];kernel_rfl
       · exact ⟨(fb.step hb (Nat.le_refl _)),(fk.trans (KeepN.below hb)),(Nat.le_trans fs hb.size),(oX.stay hb),(oB.stay hb),(oR.stay hb),(oC.stay hb),(Blk.stay wO hb),(fun h => (fl h).below hb),f0,f1,f2,f3,f4,f5,f6,(fun _ _ => ⟨wr.heap.size,rfl,Blk.new wr 70 #[.int .i64 (pv : Nat),.bool sE,.slice aE mE cE]⟩),(fun h => ⟨(f8 h).1.below hb,(f8 h).2⟩),f9,s10,p1,(fun _ => rfl)⟩
      refine StepsU.run rfl ?_ ?_
      ·
       intro L U wr hF hlk haf A K hA hK;have HA : Hid (A = putAll _ _ U) := hA;clear hA;simp [Aft,Region.binds] at haf;obtain ⟨fb,fk,fs,oX,oB,oR,oC,wO,fl,f0,f1,f2,f3,f4,f5,f6,f7,f8,f9,s10,p1,p7⟩ := hF;have g1 := f1 (by simp [haf])
       have g7 := f7 (by simp [haf]) hlk
       obtain ⟨gb,hgb,hBb⟩ := g7;have e40 := rd HA.out 40 (by kernel_rfl) g1
       have e46 := rd HA.out 46 (by kernel_rfl) hgb
       refine ⟨?_⟩;refine wp_append_g (.tmp 40) (.tmp 46) 36 rfl 3 w.heap.size 70 (.agg #[.int .i64 0,.bool false,.slice none 0 0]) 40 Tryz.und_qparts Tryz.info_qpart (by decide) rfl (by decide) (nuP _ _ _ _ _) (by decide) (.slice ao0 m0 cap0) n xs (by simp [Act.eval,e40]) (fl hlk) ⟨gb,0,none⟩ 1 1 [.int .i64 (pv : Nat),.bool sE,.slice aE mE cE] (by simp [Act.eval,e46]) rfl ?_ (by intro u hu;simp at hu;rcases hu with rfl | rfl | rfl <;> rfl) (nuP _ _ _ _ _) (Or.inl (by decide)) (by omega) (Nat.le_trans hLb fs) ?_
       ·
        intro j u hj;match j,hj with
        | 0,hj => simp at hj;subst hj;exact hBb.cell 0
        | 1,hj => simp at hj;subst hj;exact hBb.cell 1
        | 2,hj => simp at hj;subst hj;exact hBb.cell 2
        | j + 3,hj => simp at hj
       ·
        intro v' w1 hL1 hA1 hnn1;have hs10 : L 10 = false := by cases h : L 10 with | false => rfl | true => rw [s10 h] at hlk;cases hlk
        refine hK (upd U 47 v') _ _ ?_ ?_
        · rw [HA.out];kernel_rfl
        · exact ⟨(fb.trans (hA1.bel.mono hLg)),(fk.trans hA1.keep),(Nat.le_trans fs hA1.size),((hA1.other _ oX.lt naX).trans oX),((hA1.other _ oB.lt naB).trans oB),((hA1.other _ oR.lt naR).trans oR),((hA1.other _ oC.lt naC).trans oC),(flip_a (P := fun v => Blk _ _ _ v) hs10 ((hA1.other _ (Blk.lt wO) naO).trans wO)),(fun h => by cases h),f0,f1,f2,f3,f4,f5,f6,(fun _ h => by cases h),(fun _ => ⟨hL1,hnn1⟩),f9,(fun _ => rfl),(fun _ => by simp [haf]),(fun _ => by simp [haf])⟩
      refine StepsU.run rfl ?_ ?_
      ·
       intro L U wr hF hlk haf A K hA hK;have HA : Hid (A = putAll _ _ U) := hA;clear hA;simp [Aft,Region.binds] at haf;obtain ⟨fb,fk,fs,oX,oB,oR,oC,wO,fl,f0,f1,f2,f3,f4,f5,f6,f7,f8,f9,s10,p1,p7⟩ := hF;have e9 : A.tmps[9]? = some (.pointer (some ⟨bO,0,none⟩)) := by rw [HA.out];kernel_rfl
       refine ⟨?_⟩;go_simp;refine hK (upd U 48 (.pointer (some ⟨bO,0,none⟩))) _ _ ?_ ?_
       · rw [HA.out];kernel_rfl
       · exact ⟨fb,fk,fs,oX,oB,oR,oC,wO,fl,f0,f1,f2,f3,f4,f5,f6,f7,f8,(fun _ => rfl),s10,p1,p7⟩
      refine StepsU.run rfl ?_ StepsU.nil
      ·
       intro L U wr hF hlk haf A K hA hK;have HA : Hid (A = putAll _ _ U) := hA;clear hA;simp [Aft,Region.binds] at haf;obtain ⟨fb,fk,fs,oX,oB,oR,oC,wO,fl,f0,f1,f2,f3,f4,f5,f6,f7,f8,f9,s10,p1,p7⟩ := hF;have g9 := f9 (by simp [haf])
       have e48 := rd HA.out 48 (by kernel_rfl) g9
       have g8 := f8 (by simp [haf])
       obtain ⟨k1,k2⟩ := g8;obtain ⟨ao',m',cap',hv'⟩ := LstG.isSlice k1;have e47 := rd HA.out 47 (by kernel_rfl) hv'
       have o9 := wO;rw [hlk,cond_false] at o9;have q0 := Blk.frozen o9 0;have c0 := Blk.cell o9 0;simp at c0;have hlt := Blk.lt o9;have hkp := keepN_stores (by decide) [.slice ao' m' cap'] 0 o9 (nuT _ _ _ _ _ _ _) (by intro u hu;simp at hu;subst hu;exact noU_slice _ _ _)
       have hnew : Blk 41 (stores wr (bO) 0 [.slice ao' m' cap']) (bO) #[U 47,.bool xX,.slice aX nX cX] := by rw [hv'];exact Blk.set o9 0 _
       have k1' := LstG.storesO k1 o9 (by decide) 0 [.slice ao' m' cap']
       refine ⟨?_⟩;go_simp;refine hK U _ _ ?_ ?_
       · exact HA.out
       · exact ⟨(below_stores geO [.slice ao' m' cap'] 0 fb),(fk.trans hkp),(by simp;exact fs),(oX.otherS neOX 0 [.slice ao' m' cap']),(oB.otherS neOB 0 [.slice ao' m' cap']),(oR.otherS neOR 0 [.slice ao' m' cap']),(oC.otherS neOC 0 [.slice ao' m' cap']),hnew,(fun h => by simp [haf] at h),f0,f1,f2,f3,f4,f5,f6,(fun _ h => by simp [haf] at h),(fun _ => ⟨k1',k2⟩),f9,(fun _ => by simp [haf]),p1,p7⟩
     clear hbw oX oB oR oC oO hL;intro L U2 V2 hall hF;obtain ⟨hbw,fk,fs,oX,oB,oR,oC,wO,fl,f0,f1,f2,f3,f4,f5,f6,f7,f8,f9,s10,p1,p7⟩ := hF;clear fl s10 p1 p7;have g0 := f0 (hall 0 (by decide))
     have g1 := f1 (hall 1 (by decide))
     have g2 := f2 (hall 2 (by decide))
     have g3 := f3 (hall 3 (by decide))
     have g4 := f4 (hall 4 (by decide))
     have g5 := f5 (hall 5 (by decide))
     have g6 := f6 (hall 6 (by decide))
     have g8 := f8 (hall 8 (by decide))
     have g9 := f9 (hall 9 (by decide))
     rw [hall 10 (by decide),cond_true] at wO
     clear hall f0 f1 f2 f3 f4 f5 f6 f7 f8 f9;replace hE := hE.keepN fk;replace hC := hC.keepN fk;replace hN := hN.keepN fk;replace ltX := oX.lt;replace ltB := oB.lt;replace ltR := oR.lt;replace ltC := oC.lt;try clear g0
     try clear g1
     try clear g2
     try clear g3
     try clear g4
     try clear g5
     try clear g6
     try clear g9
     clear hbW;simp only [setM_some,setM_none,setM_nil];clear fk fs;obtain ⟨hL2,hne2⟩ := g8;have hE2 := ElsQ.app hE (by rw [HXL.out,HQL.out]) (ElsQ.one (v := pv) (k4.below hbw))
     have hB2 := HB0.out.below hbw;go_wp2;go_roundw
     case rel => exact ⟨k + 1,n + 1,_,_,by omega,by go_num,oX,oB,oR,oC,wO,hL2,by rw [HXS];exact hE2,(by show _ = _;rw [HXS,List.length_append,HQL.out];rfl),hB2,hC,hN,hbw⟩
     case measure => simp [intOf];omega
   ·
    have hkq : k = a.length := by rw [HLN.out];omega
    rw [hkq,List.take_of_length_le (Nat.le_refl _)] at hE HQL;clear hkq;obtain ⟨ao,cap,hv9,hc1,hc2,hc3,hqa⟩ := hL.qarr hE HQL.out;injection hv9 with e1 e2 e3;subst e1;subst e2;subst e3;clear hL hE;have hO : RTP wl ao0 m0 cap0 xX aX nX cX (exP a v) r := ⟨HQL.out,hc1,hc2,hc3,hqa,hN,exP_fine HFA.out v,HRL.out⟩;clear hqa hN;obtain ⟨Xc0,Xc1,Xc2⟩ := oX.three;obtain ⟨Xk0,Xk1,Xk2⟩ := oX.frozen3;obtain ⟨Bc0,Bc1,Bc2⟩ := oB.three;obtain ⟨Bk0,Bk1,Bk2⟩ := oB.frozen3;obtain ⟨Cc0,Cc1,Ck0,Ck1⟩ := oC.two;go_wp2_with fail
    refine (rscale_any _ _ b t z _ hB.val hC).mono ?_;rintro e w2 ⟨uM,kM,rfl,hM,hb⟩;clear Xc0 Xc1 Xc2 Xk0 Xk1 Xk2;clear Bc0 Bc1 Bc2 Bk0 Bk1 Bk2;clear Cc0 Cc1 Ck0 Ck1;replace oX := oX.stay hb;replace ltX := oX.lt;replace oB := oB.stay hb;replace ltB := oB.lt;replace oR := oR.stay hb;replace ltR := oR.lt;replace oC := oC.stay hb;replace ltC := oC.lt;replace oO := oO.stay hb;replace ltO := oO.lt;replace hB := hB.below hb;replace hC := hC.below hb;replace hO := hO.below hb;replace hbw := hbw.step hb (Nat.le_refl _);clear hb;obtain ⟨pM,qM,rM,xM,aM,nM,cM,hvM⟩ := QRes.shape9 hM;subst hvM;have hn := below_new w2 (.cells #[.slice pM qM rM,.bool xM,.slice aM nM cM] 41 (0,0));have oM := Blk.new w2 41 #[.slice pM qM rM,.bool xM,.slice aM nM cM];have neXM : w.heap.size ≠ w2.heap.size := by have := ltX;(try simp at this);omega
    have neBM : w.heap.size + 1 ≠ w2.heap.size := by have := ltB;(try simp at this);omega
    have neRM : w.heap.size + 1 + 1 ≠ w2.heap.size := by have := ltR;(try simp at this);omega
    have neCM : bC ≠ w2.heap.size := by have := ltC;(try simp at this);omega
    have neOM : bO ≠ w2.heap.size := by have := ltO;(try simp at this);omega
    have lwM : w.heap.size ≤ w2.heap.size := by have := hbw.size;(try simp at this);omega
    replace oX := oX.stay hn;replace ltX := oX.lt;replace oB := oB.stay hn;replace ltB := oB.lt;replace oR := oR.stay hn;replace ltR := oR.lt;replace oC := oC.stay hn;replace ltC := oC.lt;replace oO := oO.stay hn;replace ltO := oO.lt;replace hB := hB.below hn;replace hC := hC.below hn;replace hO := hO.below hn;replace hM := hM.below hn;replace hbw := hbw.step hn (Nat.le_refl _);clear hn;have ltM := oM.lt;rcases hM with ⟨hok,rfl,hM⟩ | ⟨hno,rfl,hM⟩
    ·
     have HOK : Hid (tMulOk b t z) := hok;clear hok;have HZN : Hid (z ≠ 0) := HTC.out.1 HT.out;rw [show scP b z = mulP b z from if_neg HZN.out] at hM
     obtain ⟨Oc0,Oc1,Oc2⟩ := oO.three;obtain ⟨Ok0,Ok1,Ok2⟩ := oO.frozen3;obtain ⟨Mc0,Mc1,Mc2⟩ := oM.three;obtain ⟨Mk0,Mk1,Mk2⟩ := oM.frozen3;go_wp2_with fail
     refine (radd_any _ _ (exP a v) (mulP b z) r (t * z) _ hO.val hM).mono ?_;rintro e w3 ⟨uS,kS,rfl,hS,hb⟩;clear Oc0 Oc1 Oc2 Ok0 Ok1 Ok2;clear Mc0 Mc1 Mc2 Mk0 Mk1 Mk2;replace oX := oX.stay hb;replace ltX := oX.lt;replace oB := oB.stay hb;replace ltB := oB.lt;replace oR := oR.stay hb;replace ltR := oR.lt;replace oC := oC.stay hb;replace ltC := oC.lt;replace oO := oO.stay hb;replace ltO := oO.lt;replace oM := oM.stay hb;replace ltM := oM.lt;replace hB := hB.below hb;replace hC := hC.below hb;replace hO := hO.below hb;replace hM := hM.below hb;replace hbw := hbw.step hb (Nat.le_refl _);clear hb;obtain ⟨pS,qS,rS,xS,aS,nS,cS,hvS⟩ := QRes.shape9 hS;subst hvS;have HRM : Hid (exP a v = remP a v) := exP_rem HFA.out.1 HT.out;rw [HRM.out] at hS;have HP1 : Hid (putP a v b = addP (remP a v) (mulP b z)) := by show _ = _;unfold putP;rw [if_pos (thereB_iff.2 HT.out),HCZ.out]
     have HP2 : Hid (putR a r v t = r + t * z) := by show _ = _;unfold putR;rw [if_pos (thereB_iff.2 HT.out),HCZ.out]
     have HPO : Hid (putOk a r v b t ↔ tAddOk (remP a v) (mulP b z) r (t * z)) := by
      show _ ↔ _
      unfold putOk;rw [HCZ.out];exact ⟨fun h => (h HT.out).2,fun h _ => ⟨HOK.out,h⟩⟩
     obtain ⟨Rc0,Rc1,Rc2⟩ := oR.three;obtain ⟨Rk0,Rk1,Rk2⟩ := oR.frozen3;try simp only []
     try go_at_K
     repeat (first | go_values | go_skip | go_guarded | go_step | go_upon)
     refine bodyPost_ret (v := .tuple #[.agg #[.slice pS qS rS,.bool xS,.slice aS nS cS],.int .i64 kS]) (by simp [results,Tryz.results26,go_sem,Rc0,Rc1,Rc2]) rfl ?_
     obtain ⟨K1,B1,_⟩ := resTq (by decide) (by decide) oR hbw lwR pS qS rS xS aS nS cS
     rw [HP1.out,HP2.out];refine ⟨_,_,rfl,?_,B1⟩;rcases hS with ⟨h1,h2,h3⟩ | ⟨h1,h2,h3⟩
     · exact Or.inl ⟨HPO.out.2 h1,h2,h3.keepQ K1⟩
     · exact Or.inr ⟨fun k => h1 (HPO.out.1 k),h2,h3.keepQ K1⟩
    ·
     have HNO : Hid (¬ putOk a r v b t) := fun k => hno (by have := (k HT.out).1;rw [HCZ.out] at this;exact this)
     clear hM hno;obtain ⟨Rc0,Rc1,Rc2⟩ := oR.three;obtain ⟨Rk0,Rk1,Rk2⟩ := oR.frozen3;try simp only []
     try go_at_K
     repeat (first | go_values | go_skip | go_guarded | go_step | go_upon)
     refine bodyPost_ret (v := .tuple #[.agg #[.slice none 0 0,.bool false,.slice none 0 0],.int .i64 11]) (by simp [results,Tryz.results26,go_sem,Rc0,Rc1,Rc2]) rfl ?_
     obtain ⟨K1,B1,_⟩ := resTq (by decide) (by decide) oR hbw lwR none 0 0 false none 0 0
     exact ⟨_,_,rfl,Or.inr ⟨HNO.out,rfl,(RTP.zero _).val⟩,B1⟩
end Go.Proofs.YteefniagebcagaaGreatDoor
