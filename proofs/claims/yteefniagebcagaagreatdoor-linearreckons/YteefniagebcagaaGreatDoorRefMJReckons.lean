/- Contracts of suretyref03's Scale and Neg; they prove no statement of the seat. -/
import Derived.Test.YteefniagebcagaaGreatDoorRefDJReckons
namespace Go.Proofs.YteefniagebcagaaGreatDoor
open Go.RowKit
set_option linter.unusedVariables false
set_option maxRecDepth 20000 in
set_option maxHeartbeats 16000000 in
theorem rscale_any (vX vB : Value) (a : List (Nat × Int)) (r z : Int) (w : World) (hX : RTermR w vX a r) (hB : RNum w vB z 400) :
  Calls Tryz.prog 24 #[vX,vB] w fun e w' => ∃ v c,e = .returned (.tuple #[v,.int .i64 c]) ∧ QRes (tMulOk a r z) (scP a z) (r * z) v c w' ∧ Below w.heap.size w w' := by
 obtain ⟨pX,qX,rX,xX,aX,nX,cX,rfl,hX⟩ := hX;obtain ⟨xB,aB,nB,cB,rfl⟩ := hB.shape;have ha0 := hX.arr;have oX := (((Blk.new w 41 #[.slice pX qX rX,.bool xX,.slice aX nX cX]).alloc (.cells #[.bool xB,.slice aB nB cB] 39 (0,0))).alloc (.cells #[.slice none 0 0,.bool false,.slice none 0 0] 41 (0,0)));have oB := ((Blk.new (w.alloc (.cells #[.slice pX qX rX,.bool xX,.slice aX nX cX] 41 (0,0))) 39 #[.bool xB,.slice aB nB cB]).alloc (.cells #[.slice none 0 0,.bool false,.slice none 0 0] 41 (0,0)));have oR := (Blk.new ((w.alloc (.cells #[.slice pX qX rX,.bool xX,.slice aX nX cX] 41 (0,0))).alloc (.cells #[.bool xB,.slice aB nB cB] 39 (0,0))) 41 #[.slice none 0 0,.bool false,.slice none 0 0]);simp only [World.size_alloc] at oB oR;have hbw : Below w.heap.size w (((w.alloc (.cells #[.slice pX qX rX,.bool xX,.slice aX nX cX] 41 (0,0))).alloc (.cells #[.bool xB,.slice aB nB cB] 39 (0,0))).alloc (.cells #[.slice none 0 0,.bool false,.slice none 0 0] 41 (0,0))) := by go_grown
 replace hX := hX.below hbw;replace hB := hB.below hbw;have ltX := oX.lt;have lwX : w.heap.size ≤ w.heap.size := by omega
 have ltB := oB.lt;have lwB : w.heap.size ≤ w.heap.size + 1 := by omega
 have ltR := oR.lt;have lwR : w.heap.size ≤ w.heap.size + 1 + 1 := by omega
 go_enter Tryz.func24,Tryz.ntmps24;have HX : Hid (QArr w pX a) := ha0;have HLN : Hid (a.length = qX) := hX.len;have hlen := hX.n_le;have HFA : Hid (Fine a) := hX.fine;clear ha0;obtain ⟨Xc0,Xc1,Xc2⟩ := oX.three;obtain ⟨Xk0,Xk1,Xk2⟩ := oX.frozen3;obtain ⟨Bc0,Bc1,Bk0,Bk1⟩ := oB.two;go_wp2_with fail
 refine (rMul_any _ _ r z (r * z) 400 400 _ hX.rest hB (by decide) rfl).mono ?_
 rintro e w1 ⟨xO,aO,nO,cO,rfl,hN,hb⟩;clear Xc0 Xc1 Xc2 Xk0 Xk1 Xk2;clear Bc0 Bc1 Bk0 Bk1;replace oX := oX.stay hb;replace ltX := oX.lt;replace oB := oB.stay hb;replace ltB := oB.lt;replace oR := oR.stay hb;replace ltR := oR.lt;replace hX := hX.below hb;replace hB := hB.below hb;replace hbw := hbw.step hb (Nat.le_refl _);clear hb;have hn := below_new w1 (.cells #[.slice none 0 0,.bool xO,.slice aO nO cO] 41 (0,0));have oO := Blk.new w1 41 #[.slice none 0 0,.bool xO,.slice aO nO cO];have neXO : w.heap.size ≠ w1.heap.size := by have := ltX;(try simp at this);omega
 have neBO : w.heap.size + 1 ≠ w1.heap.size := by have := ltB;(try simp at this);omega
 have neRO : w.heap.size + 1 + 1 ≠ w1.heap.size := by have := ltR;(try simp at this);omega
 have lwO : w.heap.size ≤ w1.heap.size := by have := hbw.size;(try simp at this);omega
 replace oX := oX.stay hn;replace ltX := oX.lt;replace oB := oB.stay hn;replace ltB := oB.lt;replace oR := oR.stay hn;replace ltR := oR.lt;replace hX := hX.below hn;replace hB := hB.below hn;replace hN := hN.below hn;replace hbw := hbw.step hn (Nat.le_refl _);clear hn;have ltO := oO.lt;obtain ⟨Oc0,Oc1,Oc2⟩ := oO.three;obtain ⟨Ok0,Ok1,Ok2⟩ := oO.frozen3;go_wp2_with fail
 refine (toobig_r _ (r * z) 801 (!decide ((r * z).natAbs < lim)) _ hN (by decide) (by rw [← decide_not,decide_eq_decide];omega)).mono ?_
 rintro e w2 ⟨rfl,hb⟩;clear Oc0 Oc1 Oc2 Ok0 Ok1 Ok2;replace oX := oX.stay hb;replace ltX := oX.lt;replace oB := oB.stay hb;replace ltB := oB.lt;replace oR := oR.stay hb;replace ltR := oR.lt;replace oO := oO.stay hb;replace ltO := oO.lt;replace hX := hX.below hb;replace hB := hB.below hb;replace hN := hN.below hb;replace hbw := hbw.step hb (Nat.le_refl _);clear hb;have hnn : (!(!decide ((r * z).natAbs < lim))) = decide ((r * z).natAbs < lim) := by simp
 obtain ⟨bO,hbO⟩ : ∃ b,b = w1.heap.size := ⟨_,rfl⟩;rw [← hbO] at oO neXO neBO neRO lwO ltO ⊢;clear hbO hX;obtain ⟨Xc0,Xc1,Xc2⟩ := oX.three;obtain ⟨Xk0,Xk1,Xk2⟩ := oX.frozen3;go_wp2;go_loopw [7,8] (fun u7 i wl => ∃ (k n : Nat) (ok : Bool) (u0 : Value) (xs : List Value),k ≤ qX ∧ u7 = .bool ok ∧ i = .int .i64 k ∧ Blk 41 wl w.heap.size #[.slice pX qX rX,.bool xX,.slice aX nX cX] ∧ Blk 39 wl (w.heap.size + 1) #[.bool xB,.slice aB nB cB] ∧ Blk 41 wl (w.heap.size + 1 + 1) #[.slice none 0 0,.bool false,.slice none 0 0] ∧ Blk 41 wl bO #[u0,.bool xO,.slice aO nO cO] ∧ LstG 3 70 w.heap.size wl u0 n xs ∧ ElsQ wl xs (scP (a.take k) z) ∧ Hid ((scP (a.take k) z).length = n) ∧ RNum wl (.agg #[.bool xO,.slice aO nO cO]) (r * z) 801 ∧ RNum wl (.agg #[.bool xB,.slice aB nB cB]) z 400 ∧ Hid (ok = true ↔ fitM a r z k) ∧ Below w.heap.size w wl) (fun _ i _ => qX - (intOf i).toNat)
 case atStart => exact ⟨0,0,_,_,[],Nat.zero_le _,rfl,rfl,oX,oB,oR,oO,LstG.nil _ _ _ _,by rw [List.take_zero,scP_zero];exact ElsQ.nil _,(by show _ = _;rw [List.take_zero,scP_zero];rfl),hN,hB,(by show _ ↔ _;simp [fitM]),hbw⟩
 case round =>
  rename World => wl
  clear oX oB oR oO hbw hN hB ltX ltB ltR ltO Xc0 Xc1 Xc2 Xk0 Xk1 Xk2 hnn;obtain ⟨k,n,ok,u0,xs,hk,h7,h8,oX,oB,oR,oO,hL,hE,HQL,hN,hB,HI,hbw⟩ := hrel;subst h7;subst h8;have ltX := oX.lt;have ltB := oB.lt;have ltR := oR.lt;have ltO := oO.lt;obtain ⟨ao0,m0,cap0,rfl⟩ := LstG.isSlice hL;by_cases h0 : k < qX
  ·
   obtain ⟨gE,oE,sE,aE,mE,cE,had,k1,k2,k3,k4⟩ := HX.out.at k (by rw [HLN.out];exact h0)
   subst had;obtain ⟨pv,hpv⟩ : ∃ x9,x9 = (a.getD k (0,0)).1 := ⟨_,rfl⟩;obtain ⟨pz,hpz⟩ : ∃ x9,x9 = (a.getD k (0,0)).2 := ⟨_,rfl⟩;rw [← hpv] at k1;rw [← hpz] at k4;have HPV : Hid (a.getD k (0,0) = (pv,pz)) := by show _ = _;rw [hpv,hpz]
   clear hpv hpz;have HPF : Hid (pz ≠ 0 ∧ pz.natAbs < lim ∧ pv < 4096) := HFA.out.at (by rw [HLN.out];exact h0) HPV.out
   have hn9 : n ≤ 9000 := by have := scP_len (a.take k) z;have h2 := HQL.out;rw [List.length_take] at this;omega
   obtain ⟨Xc0,Xc1,Xc2⟩ := oX.three;obtain ⟨Xk0,Xk1,Xk2⟩ := oX.frozen3;go_wp2;clear Xc0 Xc1 Xc2 Xk0 Xk1 Xk2;have hbW := hbw;refine wp_region_M (by kernel_rfl) [9,26,27,28,29,30,31,32,33] [none,none,none,none,none,none,none,none,none,some 9,none,none,none,none,none,none,none,none,none,none,none,none,none,none,none,none,some 26,some 27,some 28,some 29,some 30,some 31,some 32,some 33] (fun U => by kernel_rfl) (fun L U wr => Below w.heap.size w wr ∧ KeepQ wl wr ∧ wl.heap.size ≤ wr.heap.size ∧ Blk 41 wr (w.heap.size) #[.slice (some ⟨gE,oE,none⟩) qX rX,.bool xX,.slice aX nX cX] ∧ Blk 39 wr (w.heap.size + 1) #[.bool xB,.slice aB nB cB] ∧ Blk 41 wr (w.heap.size + 1 + 1) #[.slice none 0 0,.bool false,.slice none 0 0] ∧ Blk 41 wr (bO) #[.slice ao0 m0 cap0,.bool xO,.slice aO nO cO] ∧ (L 0 = true → IS (.pointer (some ⟨w.heap.size,0,none⟩)) (U 26) wr) ∧ (L 1 = true → IS (.slice (some ⟨gE,oE,none⟩) qX rX) (U 27) wr) ∧ (L 2 = true → IS (.int .i64 k) (U 28) wr) ∧ (L 3 = true → IS (.pointer (some ⟨gE,oE + k * 3,none⟩)) (U 29) wr) ∧ (L 4 = true → IS (.pointer (some ⟨gE,oE + k * 3 + 1,none⟩)) (U 30) wr) ∧ (L 5 = true → IS (.agg #[.bool sE,.slice aE mE cE]) (U 31) wr) ∧ (L 6 = true → IS (.agg #[.bool xB,.slice aB nB cB]) (U 32) wr) ∧ (L 7 = true → RNM (pz * z) 801 (U 33) wr) ∧ (L 8 = true → NEWU 39 wl.heap.size wr (U 9) (bif L 9 then U 33 else .agg #[.bool false,.slice none 0 0])) ∧ (L 9 = true → L 7 = true) ∧ (L 9 = true → L 8 = true)) (by kernel_rfl) ?_ ?_ ?_
   · exact fun U => ⟨hbw.drew,KeepQ.below (Below.refl _ _).drew,Nat.le_refl _,oX.drew,oB.drew,oR.drew,oO.drew,(fun h => by cases h),(fun h => by cases h),(fun h => by cases h),(fun h => by cases h),(fun h => by cases h),(fun h => by cases h),(fun h => by cases h),(fun h => by cases h),(fun h => by cases h),(fun h => by cases h),(fun h => by cases h)⟩
   ·
    refine StepsU.run rfl ?_ ?_
    ·
     intro L U wr hF hlk haf A K hA hK;have HA : Hid (A = putAll _ _ U) := hA;clear hA;simp [Aft,Region.binds] at haf;obtain ⟨fb,fk,fs,oX,oB,oR,oO,f0,f1,f2,f3,f4,f5,f6,f7,f8,s9,m8⟩ := hF;have e2 : A.tmps[2]? = some (.pointer (some ⟨w.heap.size,0,none⟩)) := by rw [HA.out];kernel_rfl
     refine ⟨?_⟩;go_simp;refine hK (upd U 26 (.pointer (some ⟨w.heap.size,0,none⟩))) _ _ ?_ ?_
     · rw [HA.out];kernel_rfl
     · exact ⟨fb,fk,fs,oX,oB,oR,oO,(fun _ => rfl),f1,f2,f3,f4,f5,f6,f7,f8,s9,m8⟩
    refine StepsU.run rfl ?_ ?_
    ·
     intro L U wr hF hlk haf A K hA hK;have HA : Hid (A = putAll _ _ U) := hA;clear hA;simp [Aft,Region.binds] at haf;obtain ⟨fb,fk,fs,oX,oB,oR,oO,f0,f1,f2,f3,f4,f5,f6,f7,f8,s9,m8⟩ := hF;have g0 := f0 (by simp [haf])
     have e26 := rd HA.out 26 (by kernel_rfl) g0
     have c0 := Blk.cell oX 0;simp at c0;refine ⟨?_⟩;go_simp;refine hK (upd U 27 (.slice (some ⟨gE,oE,none⟩) qX rX)) _ _ ?_ ?_
     · rw [HA.out];kernel_rfl
     · exact ⟨fb,fk,fs,oX,oB,oR,oO,f0,(fun _ => rfl),f2,f3,f4,f5,f6,f7,f8,s9,m8⟩
    refine StepsU.run rfl ?_ ?_
    ·
     intro L U wr hF hlk haf A K hA hK;have HA : Hid (A = putAll _ _ U) := hA;clear hA;simp [Aft,Region.binds] at haf;obtain ⟨fb,fk,fs,oX,oB,oR,oO,f0,f1,f2,f3,f4,f5,f6,f7,f8,s9,m8⟩ := hF;have e8 : A.tmps[8]? = some (.int .i64 k) := by rw [HA.out];kernel_rfl
     refine ⟨?_⟩;go_simp;refine hK (upd U 28 (.int .i64 k)) _ _ ?_ ?_
     · rw [HA.out];kernel_rfl
     · exact ⟨fb,fk,fs,oX,oB,oR,oO,f0,f1,(fun _ => rfl),f3,f4,f5,f6,f7,f8,s9,m8⟩
    refine StepsU.run rfl ?_ ?_
    ·
     intro L U wr hF hlk haf A K hA hK;have HA : Hid (A = putAll _ _ U) := hA;clear hA;simp [Aft,Region.binds] at haf;obtain ⟨fb,fk,fs,oX,oB,oR,oO,f0,f1,f2,f3,f4,f5,f6,f7,f8,s9,m8⟩ := hF;have g1 := f1 (by simp [haf])
     have g2 := f2 (by simp [haf])
     have e27 := rd HA.out 27 (by kernel_rfl) g1
     have e28 := rd HA.out 28 (by kernel_rfl) g2
     refine ⟨?_⟩;go_simp;refine hK (upd U 29 (.pointer (some ⟨gE,oE + k * 3,none⟩))) _ _ ?_ ?_
     · rw [HA.out];kernel_rfl
     · exact ⟨fb,fk,fs,oX,oB,oR,oO,f0,f1,f2,(fun _ => rfl),f4,f5,f6,f7,f8,s9,m8⟩
    refine StepsU.run rfl ?_ ?_
    ·
     intro L U wr hF hlk haf A K hA hK;have HA : Hid (A = putAll _ _ U) := hA;clear hA;simp [Aft,Region.binds] at haf;obtain ⟨fb,fk,fs,oX,oB,oR,oO,f0,f1,f2,f3,f4,f5,f6,f7,f8,s9,m8⟩ := hF;have g3 := f3 (by simp [haf])
     have e29 := rd HA.out 29 (by kernel_rfl) g3
     refine ⟨?_⟩;go_simp;refine hK (upd U 30 (.pointer (some ⟨gE,oE + k * 3 + 1,none⟩))) _ _ ?_ ?_
     · rw [HA.out];kernel_rfl
     · exact ⟨fb,fk,fs,oX,oB,oR,oO,f0,f1,f2,f3,(fun _ => rfl),f5,f6,f7,f8,s9,m8⟩
    refine StepsU.run rfl ?_ ?_
    ·
     intro L U wr hF hlk haf A K hA hK;have HA : Hid (A = putAll _ _ U) := hA;clear hA;simp [Aft,Region.binds] at haf;obtain ⟨fb,fk,fs,oX,oB,oR,oO,f0,f1,f2,f3,f4,f5,f6,f7,f8,s9,m8⟩ := hF;have g4 := f4 (by simp [haf])
     have kA1 := (fb.cell (p := ⟨gE,oE + k * 3 + 1,none⟩) (World.block_lt_of_cell? w _ k2)).trans k2;have kA2 := (fb.cell (p := ⟨gE,oE + k * 3 + 2,none⟩) (World.block_lt_of_cell? w _ k3)).trans k3;have e30 := rd HA.out 30 (by kernel_rfl) g4
     refine ⟨?_⟩;go_simp;refine hK (upd U 31 (.agg #[.bool sE,.slice aE mE cE])) _ _ ?_ ?_
     · rw [HA.out];kernel_rfl
     · exact ⟨fb,fk,fs,oX,oB,oR,oO,f0,f1,f2,f3,f4,(fun _ => rfl),f6,f7,f8,s9,m8⟩
    refine StepsU.run rfl ?_ ?_
    ·
     intro L U wr hF hlk haf A K hA hK;have HA : Hid (A = putAll _ _ U) := hA;clear hA;simp [Aft,Region.binds] at haf;obtain ⟨fb,fk,fs,oX,oB,oR,oO,f0,f1,f2,f3,f4,f5,f6,f7,f8,s9,m8⟩ := hF;have e3 : A.tmps[3]? = some (.pointer (some ⟨w.heap.size + 1,0,none⟩)) := by rw [HA.out];kernel_rfl
     have c0 := Blk.cell oB 0;have c1 := Blk.cell oB 1;simp at c0;simp at c1;refine ⟨?_⟩;go_simp;refine hK (upd U 32 (.agg #[.bool xB,.slice aB nB cB])) _ _ ?_ ?_
     · rw [HA.out];kernel_rfl
     · exact ⟨fb,fk,fs,oX,oB,oR,oO,f0,f1,f2,f3,f4,f5,(fun _ => rfl),f7,f8,s9,m8⟩
    refine StepsU.run rfl ?_ ?_
    ·
     intro L U wr hF hlk haf A K hA hK;have HA : Hid (A = putAll _ _ U) := hA;clear hA;simp [Aft,Region.binds] at haf;obtain ⟨fb,fk,fs,oX,oB,oR,oO,f0,f1,f2,f3,f4,f5,f6,f7,f8,s9,m8⟩ := hF;have g5 := f5 (by simp [haf])
     have e31 := rd HA.out 31 (by kernel_rfl) g5
     have g6 := f6 (by simp [haf])
     have e32 := rd HA.out 32 (by kernel_rfl) g6
     refine ⟨?_⟩;go_simp;refine (rMul_any _ _ pz z (pz * z) 400 400 _ ((k4.short HPF.out.2.1).below fb) (hB.keepQ fk) (by decide) rfl).mono ?_
     rintro e w1 ⟨u1,u2,u3,u4,rfl,hr,hb⟩;go_simp;have hs9 : L 9 = false := by cases h : L 9 with | false => rfl | true => rw [s9 h] at hlk;cases hlk
     refine hK (upd U 33 (.agg #[.bool u1,.slice u2 u3 u4])) _ _ ?_ ?_
     · rw [HA.out];kernel_rfl
     · exact ⟨(fb.step hb (Nat.le_refl _)),(fk.trans (KeepQ.below hb)),(Nat.le_trans fs hb.size),(oX.stay hb),(oB.stay hb),(oR.stay hb),(oO.stay hb),f0,f1,f2,f3,f4,f5,f6,(fun _ => hr),(fun h => flip_v (P := fun v => NEWU _ _ _ _ v) hs9 ((fun h => (f8 h).below hb) h)),(fun _ => rfl),m8⟩
    refine StepsU.run rfl ?_ ?_
    ·
     intro L U wr hF hlk haf A K hA hK;have HA : Hid (A = putAll _ _ U) := hA;clear hA;simp [Aft,Region.binds] at haf;obtain ⟨fb,fk,fs,oX,oB,oR,oO,f0,f1,f2,f3,f4,f5,f6,f7,f8,s9,m8⟩ := hF;have hst : L 9 = false := by cases h : L 9 with | false => rfl | true => rw [m8 h] at hlk;cases hlk
     refine ⟨?_⟩;go_simp;have hb := below_new wr (.cells #[.bool false,.slice none 0 0] 39 (0,0));refine hK (upd U 9 (.pointer (some ⟨wr.heap.size,0,none⟩))) _ _ ?_ ?_
     · rw [HA.out];kernel_rfl
     · exact ⟨(fb.step hb (Nat.le_refl _)),(fk.trans (KeepQ.below hb)),(Nat.le_trans fs hb.size),(oX.stay hb),(oB.stay hb),(oR.stay hb),(oO.stay hb),f0,f1,f2,f3,f4,f5,f6,(mvQ mq_rnm (KeepQ.below hb) f7),(fun _ => newU_zero (by simp [hst]) (NEWU.mk fs (nuI _ _ _ _))),s9,(fun _ => rfl)⟩
    refine StepsU.run rfl ?_ StepsU.nil
    ·
     intro L U wr hF hlk haf A K hA hK;have HA : Hid (A = putAll _ _ U) := hA;clear hA;simp [Aft,Region.binds] at haf;obtain ⟨fb,fk,fs,oX,oB,oR,oO,f0,f1,f2,f3,f4,f5,f6,f7,f8,s9,m8⟩ := hF;have g7 := f7 (by simp [haf])
     obtain ⟨yx,ya,yn,yc,hsrc⟩ := RNum.shape g7;have e33 := rd HA.out 33 (by kernel_rfl) hsrc
     have g8 := f8 (by simp [haf])
     rw [hlk,cond_false] at g8;obtain ⟨b,cs,hp,hBb,hcs,hblk,hN⟩ := g8;injection hcs with hcs;subst hcs;have e9 := rd HA.out 9 (by kernel_rfl) hp
     have q0 := hblk.frozen 0;have q1 := hblk.frozen 1;have c0 := hblk.cell 0;have c1 := hblk.cell 1;simp at c0;simp at c1;have hlt := hblk.lt;refine ⟨?_⟩;go_simp;refine hK U _ _ ?_ ?_
     · exact HA.out
     · exact ⟨(below_stores (Nat.le_trans (by exact hbW.size) hBb) [.bool yx,.slice ya yn yc] 0 fb),(fk.trans (keepQ_stores (by decide) (by decide) [.bool yx,.slice ya yn yc] 0 hblk (nuI _ _ _ _) (nuI _ _ _ _))),(by simp;exact fs),(oX.otherS (Nat.ne_of_gt (Nat.lt_of_lt_of_le ltX hBb)) 0 [.bool yx,.slice ya yn yc]),(oB.otherS (Nat.ne_of_gt (Nat.lt_of_lt_of_le ltB hBb)) 0 [.bool yx,.slice ya yn yc]),(oR.otherS (Nat.ne_of_gt (Nat.lt_of_lt_of_le ltR hBb)) 0 [.bool yx,.slice ya yn yc]),(oO.otherS (Nat.ne_of_gt (Nat.lt_of_lt_of_le ltO hBb)) 0 [.bool yx,.slice ya yn yc]),f0,f1,f2,f3,f4,f5,f6,(mvQ mq_rnm (keepQ_stores (by decide) (by decide) [.bool yx,.slice ya yn yc] 0 hblk (nuI _ _ _ _) (nuI _ _ _ _)) f7),(fun _ => by simp only [cond_true,Bool.true_or,beq_self_eq_true];exact storedU_new hp hsrc (NEWU.overS hBb hblk [.bool yx,.slice ya yn yc] rfl (nuI _ _ _ _))),(fun _ => by simp [haf]),(fun _ => by simp [haf])⟩
   clear hbw oX oB oR oO;intro L U3 V3 hall hF;obtain ⟨hbw,fk,fs,oX,oB,oR,oO,f0,f1,f2,f3,f4,f5,f6,f7,f8,s9,m8⟩ := hF;clear s9 m8;have g0 := f0 (hall 0 (by decide))
   have g1 := f1 (hall 1 (by decide))
   have g2 := f2 (hall 2 (by decide))
   have g3 := f3 (hall 3 (by decide))
   have g4 := f4 (hall 4 (by decide))
   have g5 := f5 (hall 5 (by decide))
   have g6 := f6 (hall 6 (by decide))
   have g7 := f7 (hall 7 (by decide))
   have g8 := f8 (hall 8 (by decide))
   rw [hall 9 (by decide),cond_true] at g8
   clear hall f0 f1 f2 f3 f4 f5 f6 f7 f8;replace hL := hL.keepQ fk;replace hE := hE.keepQ fk;replace hN := hN.keepQ fk;replace hB := hB.keepQ fk;obtain ⟨bC,csC,hpC,lbC,hcsC,oC,-⟩ := g8;obtain ⟨xC,aC,nC,cC,hvC⟩ := RNum.shape g7;have hC : RNum _ _ _ _ := g7;rw [hvC] at hC hcsC;injection hcsC with hcsC;subst hcsC;clear hvC;have ltC := oC.lt;have neXC : w.heap.size ≠ bC := Nat.ne_of_lt (Nat.lt_of_lt_of_le ltX lbC);have neBC : w.heap.size + 1 ≠ bC := Nat.ne_of_lt (Nat.lt_of_lt_of_le ltB lbC);have neRC : w.heap.size + 1 + 1 ≠ bC := Nat.ne_of_lt (Nat.lt_of_lt_of_le ltR lbC);have neOC : bO ≠ bC := Nat.ne_of_lt (Nat.lt_of_lt_of_le ltO lbC);have lwC : w.heap.size ≤ bC := Nat.le_trans hbW.size lbC;replace ltX := oX.lt;replace ltB := oB.lt;replace ltR := oR.lt;replace ltO := oO.lt;clear lbC;try clear g0
   try clear g1
   try clear g2
   try clear g3
   try clear g4
   try clear g5
   try clear g6
   try clear g7
   clear hbW;simp only [setM_some,setM_none,setM_nil];rw [hpC];clear hpC;clear fk fs;have HST := fitM_step (r := r) (z := z) (by rw [HLN.out];exact h0) HPV.out
   have HSC := scP_step (z := z) (by rw [HLN.out];exact h0) HPV.out HPF.out.1
   cases ok
   ·
    go_wp2;have naX := hL.blk oX (by decide)
    have naB := hL.blk oB (by decide)
    have naR := hL.blk oR (by decide)
    have naC := hL.blk oC (by decide)
    have naO := hL.blk oO (by decide)
    have hLb := hbw.size;have hLg := Nat.le_refl w.heap.size;have geO := lwO;have neOX := Ne.symm neXO;have neOB := Ne.symm neBO;have neOR := Ne.symm neRO;have hbW := hbw;refine wp_region_M (by kernel_rfl) [40,41,42,43,44,45,46,47,48,49,50] [none,none,none,none,none,none,none,none,none,none,none,none,none,none,none,none,none,none,none,none,none,none,none,none,none,none,none,none,none,none,none,none,none,none,none,none,none,none,none,none,some 40,some 41,some 42,some 43,some 44,some 45,some 46,some 47,some 48,some 49,some 50] (fun U => by kernel_rfl) (fun L U wr => Below w.heap.size w wr ∧ KeepN V3 wr ∧ V3.heap.size ≤ wr.heap.size ∧ Blk 41 wr (w.heap.size) #[.slice (some ⟨gE,oE,none⟩) qX rX,.bool xX,.slice aX nX cX] ∧ Blk 39 wr (w.heap.size + 1) #[.bool xB,.slice aB nB cB] ∧ Blk 41 wr (w.heap.size + 1 + 1) #[.slice none 0 0,.bool false,.slice none 0 0] ∧ Blk 39 wr (bC) #[.bool xC,.slice aC nC cC] ∧ Blk 41 wr (bO) (bif L 11 then #[U 49,.bool xO,.slice aO nO cO] else #[.slice ao0 m0 cap0,.bool xO,.slice aO nO cO]) ∧ (L 9 = false → LstG 3 70 w.heap.size wr (.slice ao0 m0 cap0) n xs) ∧ (L 0 = true → IS (.pointer (some ⟨bO,0,none⟩)) (U 40) wr) ∧ (L 1 = true → IS (.slice ao0 m0 cap0) (U 41) wr) ∧ (L 2 = true → IS (.pointer (some ⟨w.heap.size,0,none⟩)) (U 42) wr) ∧ (L 3 = true → IS (.slice (some ⟨gE,oE,none⟩) qX rX) (U 43) wr) ∧ (L 4 = true → IS (.int .i64 k) (U 44) wr) ∧ (L 5 = true → IS (.pointer (some ⟨gE,oE + k * 3,none⟩)) (U 45) wr) ∧ (L 6 = true → IS (.pointer (some ⟨gE,oE + k * 3,none⟩)) (U 46) wr) ∧ (L 7 = true → IS (.int .i64 (pv : Nat)) (U 47) wr) ∧ (L 8 = true → IS (.agg #[.bool xC,.slice aC nC cC]) (U 48) wr) ∧ (L 9 = true → LQ w.heap.size (scP (a.take k) z ++ one pv (pz * z)) (n + 1) (U 49) wr) ∧ (L 10 = true → IS (.pointer (some ⟨bO,0,none⟩)) (U 50) wr) ∧ (L 11 = true → L 9 = true) ∧ (L 9 = true → L 1 = true)) (by kernel_rfl) ?_ ?_ ?_
    · exact fun U => ⟨hbw.drew,KeepN.below (Below.refl _ _).drew,Nat.le_refl _,oX.drew,oB.drew,oR.drew,oC.drew,oO.drew,(fun _ => hL.below (Below.refl _ _).drew),(fun h => by cases h),(fun h => by cases h),(fun h => by cases h),(fun h => by cases h),(fun h => by cases h),(fun h => by cases h),(fun h => by cases h),(fun h => by cases h),(fun h => by cases h),(fun h => by cases h),(fun h => by cases h),(fun h => by cases h),(fun h => by cases h)⟩
    ·
     refine StepsU.run rfl ?_ ?_
     ·
      intro L U wr hF hlk haf A K hA hK;have HA : Hid (A = putAll _ _ U) := hA;clear hA;simp [Aft,Region.binds] at haf;obtain ⟨fb,fk,fs,oX,oB,oR,oC,wO,fl,f0,f1,f2,f3,f4,f5,f6,f7,f8,f9,f10,s11,p1⟩ := hF;have e6 : A.tmps[6]? = some (.pointer (some ⟨bO,0,none⟩)) := by rw [HA.out];kernel_rfl
      refine ⟨?_⟩;go_simp;refine hK (upd U 40 (.pointer (some ⟨bO,0,none⟩))) _ _ ?_ ?_
      · rw [HA.out];kernel_rfl
      · exact ⟨fb,fk,fs,oX,oB,oR,oC,wO,fl,(fun _ => rfl),f1,f2,f3,f4,f5,f6,f7,f8,f9,f10,s11,p1⟩
     refine StepsU.run rfl ?_ ?_
     ·
      intro L U wr hF hlk haf A K hA hK;have HA : Hid (A = putAll _ _ U) := hA;clear hA;simp [Aft,Region.binds] at haf;obtain ⟨fb,fk,fs,oX,oB,oR,oC,wO,fl,f0,f1,f2,f3,f4,f5,f6,f7,f8,f9,f10,s11,p1⟩ := hF;have hst9 : L 11 = false := by cases h : L 11 with | false => rfl | true => rw [p1 (s11 h)] at hlk;cases hlk
      have o9 := wO;rw [hst9,cond_false] at o9;have g0 := f0 (by simp [haf])
      have e40 := rd HA.out 40 (by kernel_rfl) g0
      have c0 := Blk.cell o9 0;simp at c0;refine ⟨?_⟩;go_simp;refine hK (upd U 41 (.slice ao0 m0 cap0)) _ _ ?_ ?_
      · rw [HA.out];kernel_rfl
      · exact ⟨fb,fk,fs,oX,oB,oR,oC,wO,fl,f0,(fun _ => rfl),f2,f3,f4,f5,f6,f7,f8,f9,f10,s11,(fun _ => rfl)⟩
     refine StepsU.run rfl ?_ ?_
     ·
      intro L U wr hF hlk haf A K hA hK;have HA : Hid (A = putAll _ _ U) := hA;clear hA;simp [Aft,Region.binds] at haf;obtain ⟨fb,fk,fs,oX,oB,oR,oC,wO,fl,f0,f1,f2,f3,f4,f5,f6,f7,f8,f9,f10,s11,p1⟩ := hF;have e2 : A.tmps[2]? = some (.pointer (some ⟨w.heap.size,0,none⟩)) := by rw [HA.out];kernel_rfl
      refine ⟨?_⟩;go_simp;refine hK (upd U 42 (.pointer (some ⟨w.heap.size,0,none⟩))) _ _ ?_ ?_
      · rw [HA.out];kernel_rfl
      · exact ⟨fb,fk,fs,oX,oB,oR,oC,wO,fl,f0,f1,(fun _ => rfl),f3,f4,f5,f6,f7,f8,f9,f10,s11,p1⟩
     refine StepsU.run rfl ?_ ?_
     ·
      intro L U wr hF hlk haf A K hA hK;have HA : Hid (A = putAll _ _ U) := hA;clear hA;simp [Aft,Region.binds] at haf;obtain ⟨fb,fk,fs,oX,oB,oR,oC,wO,fl,f0,f1,f2,f3,f4,f5,f6,f7,f8,f9,f10,s11,p1⟩ := hF;have g2 := f2 (by simp [haf])
      have e42 := rd HA.out 42 (by kernel_rfl) g2
      have c0 := Blk.cell oX 0;simp at c0;refine ⟨?_⟩;go_simp;refine hK (upd U 43 (.slice (some ⟨gE,oE,none⟩) qX rX)) _ _ ?_ ?_
      · rw [HA.out];kernel_rfl
      · exact ⟨fb,fk,fs,oX,oB,oR,oC,wO,fl,f0,f1,f2,(fun _ => rfl),f4,f5,f6,f7,f8,f9,f10,s11,p1⟩
     refine StepsU.run rfl ?_ ?_
     ·
      intro L U wr hF hlk haf A K hA hK;have HA : Hid (A = putAll _ _ U) := hA;clear hA;simp [Aft,Region.binds] at haf;obtain ⟨fb,fk,fs,oX,oB,oR,oC,wO,fl,f0,f1,f2,f3,f4,f5,f6,f7,f8,f9,f10,s11,p1⟩ := hF;have e8 : A.tmps[8]? = some (.int .i64 k) := by rw [HA.out];kernel_rfl
      refine ⟨?_⟩;go_simp;refine hK (upd U 44 (.int .i64 k)) _ _ ?_ ?_
      · rw [HA.out];kernel_rfl
      · exact ⟨fb,fk,fs,oX,oB,oR,oC,wO,fl,f0,f1,f2,f3,(fun _ => rfl),f5,f6,f7,f8,f9,f10,s11,p1⟩
     refine StepsU.run rfl ?_ ?_
     ·
      intro L U wr hF hlk haf A K hA hK;have HA : Hid (A = putAll _ _ U) := hA;clear hA;simp [Aft,Region.binds] at haf;obtain ⟨fb,fk,fs,oX,oB,oR,oC,wO,fl,f0,f1,f2,f3,f4,f5,f6,f7,f8,f9,f10,s11,p1⟩ := hF;have g3 := f3 (by simp [haf])
      have g4 := f4 (by simp [haf])
      have e43 := rd HA.out 43 (by kernel_rfl) g3
      have e44 := rd HA.out 44 (by kernel_rfl) g4
      refine ⟨?_⟩;go_simp;refine hK (upd U 45 (.pointer (some ⟨gE,oE + k * 3,none⟩))) _ _ ?_ ?_
      · rw [HA.out];kernel_rfl
      · exact ⟨fb,fk,fs,oX,oB,oR,oC,wO,fl,f0,f1,f2,f3,f4,(fun _ => rfl),f6,f7,f8,f9,f10,s11,p1⟩
     refine StepsU.run rfl ?_ ?_
     ·
      intro L U wr hF hlk haf A K hA hK;have HA : Hid (A = putAll _ _ U) := hA;clear hA;simp [Aft,Region.binds] at haf;obtain ⟨fb,fk,fs,oX,oB,oR,oC,wO,fl,f0,f1,f2,f3,f4,f5,f6,f7,f8,f9,f10,s11,p1⟩ := hF;have g5 := f5 (by simp [haf])
      have e45 := rd HA.out 45 (by kernel_rfl) g5
      refine ⟨?_⟩;go_simp;refine hK (upd U 46 (.pointer (some ⟨gE,oE + k * 3,none⟩))) _ _ ?_ ?_
      · rw [HA.out];kernel_rfl
      · exact ⟨fb,fk,fs,oX,oB,oR,oC,wO,fl,f0,f1,f2,f3,f4,f5,(fun _ => rfl),f7,f8,f9,f10,s11,p1⟩
     refine StepsU.run rfl ?_ ?_
     ·
      intro L U wr hF hlk haf A K hA hK;have HA : Hid (A = putAll _ _ U) := hA;clear hA;simp [Aft,Region.binds] at haf;obtain ⟨fb,fk,fs,oX,oB,oR,oC,wO,fl,f0,f1,f2,f3,f4,f5,f6,f7,f8,f9,f10,s11,p1⟩ := hF;have g6 := f6 (by simp [haf])
      have kA0 := (fb.cell (p := ⟨gE,oE + k * 3,none⟩) (World.block_lt_of_cell? w _ k1)).trans k1;have e46 := rd HA.out 46 (by kernel_rfl) g6
      refine ⟨?_⟩;go_simp;refine hK (upd U 47 (.int .i64 (pv : Nat))) _ _ ?_ ?_
      · rw [HA.out];kernel_rfl
      · exact ⟨fb,fk,fs,oX,oB,oR,oC,wO,fl,f0,f1,f2,f3,f4,f5,f6,(fun _ => rfl),f8,f9,f10,s11,p1⟩
     refine StepsU.run rfl ?_ ?_
     ·
      intro L U wr hF hlk haf A K hA hK;have HA : Hid (A = putAll _ _ U) := hA;clear hA;simp [Aft,Region.binds] at haf;obtain ⟨fb,fk,fs,oX,oB,oR,oC,wO,fl,f0,f1,f2,f3,f4,f5,f6,f7,f8,f9,f10,s11,p1⟩ := hF;have e9 : A.tmps[9]? = some (.pointer (some ⟨bC,0,none⟩)) := by rw [HA.out];kernel_rfl
      have c0 := Blk.cell oC 0;have c1 := Blk.cell oC 1;simp at c0;simp at c1;refine ⟨?_⟩;go_simp;refine hK (upd U 48 (.agg #[.bool xC,.slice aC nC cC])) _ _ ?_ ?_
      · rw [HA.out];kernel_rfl
      · exact ⟨fb,fk,fs,oX,oB,oR,oC,wO,fl,f0,f1,f2,f3,f4,f5,f6,f7,(fun _ => rfl),f9,f10,s11,p1⟩
     refine StepsU.run rfl ?_ ?_
     ·
      intro L U wr hF hlk haf A K hA hK;have HA : Hid (A = putAll _ _ U) := hA;clear hA;simp [Aft,Region.binds] at haf;obtain ⟨fb,fk,fs,oX,oB,oR,oC,wO,fl,f0,f1,f2,f3,f4,f5,f6,f7,f8,f9,f10,s11,p1⟩ := hF;have g1 := f1 (by simp [haf])
      have e41 := rd HA.out 41 (by kernel_rfl) g1
      have g7 := f7 (by simp [haf])
      have e47 := rd HA.out 47 (by kernel_rfl) g7
      have g8 := f8 (by simp [haf])
      have e48 := rd HA.out 48 (by kernel_rfl) g8
      have hL9 := fl hlk;refine ⟨?_⟩;go_simp;refine (put_h w.heap.size _ n xs (scP (a.take k) z) pv _ _ _ _ (pz * z) 801 _ hL9 (hE.keepN fk) HQL.out (hC.keepN fk) (by decide) hn9 (Nat.le_trans hLb fs)).mono ?_
      rintro e w1 ⟨v',n',xs',rfl,k1,k2,k3,k4,hR⟩;go_simp;have hs11 : L 11 = false := by cases h : L 11 with | false => rfl | true => rw [s11 h] at hlk;cases hlk
      refine hK (upd U 49 v') _ _ ?_ ?_
      · rw [HA.out];kernel_rfl
      · exact ⟨(fb.trans (hR.bel.mono hLg)),(fk.trans hR.keep),(Nat.le_trans fs hR.size),((hR.other _ oX.lt naX).trans oX),((hR.other _ oB.lt naB).trans oB),((hR.other _ oR.lt naR).trans oR),((hR.other _ oC.lt naC).trans oC),(flip_a (P := fun v => Blk _ _ _ v) hs11 ((hR.other _ (Blk.lt wO) naO).trans wO)),(fun h => by cases h),f0,f1,f2,f3,f4,f5,f6,f7,f8,(fun _ => ⟨n',xs',k1,k2,k3,k4⟩),f10,(fun _ => rfl),(fun _ => by simp [haf])⟩
     refine StepsU.run rfl ?_ ?_
     ·
      intro L U wr hF hlk haf A K hA hK;have HA : Hid (A = putAll _ _ U) := hA;clear hA;simp [Aft,Region.binds] at haf;obtain ⟨fb,fk,fs,oX,oB,oR,oC,wO,fl,f0,f1,f2,f3,f4,f5,f6,f7,f8,f9,f10,s11,p1⟩ := hF;have e6 : A.tmps[6]? = some (.pointer (some ⟨bO,0,none⟩)) := by rw [HA.out];kernel_rfl
      refine ⟨?_⟩;go_simp;refine hK (upd U 50 (.pointer (some ⟨bO,0,none⟩))) _ _ ?_ ?_
      · rw [HA.out];kernel_rfl
      · exact ⟨fb,fk,fs,oX,oB,oR,oC,wO,fl,f0,f1,f2,f3,f4,f5,f6,f7,f8,f9,(fun _ => rfl),s11,p1⟩
     refine StepsU.run rfl ?_ StepsU.nil
     ·
      intro L U wr hF hlk haf A K hA hK;have HA : Hid (A = putAll _ _ U) := hA;clear hA;simp [Aft,Region.binds] at haf;obtain ⟨fb,fk,fs,oX,oB,oR,oC,wO,fl,f0,f1,f2,f3,f4,f5,f6,f7,f8,f9,f10,s11,p1⟩ := hF;have g10 := f10 (by simp [haf])
      have e50 := rd HA.out 50 (by kernel_rfl) g10
      have g9 := f9 (by simp [haf])
      obtain ⟨n',xs',k1,k2,k3,k4⟩ := g9;obtain ⟨ao',m',cap',hv'⟩ := LstG.isSlice k1;have e49 := rd HA.out 49 (by kernel_rfl) hv'
      have o9 := wO;rw [hlk,cond_false] at o9;have q0 := Blk.frozen o9 0;have c0 := Blk.cell o9 0;simp at c0;have hlt := Blk.lt o9;have hkp := keepN_stores (by decide) [.slice ao' m' cap'] 0 o9 (nuT _ _ _ _ _ _ _) (by intro u hu;simp at hu;subst hu;exact noU_slice _ _ _)
      have hnew : Blk 41 (stores wr (bO) 0 [.slice ao' m' cap']) (bO) #[U 49,.bool xO,.slice aO nO cO] := by rw [hv'];exact Blk.set o9 0 _
      have k1' := LstG.storesO k1 o9 (by decide) 0 [.slice ao' m' cap']
      refine ⟨?_⟩;go_simp;refine hK U _ _ ?_ ?_
      · exact HA.out
      · exact ⟨(below_stores geO [.slice ao' m' cap'] 0 fb),(fk.trans hkp),(by simp;exact fs),(oX.otherS neOX 0 [.slice ao' m' cap']),(oB.otherS neOB 0 [.slice ao' m' cap']),(oR.otherS neOR 0 [.slice ao' m' cap']),(oC.otherS neOC 0 [.slice ao' m' cap']),hnew,(fun h => by simp [haf] at h),f0,f1,f2,f3,f4,f5,f6,f7,f8,(fun _ => ⟨n',xs',k1',k2.keep hkp,k3,k4⟩),f10,(fun _ => by simp [haf]),p1⟩
    clear hbw oX oB oR oC oO hL;intro L U4 V4 hall hF;obtain ⟨hbw,fk,fs,oX,oB,oR,oC,wO,fl,f0,f1,f2,f3,f4,f5,f6,f7,f8,f9,f10,s11,p1⟩ := hF;clear fl s11 p1;have g0 := f0 (hall 0 (by decide))
    have g1 := f1 (hall 1 (by decide))
    have g2 := f2 (hall 2 (by decide))
    have g3 := f3 (hall 3 (by decide))
    have g4 := f4 (hall 4 (by decide))
    have g5 := f5 (hall 5 (by decide))
    have g6 := f6 (hall 6 (by decide))
    have g7 := f7 (hall 7 (by decide))
    have g8 := f8 (hall 8 (by decide))
    have g9 := f9 (hall 9 (by decide))
    have g10 := f10 (hall 10 (by decide))
    rw [hall 11 (by decide),cond_true] at wO
    clear hall f0 f1 f2 f3 f4 f5 f6 f7 f8 f9 f10;replace hN := hN.keepN fk;replace hB := hB.keepN fk;replace ltX := oX.lt;replace ltB := oB.lt;replace ltR := oR.lt;replace ltC := oC.lt;try clear g0
    try clear g1
    try clear g2
    try clear g3
    try clear g4
    try clear g5
    try clear g6
    try clear g7
    try clear g8
    try clear g10
    clear hbW;simp only [setM_some,setM_none,setM_nil];clear fk fs;obtain ⟨n2,xs2,hL2,hE2,hQ2,hn2⟩ := g9;rw [← HSC] at hE2 hQ2;have HQ2 : Hid (_ = n2) := hQ2;clear hQ2;go_wp2;go_roundw
    case rel =>
     refine ⟨k + 1,n2,false,_,xs2,by omega,rfl,by go_num,oX,oB,oR,wO,hL2,hE2,HQ2.out,hN,hB,?_,hbw⟩
     show _ ↔ _
     have h := HI.out;rw [HST];exact ⟨(fun k => by cases k),fun k => absurd (h.2 k.1) (by decide)⟩
    case measure => simp [intOf];omega
   ·
    obtain ⟨Cc0,Cc1,Ck0,Ck1⟩ := oC.two;go_wp2_with fail
    refine (toobig_r _ (pz * z) 801 (!decide ((pz * z).natAbs < lim)) _ hC (by decide) (by rw [← decide_not,decide_eq_decide];omega)).mono ?_
    rintro e w4 ⟨rfl,hb⟩;clear Cc0 Cc1 Ck0 Ck1;replace oX := oX.stay hb;replace ltX := oX.lt;replace oB := oB.stay hb;replace ltB := oB.lt;replace oR := oR.stay hb;replace ltR := oR.lt;replace oO := oO.stay hb;replace ltO := oO.lt;replace oC := oC.stay hb;replace ltC := oC.lt;replace hL := hL.below hb;replace hE := hE.below hb;replace hN := hN.below hb;replace hB := hB.below hb;replace hC := hC.below hb;replace hbw := hbw.step hb (Nat.le_refl _);clear hb;by_cases hf : (pz * z).natAbs < lim
    ·
     have hfd : decide ((pz * z).natAbs < lim) = true := decide_eq_true hf;rw [hfd];have HF : Hid ((pz * z).natAbs < lim) := hf;clear hf hfd;go_wp2;have naX := hL.blk oX (by decide)
     have naB := hL.blk oB (by decide)
     have naR := hL.blk oR (by decide)
     have naC := hL.blk oC (by decide)
     have naO := hL.blk oO (by decide)
     have hLb := hbw.size;have hLg := Nat.le_refl w.heap.size;have geO := lwO;have neOX := Ne.symm neXO;have neOB := Ne.symm neBO;have neOR := Ne.symm neRO;have hbW := hbw;refine wp_region_M (by kernel_rfl) [40,41,42,43,44,45,46,47,48,49,50] [none,none,none,none,none,none,none,none,none,none,none,none,none,none,none,none,none,none,none,none,none,none,none,none,none,none,none,none,none,none,none,none,none,none,none,none,none,none,none,none,some 40,some 41,some 42,some 43,some 44,some 45,some 46,some 47,some 48,some 49,some 50] (fun U => by kernel_rfl) (fun L U wr => Below w.heap.size w wr ∧ KeepN w4 wr ∧ w4.heap.size ≤ wr.heap.size ∧ Blk 41 wr (w.heap.size) #[.slice (some ⟨gE,oE,none⟩) qX rX,.bool xX,.slice aX nX cX] ∧ Blk 39 wr (w.heap.size + 1) #[.bool xB,.slice aB nB cB] ∧ Blk 41 wr (w.heap.size + 1 + 1) #[.slice none 0 0,.bool false,.slice none 0 0] ∧ Blk 39 wr (bC) #[.bool xC,.slice aC nC cC] ∧ Blk 41 wr (bO) (bif L 11 then #[U 49,.bool xO,.slice aO nO cO] else #[.slice ao0 m0 cap0,.bool xO,.slice aO nO cO]) ∧ (L 9 = false → LstG 3 70 w.heap.size wr (.slice ao0 m0 cap0) n xs) ∧ (L 0 = true → IS (.pointer (some ⟨bO,0,none⟩)) (U 40) wr) ∧ (L 1 = true → IS (.slice ao0 m0 cap0) (U 41) wr) ∧ (L 2 = true → IS (.pointer (some ⟨w.heap.size,0,none⟩)) (U 42) wr) ∧ (L 3 = true → IS (.slice (some ⟨gE,oE,none⟩) qX rX) (U 43) wr) ∧ (L 4 = true → IS (.int .i64 k) (U 44) wr) ∧ (L 5 = true → IS (.pointer (some ⟨gE,oE + k * 3,none⟩)) (U 45) wr) ∧ (L 6 = true → IS (.pointer (some ⟨gE,oE + k * 3,none⟩)) (U 46) wr) ∧ (L 7 = true → IS (.int .i64 (pv : Nat)) (U 47) wr) ∧ (L 8 = true → IS (.agg #[.bool xC,.slice aC nC cC]) (U 48) wr) ∧ (L 9 = true → LQ w.heap.size (scP (a.take k) z ++ one pv (pz * z)) (n + 1) (U 49) wr) ∧ (L 10 = true → IS (.pointer (some ⟨bO,0,none⟩)) (U 50) wr) ∧ (L 11 = true → L 9 = true) ∧ (L 9 = true → L 1 = true)) (by kernel_rfl) ?_ ?_ ?_
     · exact fun U => ⟨hbw.drew,KeepN.below (Below.refl _ _).drew,Nat.le_refl _,oX.drew,oB.drew,oR.drew,oC.drew,oO.drew,(fun _ => hL.below (Below.refl _ _).drew),(fun h => by cases h),(fun h => by cases h),(fun h => by cases h),(fun h => by cases h),(fun h => by cases h),(fun h => by cases h),(fun h => by cases h),(fun h => by cases h),(fun h => by cases h),(fun h => by cases h),(fun h => by cases h),(fun h => by cases h),(fun h => by cases h)⟩
     ·
      refine StepsU.run rfl ?_ ?_
      ·
       intro L U wr hF hlk haf A K hA hK;have HA : Hid (A = putAll _ _ U) := hA;clear hA;simp [Aft,Region.binds] at haf;obtain ⟨fb,fk,fs,oX,oB,oR,oC,wO,fl,f0,f1,f2,f3,f4,f5,f6,f7,f8,f9,f10,s11,p1⟩ := hF;have e6 : A.tmps[6]? = some (.pointer (some ⟨bO,0,none⟩)) := by rw [HA.out];kernel_rfl
       refine ⟨?_⟩;go_simp;refine hK (upd U 40 (.pointer (some ⟨bO,0,none⟩))) _ _ ?_ ?_
       · rw [HA.out];kernel_rfl
       · exact ⟨fb,fk,fs,oX,oB,oR,oC,wO,fl,(fun _ => rfl),f1,f2,f3,f4,f5,f6,f7,f8,f9,f10,s11,p1⟩
      refine StepsU.run rfl ?_ ?_
      ·
       intro L U wr hF hlk haf A K hA hK;have HA : Hid (A = putAll _ _ U) := hA;clear hA;simp [Aft,Region.binds] at haf;obtain ⟨fb,fk,fs,oX,oB,oR,oC,wO,fl,f0,f1,f2,f3,f4,f5,f6,f7,f8,f9,f10,s11,p1⟩ := hF;have hst9 : L 11 = false := by cases h : L 11 with | false => rfl | true => rw [p1 (s11 h)] at hlk;cases hlk
       have o9 := wO;rw [hst9,cond_false] at o9;have g0 := f0 (by simp [haf])
       have e40 := rd HA.out 40 (by kernel_rfl) g0
       have c0 := Blk.cell o9 0;simp at c0;refine ⟨?_⟩;go_simp;refine hK (upd U 41 (.slice ao0 m0 cap0)) _ _ ?_ ?_
       · rw [HA.out];kernel_rfl
       · exact ⟨fb,fk,fs,oX,oB,oR,oC,wO,fl,f0,(fun _ => rfl),f2,f3,f4,f5,f6,f7,f8,f9,f10,s11,(fun _ => rfl)⟩
      refine StepsU.run rfl ?_ ?_
      ·
       intro L U wr hF hlk haf A K hA hK;have HA : Hid (A = putAll _ _ U) := hA;clear hA;simp [Aft,Region.binds] at haf;obtain ⟨fb,fk,fs,oX,oB,oR,oC,wO,fl,f0,f1,f2,f3,f4,f5,f6,f7,f8,f9,f10,s11,p1⟩ := hF;have e2 : A.tmps[2]? = some (.pointer (some ⟨w.heap.size,0,none⟩)) := by rw [HA.out];kernel_rfl
       refine ⟨?_⟩;go_simp;refine hK (upd U 42 (.pointer (some ⟨w.heap.size,0,none⟩))) _ _ ?_ ?_
       · rw [HA.out];kernel_rfl
       · exact ⟨fb,fk,fs,oX,oB,oR,oC,wO,fl,f0,f1,(fun _ => rfl),f3,f4,f5,f6,f7,f8,f9,f10,s11,p1⟩
      refine StepsU.run rfl ?_ ?_
      ·
       intro L U wr hF hlk haf A K hA hK;have HA : Hid (A = putAll _ _ U) := hA;clear hA;simp [Aft,Region.binds] at haf;obtain ⟨fb,fk,fs,oX,oB,oR,oC,wO,fl,f0,f1,f2,f3,f4,f5,f6,f7,f8,f9,f10,s11,p1⟩ := hF;have g2 := f2 (by simp [haf])
       have e42 := rd HA.out 42 (by kernel_rfl) g2
       have c0 := Blk.cell oX 0;simp at c0;refine ⟨?_⟩;go_simp;refine hK (upd U 43 (.slice (some ⟨gE,oE,none⟩) qX rX)) _ _ ?_ ?_
       · rw [HA.out];kernel_rfl
       · exact ⟨fb,fk,fs,oX,oB,oR,oC,wO,fl,f0,f1,f2,(fun _ => rfl),f4,f5,f6,f7,f8,f9,f10,s11,p1⟩
      refine StepsU.run rfl ?_ ?_
      ·
       intro L U wr hF hlk haf A K hA hK;have HA : Hid (A = putAll _ _ U) := hA;clear hA;simp [Aft,Region.binds] at haf;obtain ⟨fb,fk,fs,oX,oB,oR,oC,wO,fl,f0,f1,f2,f3,f4,f5,f6,f7,f8,f9,f10,s11,p1⟩ := hF;have e8 : A.tmps[8]? = some (.int .i64 k) := by rw [HA.out];kernel_rfl
       refine ⟨?_⟩;go_simp;refine hK (upd U 44 (.int .i64 k)) _ _ ?_ ?_
       · rw [HA.out];kernel_rfl
       · exact ⟨fb,fk,fs,oX,oB,oR,oC,wO,fl,f0,f1,f2,f3,(fun _ => rfl),f5,f6,f7,f8,f9,f10,s11,p1⟩
      refine StepsU.run rfl ?_ ?_
      ·
       intro L U wr hF hlk haf A K hA hK;have HA : Hid (A = putAll _ _ U) := hA;clear hA;simp [Aft,Region.binds] at haf;obtain ⟨fb,fk,fs,oX,oB,oR,oC,wO,fl,f0,f1,f2,f3,f4,f5,f6,f7,f8,f9,f10,s11,p1⟩ := hF;have g3 := f3 (by simp [haf])
       have g4 := f4 (by simp [haf])
       have e43 := rd HA.out 43 (by kernel_rfl) g3
       have e44 := rd HA.out 44 (by kernel_rfl) g4
       refine ⟨?_⟩;go_simp;refine hK (upd U 45 (.pointer (some ⟨gE,oE + k * 3,none⟩))) _ _ ?_ ?_
       · rw [HA.out];kernel_rfl
       · exact ⟨fb,fk,fs,oX,oB,oR,oC,wO,fl,f0,f1,f2,f3,f4,(fun _ => rfl),f6,f7,f8,f9,f10,s11,p1⟩
      refine StepsU.run rfl ?_ ?_
      ·
       intro L U wr hF hlk haf A K hA hK;have HA : Hid (A = putAll _ _ U) := hA;clear hA;simp [Aft,Region.binds] at haf;obtain ⟨fb,fk,fs,oX,oB,oR,oC,wO,fl,f0,f1,f2,f3,f4,f5,f6,f7,f8,f9,f10,s11,p1⟩ := hF;have g5 := f5 (by simp [haf])
       have e45 := rd HA.out 45 (by kernel_rfl) g5
       refine ⟨?_⟩;go_simp;refine hK (upd U 46 (.pointer (some ⟨gE,oE + k * 3,none⟩))) _ _ ?_ ?_
       · rw [HA.out];kernel_rfl
       · exact ⟨fb,fk,fs,oX,oB,oR,oC,wO,fl,f0,f1,f2,f3,f4,f5,(fun _ => rfl),f7,f8,f9,f10,s11,p1⟩
      refine StepsU.run rfl ?_ ?_
      ·
       intro L U wr hF hlk haf A K hA hK;have HA : Hid (A = putAll _ _ U) := hA;clear hA;simp [Aft,Region.binds] at haf;obtain ⟨fb,fk,fs,oX,oB,oR,oC,wO,fl,f0,f1,f2,f3,f4,f5,f6,f7,f8,f9,f10,s11,p1⟩ := hF;have g6 := f6 (by simp [haf])
       have kA0 := (fb.cell (p := ⟨gE,oE + k * 3,none⟩) (World.block_lt_of_cell? w _ k1)).trans k1;have e46 := rd HA.out 46 (by kernel_rfl) g6
       refine ⟨?_⟩;go_simp;refine hK (upd U 47 (.int .i64 (pv : Nat))) _ _ ?_ ?_
       · rw [HA.out];kernel_rfl
       · exact ⟨fb,fk,fs,oX,oB,oR,oC,wO,fl,f0,f1,f2,f3,f4,f5,f6,(fun _ => rfl),f8,f9,f10,s11,p1⟩
      refine StepsU.run rfl ?_ ?_
      ·
       intro L U wr hF hlk haf A K hA hK;have HA : Hid (A = putAll _ _ U) := hA;clear hA;simp [Aft,Region.binds] at haf;obtain ⟨fb,fk,fs,oX,oB,oR,oC,wO,fl,f0,f1,f2,f3,f4,f5,f6,f7,f8,f9,f10,s11,p1⟩ := hF;have e9 : A.tmps[9]? = some (.pointer (some ⟨bC,0,none⟩)) := by rw [HA.out];kernel_rfl
       have c0 := Blk.cell oC 0;have c1 := Blk.cell oC 1;simp at c0;simp at c1;refine ⟨?_⟩;go_simp;refine hK (upd U 48 (.agg #[.bool xC,.slice aC nC cC])) _ _ ?_ ?_
       · rw [HA.out];kernel_rfl
       · exact ⟨fb,fk,fs,oX,oB,oR,oC,wO,fl,f0,f1,f2,f3,f4,f5,f6,f7,(fun _ => rfl),f9,f10,s11,p1⟩
      refine StepsU.run rfl ?_ ?_
      ·
       intro L U wr hF hlk haf A K hA hK;have HA : Hid (A = putAll _ _ U) := hA;clear hA;simp [Aft,Region.binds] at haf;obtain ⟨fb,fk,fs,oX,oB,oR,oC,wO,fl,f0,f1,f2,f3,f4,f5,f6,f7,f8,f9,f10,s11,p1⟩ := hF;have g1 := f1 (by simp [haf])
       have e41 := rd HA.out 41 (by kernel_rfl) g1
       have g7 := f7 (by simp [haf])
       have e47 := rd HA.out 47 (by kernel_rfl) g7
       have g8 := f8 (by simp [haf])
       have e48 := rd HA.out 48 (by kernel_rfl) g8
       have hL9 := fl hlk;refine ⟨?_⟩;go_simp;refine (put_h w.heap.size _ n xs (scP (a.take k) z) pv _ _ _ _ (pz * z) 801 _ hL9 (hE.keepN fk) HQL.out (hC.keepN fk) (by decide) hn9 (Nat.le_trans hLb fs)).mono ?_
       rintro e w1 ⟨v',n',xs',rfl,k1,k2,k3,k4,hR⟩;go_simp;have hs11 : L 11 = false := by cases h : L 11 with | false => rfl | true => rw [s11 h] at hlk;cases hlk
       refine hK (upd U 49 v') _ _ ?_ ?_
       · rw [HA.out];kernel_rfl
       · exact ⟨(fb.trans (hR.bel.mono hLg)),(fk.trans hR.keep),(Nat.le_trans fs hR.size),((hR.other _ oX.lt naX).trans oX),((hR.other _ oB.lt naB).trans oB),((hR.other _ oR.lt naR).trans oR),((hR.other _ oC.lt naC).trans oC),(flip_a (P := fun v => Blk _ _ _ v) hs11 ((hR.other _ (Blk.lt wO) naO).trans wO)),(fun h => by cases h),f0,f1,f2,f3,f4,f5,f6,f7,f8,(fun _ => ⟨n',xs',k1,k2,k3,k4⟩),f10,(fun _ => rfl),(fun _ => by simp [haf])⟩
      refine StepsU.run rfl ?_ ?_
      ·
       intro L U wr hF hlk haf A K hA hK;have HA : Hid (A = putAll _ _ U) := hA;clear hA;simp [Aft,Region.binds] at haf;obtain ⟨fb,fk,fs,oX,oB,oR,oC,wO,fl,f0,f1,f2,f3,f4,f5,f6,f7,f8,f9,f10,s11,p1⟩ := hF;have e6 : A.tmps[6]? = some (.pointer (some ⟨bO,0,none⟩)) := by rw [HA.out];kernel_rfl
       refine ⟨?_⟩;go_simp;refine hK (upd U 50 (.pointer (some ⟨bO,0,none⟩))) _ _ ?_ ?_
       · rw [HA.out];kernel_rfl
       · exact ⟨fb,fk,fs,oX,oB,oR,oC,wO,fl,f0,f1,f2,f3,f4,f5,f6,f7,f8,f9,(fun _ => rfl),s11,p1⟩
      refine StepsU.run rfl ?_ StepsU.nil
      ·
       intro L U wr hF hlk haf A K hA hK;have HA : Hid (A = putAll _ _ U) := hA;clear hA;simp [Aft,Region.binds] at haf;obtain ⟨fb,fk,fs,oX,oB,oR,oC,wO,fl,f0,f1,f2,f3,f4,f5,f6,f7,f8,f9,f10,s11,p1⟩ := hF;have g10 := f10 (by simp [haf])
       have e50 := rd HA.out 50 (by kernel_rfl) g10
       have g9 := f9 (by simp [haf])
       obtain ⟨n',xs',k1,k2,k3,k4⟩ := g9;obtain ⟨ao',m',cap',hv'⟩ := LstG.isSlice k1;have e49 := rd HA.out 49 (by kernel_rfl) hv'
       have o9 := wO;rw [hlk,cond_false] at o9;have q0 := Blk.frozen o9 0;have c0 := Blk.cell o9 0;simp at c0;have hlt := Blk.lt o9;have hkp := keepN_stores (by decide) [.slice ao' m' cap'] 0 o9 (nuT _ _ _ _ _ _ _) (by intro u hu;simp at hu;subst hu;exact noU_slice _ _ _)
       have hnew : Blk 41 (stores wr (bO) 0 [.slice ao' m' cap']) (bO) #[U 49,.bool xO,.slice aO nO cO] := by rw [hv'];exact Blk.set o9 0 _
       have k1' := LstG.storesO k1 o9 (by decide) 0 [.slice ao' m' cap']
       refine ⟨?_⟩;go_simp;refine hK U _ _ ?_ ?_
       · exact HA.out
       · exact ⟨(below_stores geO [.slice ao' m' cap'] 0 fb),(fk.trans hkp),(by simp;exact fs),(oX.otherS neOX 0 [.slice ao' m' cap']),(oB.otherS neOB 0 [.slice ao' m' cap']),(oR.otherS neOR 0 [.slice ao' m' cap']),(oC.otherS neOC 0 [.slice ao' m' cap']),hnew,(fun h => by simp [haf] at h),f0,f1,f2,f3,f4,f5,f6,f7,f8,(fun _ => ⟨n',xs',k1',k2.keep hkp,k3,k4⟩),f10,(fun _ => by simp [haf]),p1⟩
     clear hbw oX oB oR oC oO hL;intro L U5 V5 hall hF;obtain ⟨hbw,fk,fs,oX,oB,oR,oC,wO,fl,f0,f1,f2,f3,f4,f5,f6,f7,f8,f9,f10,s11,p1⟩ := hF;clear fl s11 p1;have g0 := f0 (hall 0 (by decide))
     have g1 := f1 (hall 1 (by decide))
     have g2 := f2 (hall 2 (by decide))
     have g3 := f3 (hall 3 (by decide))
     have g4 := f4 (hall 4 (by decide))
     have g5 := f5 (hall 5 (by decide))
     have g6 := f6 (hall 6 (by decide))
     have g7 := f7 (hall 7 (by decide))
     have g8 := f8 (hall 8 (by decide))
     have g9 := f9 (hall 9 (by decide))
     have g10 := f10 (hall 10 (by decide))
     rw [hall 11 (by decide),cond_true] at wO
     clear hall f0 f1 f2 f3 f4 f5 f6 f7 f8 f9 f10;replace hN := hN.keepN fk;replace hB := hB.keepN fk;replace ltX := oX.lt;replace ltB := oB.lt;replace ltR := oR.lt;replace ltC := oC.lt;try clear g0
     try clear g1
     try clear g2
     try clear g3
     try clear g4
     try clear g5
     try clear g6
     try clear g7
     try clear g8
     try clear g10
     clear hbW;simp only [setM_some,setM_none,setM_nil];clear fk fs;obtain ⟨n2,xs2,hL2,hE2,hQ2,hn2⟩ := g9;rw [← HSC] at hE2 hQ2;have HQ2 : Hid (_ = n2) := hQ2;clear hQ2;go_wp2;go_roundw
     case rel =>
      refine ⟨k + 1,n2,true,_,xs2,by omega,rfl,by go_num,oX,oB,oR,wO,hL2,hE2,HQ2.out,hN,hB,?_,hbw⟩
      show _ ↔ _
      have h := HI.out;rw [HST];exact ⟨fun _ => ⟨h.1 (by simp),HF.out⟩,fun _ => rfl⟩
     case measure => simp [intOf];omega
    ·
     have hfd : decide ((pz * z).natAbs < lim) = false := decide_eq_false hf;rw [hfd];have HF : Hid (¬ (pz * z).natAbs < lim) := hf;clear hf hfd;go_wp2;have naX := hL.blk oX (by decide)
     have naB := hL.blk oB (by decide)
     have naR := hL.blk oR (by decide)
     have naC := hL.blk oC (by decide)
     have naO := hL.blk oO (by decide)
     have hLb := hbw.size;have hLg := Nat.le_refl w.heap.size;have geO := lwO;have neOX := Ne.symm neXO;have neOB := Ne.symm neBO;have neOR := Ne.symm neRO;have hbW := hbw;refine wp_region_M (by kernel_rfl) [40,41,42,43,44,45,46,47,48,49,50] [none,none,none,none,none,none,none,none,none,none,none,none,none,none,none,none,none,none,none,none,none,none,none,none,none,none,none,none,none,none,none,none,none,none,none,none,none,none,none,none,some 40,some 41,some 42,some 43,some 44,some 45,some 46,some 47,some 48,some 49,some 50] (fun U => by kernel_rfl) (fun L U wr => Below w.heap.size w wr ∧ KeepN w4 wr ∧ w4.heap.size ≤ wr.heap.size ∧ Blk 41 wr (w.heap.size) #[.slice (some ⟨gE,oE,none⟩) qX rX,.bool xX,.slice aX nX cX] ∧ Blk 39 wr (w.heap.size + 1) #[.bool xB,.slice aB nB cB] ∧ Blk 41 wr (w.heap.size + 1 + 1) #[.slice none 0 0,.bool false,.slice none 0 0] ∧ Blk 39 wr (bC) #[.bool xC,.slice aC nC cC] ∧ Blk 41 wr (bO) (bif L 11 then #[U 49,.bool xO,.slice aO nO cO] else #[.slice ao0 m0 cap0,.bool xO,.slice aO nO cO]) ∧ (L 9 = false → LstG 3 70 w.heap.size wr (.slice ao0 m0 cap0) n xs) ∧ (L 0 = true → IS (.pointer (some ⟨bO,0,none⟩)) (U 40) wr) ∧ (L 1 = true → IS (.slice ao0 m0 cap0) (U 41) wr) ∧ (L 2 = true → IS (.pointer (some ⟨w.heap.size,0,none⟩)) (U 42) wr) ∧ (L 3 = true → IS (.slice (some ⟨gE,oE,none⟩) qX rX) (U 43) wr) ∧ (L 4 = true → IS (.int .i64 k) (U 44) wr) ∧ (L 5 = true → IS (.pointer (some ⟨gE,oE + k * 3,none⟩)) (U 45) wr) ∧ (L 6 = true → IS (.pointer (some ⟨gE,oE + k * 3,none⟩)) (U 46) wr) ∧ (L 7 = true → IS (.int .i64 (pv : Nat)) (U 47) wr) ∧ (L 8 = true → IS (.agg #[.bool xC,.slice aC nC cC]) (U 48) wr) ∧ (L 9 = true → LQ w.heap.size (scP (a.take k) z ++ one pv (pz * z)) (n + 1) (U 49) wr) ∧ (L 10 = true → IS (.pointer (some ⟨bO,0,none⟩)) (U 50) wr) ∧ (L 11 = true → L 9 = true) ∧ (L 9 = true → L 1 = true)) (by kernel_rfl) ?_ ?_ ?_
     · exact fun U => ⟨hbw.drew,KeepN.below (Below.refl _ _).drew,Nat.le_refl _,oX.drew,oB.drew,oR.drew,oC.drew,oO.drew,(fun _ => hL.below (Below.refl _ _).drew),(fun h => by cases h),(fun h => by cases h),(fun h => by cases h),(fun h => by cases h),(fun h => by cases h),(fun h => by cases h),(fun h => by cases h),(fun h => by cases h),(fun h => by cases h),(fun h => by cases h),(fun h => by cases h),(fun h => by cases h),(fun h => by cases h)⟩
     ·
      refine StepsU.run rfl ?_ ?_
      ·
       intro L U wr hF hlk haf A K hA hK;have HA : Hid (A = putAll _ _ U) := hA;clear hA;simp [Aft,Region.binds] at haf;obtain ⟨fb,fk,fs,oX,oB,oR,oC,wO,fl,f0,f1,f2,f3,f4,f5,f6,f7,f8,f9,f10,s11,p1⟩ := hF;have e6 : A.tmps[6]? = some (.pointer (some ⟨bO,0,none⟩)) := by rw [HA.out];kernel_rfl
       refine ⟨?_⟩;go_simp;refine hK (upd U 40 (.pointer (some ⟨bO,0,none⟩))) _ _ ?_ ?_
       · rw [HA.out];kernel_rfl
       · exact ⟨fb,fk,fs,oX,oB,oR,oC,wO,fl,(fun _ => rfl),f1,f2,f3,f4,f5,f6,f7,f8,f9,f10,s11,p1⟩
      refine StepsU.run rfl ?_ ?_
      ·
       intro L U wr hF hlk haf A K hA hK;have HA : Hid (A = putAll _ _ U) := hA;clear hA;simp [Aft,Region.binds] at haf;obtain ⟨fb,fk,fs,oX,oB,oR,oC,wO,fl,f0,f1,f2,f3,f4,f5,f6,f7,f8,f9,f10,s11,p1⟩ := hF;have hst9 : L 11 = false := by cases h : L 11 with | false => rfl | true => rw [p1 (s11 h)] at hlk;cases hlk
       have o9 := wO;rw [hst9,cond_false] at o9;have g0 := f0 (by simp [haf])
       have e40 := rd HA.out 40 (by kernel_rfl) g0
       have c0 := Blk.cell o9 0;simp at c0;refine ⟨?_⟩;go_simp;refine hK (upd U 41 (.slice ao0 m0 cap0)) _ _ ?_ ?_
       · rw [HA.out];kernel_rfl
       · exact ⟨fb,fk,fs,oX,oB,oR,oC,wO,fl,f0,(fun _ => rfl),f2,f3,f4,f5,f6,f7,f8,f9,f10,s11,(fun _ => rfl)⟩
      refine StepsU.run rfl ?_ ?_
      ·
       intro L U wr hF hlk haf A K hA hK;have HA : Hid (A = putAll _ _ U) := hA;clear hA;simp [Aft,Region.binds] at haf;obtain ⟨fb,fk,fs,oX,oB,oR,oC,wO,fl,f0,f1,f2,f3,f4,f5,f6,f7,f8,f9,f10,s11,p1⟩ := hF;have e2 : A.tmps[2]? = some (.pointer (some ⟨w.heap.size,0,none⟩)) := by rw [HA.out];kernel_rfl
       refine ⟨?_⟩;go_simp;refine hK (upd U 42 (.pointer (some ⟨w.heap.size,0,none⟩))) _ _ ?_ ?_
       · rw [HA.out];kernel_rfl
       · exact ⟨fb,fk,fs,oX,oB,oR,oC,wO,fl,f0,f1,(fun _ => rfl),f3,f4,f5,f6,f7,f8,f9,f10,s11,p1⟩
      refine StepsU.run rfl ?_ ?_
      ·
       intro L U wr hF hlk haf A K hA hK;have HA : Hid (A = putAll _ _ U) := hA;clear hA;simp [Aft,Region.binds] at haf;obtain ⟨fb,fk,fs,oX,oB,oR,oC,wO,fl,f0,f1,f2,f3,f4,f5,f6,f7,f8,f9,f10,s11,p1⟩ := hF;have g2 := f2 (by simp [haf])
       have e42 := rd HA.out 42 (by kernel_rfl) g2
       have c0 := Blk.cell oX 0;simp at c0;refine ⟨?_⟩;go_simp;refine hK (upd U 43 (.slice (some ⟨gE,oE,none⟩) qX rX)) _ _ ?_ ?_
       · rw [HA.out];kernel_rfl
       · exact ⟨fb,fk,fs,oX,oB,oR,oC,wO,fl,f0,f1,f2,(fun _ => rfl),f4,f5,f6,f7,f8,f9,f10,s11,p1⟩
      refine StepsU.run rfl ?_ ?_
      ·
       intro L U wr hF hlk haf A K hA hK;have HA : Hid (A = putAll _ _ U) := hA;clear hA;simp [Aft,Region.binds] at haf;obtain ⟨fb,fk,fs,oX,oB,oR,oC,wO,fl,f0,f1,f2,f3,f4,f5,f6,f7,f8,f9,f10,s11,p1⟩ := hF;have e8 : A.tmps[8]? = some (.int .i64 k) := by rw [HA.out];kernel_rfl
       refine ⟨?_⟩;go_simp;refine hK (upd U 44 (.int .i64 k)) _ _ ?_ ?_
       · rw [HA.out];kernel_rfl
       · exact ⟨fb,fk,fs,oX,oB,oR,oC,wO,fl,f0,f1,f2,f3,(fun _ => rfl),f5,f6,f7,f8,f9,f10,s11,p1⟩
      refine StepsU.run rfl ?_ ?_
      ·
       intro L U wr hF hlk haf A K hA hK;have HA : Hid (A = putAll _ _ U) := hA;clear hA;simp [Aft,Region.binds] at haf;obtain ⟨fb,fk,fs,oX,oB,oR,oC,wO,fl,f0,f1,f2,f3,f4,f5,f6,f7,f8,f9,f10,s11,p1⟩ := hF;have g3 := f3 (by simp [haf])
       have g4 := f4 (by simp [haf])
       have e43 := rd HA.out 43 (by kernel_rfl) g3
       have e44 := rd HA.out 44 (by kernel_rfl) g4
       refine ⟨?_⟩;go_simp;refine hK (upd U 45 (.pointer (some ⟨gE,oE + k * 3,none⟩))) _ _ ?_ ?_
       · rw [HA.out];kernel_rfl
       · exact ⟨fb,fk,fs,oX,oB,oR,oC,wO,fl,f0,f1,f2,f3,f4,(fun _ => rfl),f6,f7,f8,f9,f10,s11,p1⟩
      refine StepsU.run rfl ?_ ?_
      ·
       intro L U wr hF hlk haf A K hA hK;have HA : Hid (A = putAll _ _ U) := hA;clear hA;simp [Aft,Region.binds] at haf;obtain ⟨fb,fk,fs,oX,oB,oR,oC,wO,fl,f0,f1,f2,f3,f4,f5,f6,f7,f8,f9,f10,s11,p1⟩ := hF;have g5 := f5 (by simp [haf])
       have e45 := rd HA.out 45 (by kernel_rfl) g5
       refine ⟨?_⟩;go_simp;refine hK (upd U 46 (.pointer (some ⟨gE,oE + k * 3,none⟩))) _ _ ?_ ?_
       · rw [HA.out];kernel_rfl
       · exact ⟨fb,fk,fs,oX,oB,oR,oC,wO,fl,f0,f1,f2,f3,f4,f5,(fun _ => rfl),f7,f8,f9,f10,s11,p1⟩
      refine StepsU.run rfl ?_ ?_
      ·
       intro L U wr hF hlk haf A K hA hK;have HA : Hid (A = putAll _ _ U) := hA;clear hA;simp [Aft,Region.binds] at haf;obtain ⟨fb,fk,fs,oX,oB,oR,oC,wO,fl,f0,f1,f2,f3,f4,f5,f6,f7,f8,f9,f10,s11,p1⟩ := hF;have g6 := f6 (by simp [haf])
       have kA0 := (fb.cell (p := ⟨gE,oE + k * 3,none⟩) (World.block_lt_of_cell? w _ k1)).trans k1;have e46 := rd HA.out 46 (by kernel_rfl) g6
       refine ⟨?_⟩;go_simp;refine hK (upd U 47 (.int .i64 (pv : Nat))) _ _ ?_ ?_
       · rw [HA.out];kernel_rfl
       · exact ⟨fb,fk,fs,oX,oB,oR,oC,wO,fl,f0,f1,f2,f3,f4,f5,f6,(fun _ => rfl),f8,f9,f10,s11,p1⟩
      refine StepsU.run rfl ?_ ?_
      ·
       intro L U wr hF hlk haf A K hA hK;have HA : Hid (A = putAll _ _ U) := hA;clear hA;simp [Aft,Region.binds] at haf;obtain ⟨fb,fk,fs,oX,oB,oR,oC,wO,fl,f0,f1,f2,f3,f4,f5,f6,f7,f8,f9,f10,s11,p1⟩ := hF;have e9 : A.tmps[9]? = some (.pointer (some ⟨bC,0,none⟩)) := by rw [HA.out];kernel_rfl
       have c0 := Blk.cell oC 0;have c1 := Blk.cell oC 1;simp at c0;simp at c1;refine ⟨?_⟩;go_simp;refine hK (upd U 48 (.agg #[.bool xC,.slice aC nC cC])) _ _ ?_ ?_
       · rw [HA.out];kernel_rfl
       · exact ⟨fb,fk,fs,oX,oB,oR,oC,wO,fl,f0,f1,f2,f3,f4,f5,f6,f7,(fun _ => rfl),f9,f10,s11,p1⟩
      refine StepsU.run rfl ?_ ?_
      ·
       intro L U wr hF hlk haf A K hA hK;have HA : Hid (A = putAll _ _ U) := hA;clear hA;simp [Aft,Region.binds] at haf;obtain ⟨fb,fk,fs,oX,oB,oR,oC,wO,fl,f0,f1,f2,f3,f4,f5,f6,f7,f8,f9,f10,s11,p1⟩ := hF;have g1 := f1 (by simp [haf])
       have e41 := rd HA.out 41 (by kernel_rfl) g1
       have g7 := f7 (by simp [haf])
       have e47 := rd HA.out 47 (by kernel_rfl) g7
       have g8 := f8 (by simp [haf])
       have e48 := rd HA.out 48 (by kernel_rfl) g8
       have hL9 := fl hlk;refine ⟨?_⟩;go_simp;refine (put_h w.heap.size _ n xs (scP (a.take k) z) pv _ _ _ _ (pz * z) 801 _ hL9 (hE.keepN fk) HQL.out (hC.keepN fk) (by decide) hn9 (Nat.le_trans hLb fs)).mono ?_
       rintro e w1 ⟨v',n',xs',rfl,k1,k2,k3,k4,hR⟩;go_simp;have hs11 : L 11 = false := by cases h : L 11 with | false => rfl | true => rw [s11 h] at hlk;cases hlk
       refine hK (upd U 49 v') _ _ ?_ ?_
       · rw [HA.out];kernel_rfl
       · exact ⟨(fb.trans (hR.bel.mono hLg)),(fk.trans hR.keep),(Nat.le_trans fs hR.size),((hR.other _ oX.lt naX).trans oX),((hR.other _ oB.lt naB).trans oB),((hR.other _ oR.lt naR).trans oR),((hR.other _ oC.lt naC).trans oC),(flip_a (P := fun v => Blk _ _ _ v) hs11 ((hR.other _ (Blk.lt wO) naO).trans wO)),(fun h => by cases h),f0,f1,f2,f3,f4,f5,f6,f7,f8,(fun _ => ⟨n',xs',k1,k2,k3,k4⟩),f10,(fun _ => rfl),(fun _ => by simp [haf])⟩
      refine StepsU.run rfl ?_ ?_
      ·
       intro L U wr hF hlk haf A K hA hK;have HA : Hid (A = putAll _ _ U) := hA;clear hA;simp [Aft,Region.binds] at haf;obtain ⟨fb,fk,fs,oX,oB,oR,oC,wO,fl,f0,f1,f2,f3,f4,f5,f6,f7,f8,f9,f10,s11,p1⟩ := hF;have e6 : A.tmps[6]? = some (.pointer (some ⟨bO,0,none⟩)) := by rw [HA.out];kernel_rfl
       refine ⟨?_⟩;go_simp;refine hK (upd U 50 (.pointer (some ⟨bO,0,none⟩))) _ _ ?_ ?_
       · rw [HA.out];kernel_rfl
       · exact ⟨fb,fk,fs,oX,oB,oR,oC,wO,fl,f0,f1,f2,f3,f4,f5,f6,f7,f8,f9,(fun _ => rfl),s11,p1⟩
      refine StepsU.run rfl ?_ StepsU.nil
      ·
       intro L U wr hF hlk haf A K hA hK;have HA : Hid (A = putAll _ _ U) := hA;clear hA;simp [Aft,Region.binds] at haf;obtain ⟨fb,fk,fs,oX,oB,oR,oC,wO,fl,f0,f1,f2,f3,f4,f5,f6,f7,f8,f9,f10,s11,p1⟩ := hF;have g10 := f10 (by simp [haf])
       have e50 := rd HA.out 50 (by kernel_rfl) g10
       have g9 := f9 (by simp [haf])
       obtain ⟨n',xs',k1,k2,k3,k4⟩ := g9;obtain ⟨ao',m',cap',hv'⟩ := LstG.isSlice k1;have e49 := rd HA.out 49 (by kernel_rfl) hv'
       have o9 := wO;rw [hlk,cond_false] at o9;have q0 := Blk.frozen o9 0;have c0 := Blk.cell o9 0;simp at c0;have hlt := Blk.lt o9;have hkp := keepN_stores (by decide) [.slice ao' m' cap'] 0 o9 (nuT _ _ _ _ _ _ _) (by intro u hu;simp at hu;subst hu;exact noU_slice _ _ _)
       have hnew : Blk 41 (stores wr (bO) 0 [.slice ao' m' cap']) (bO) #[U 49,.bool xO,.slice aO nO cO] := by rw [hv'];exact Blk.set o9 0 _
       have k1' := LstG.storesO k1 o9 (by decide) 0 [.slice ao' m' cap']
       refine ⟨?_⟩;go_simp;refine hK U _ _ ?_ ?_
       · exact HA.out
       · exact ⟨(below_stores geO [.slice ao' m' cap'] 0 fb),(fk.trans hkp),(by simp;exact fs),(oX.otherS neOX 0 [.slice ao' m' cap']),(oB.otherS neOB 0 [.slice ao' m' cap']),(oR.otherS neOR 0 [.slice ao' m' cap']),(oC.otherS neOC 0 [.slice ao' m' cap']),hnew,(fun h => by simp [haf] at h),f0,f1,f2,f3,f4,f5,f6,f7,f8,(fun _ => ⟨n',xs',k1',k2.keep hkp,k3,k4⟩),f10,(fun _ => by simp [haf]),p1⟩
     clear hbw oX oB oR oC oO hL;intro L U5 V5 hall hF;obtain ⟨hbw,fk,fs,oX,oB,oR,oC,wO,fl,f0,f1,f2,f3,f4,f5,f6,f7,f8,f9,f10,s11,p1⟩ := hF;clear fl s11 p1;have g0 := f0 (hall 0 (by decide))
     have g1 := f1 (hall 1 (by decide))
     have g2 := f2 (hall 2 (by decide))
     have g3 := f3 (hall 3 (by decide))
     have g4 := f4 (hall 4 (by decide))
     have g5 := f5 (hall 5 (by decide))
     have g6 := f6 (hall 6 (by decide))
     have g7 := f7 (hall 7 (by decide))
     have g8 := f8 (hall 8 (by decide))
     have g9 := f9 (hall 9 (by decide))
     have g10 := f10 (hall 10 (by decide))
     rw [hall 11 (by decide),cond_true] at wO
     clear hall f0 f1 f2 f3 f4 f5 f6 f7 f8 f9 f10;replace hN := hN.keepN fk;replace hB := hB.keepN fk;replace ltX := oX.lt;replace ltB := oB.lt;replace ltR := oR.lt;replace ltC := oC.lt;try clear g0
     try clear g1
     try clear g2
     try clear g3
     try clear g4
     try clear g5
     try clear g6
     try clear g7
     try clear g8
     try clear g10
     clear hbW;simp only [setM_some,setM_none,setM_nil];clear fk fs;obtain ⟨n2,xs2,hL2,hE2,hQ2,hn2⟩ := g9;rw [← HSC] at hE2 hQ2;have HQ2 : Hid (_ = n2) := hQ2;clear hQ2;go_wp2;go_roundw
     case rel =>
      refine ⟨k + 1,n2,false,_,xs2,by omega,rfl,by go_num,oX,oB,oR,wO,hL2,hE2,HQ2.out,hN,hB,?_,hbw⟩
      show _ ↔ _
      have h := HI.out;rw [HST];exact ⟨(fun k => by cases k),fun k => absurd k.2 HF.out⟩
     case measure => simp [intOf];omega
  ·
   have hkq : k = a.length := by rw [HLN.out];omega
   rw [hkq,fitM_end] at HI;rw [hkq,List.take_of_length_le (Nat.le_refl _)] at hE HQL;clear hkq;obtain ⟨ao,cap,hv9,hc1,hc2,hc3,hqa⟩ := hL.qarr hE HQL.out;injection hv9 with e1 e2 e3;subst e1;subst e2;subst e3;clear hL hE;cases ok
   ·
    have HNO : Hid (¬ tMulOk a r z) := fun k => by have := HI.out.2 k;cases this
    obtain ⟨Rc0,Rc1,Rc2⟩ := oR.three;obtain ⟨Rk0,Rk1,Rk2⟩ := oR.frozen3;obtain ⟨Xc0,Xc1,Xc2⟩ := oX.three;obtain ⟨Xk0,Xk1,Xk2⟩ := oX.frozen3;try simp only []
    try go_at_K
    repeat (first | go_values | go_skip | go_guarded | go_step | go_upon)
    refine bodyPost_ret (v := .tuple #[.agg #[.slice none 0 0,.bool false,.slice none 0 0],.int .i64 11]) (by simp [results,Tryz.results24,go_sem,Rc0,Rc1,Rc2]) rfl ?_
    obtain ⟨K1,B1,_⟩ := resTq (by decide) (by decide) oR hbw lwR none 0 0 false none 0 0
    exact ⟨_,_,rfl,Or.inr ⟨HNO.out,rfl,(RTP.zero _).val⟩,B1⟩
   ·
    have HOK : Hid (tMulOk a r z) := HI.out.1 rfl;obtain ⟨Rc0,Rc1,Rc2⟩ := oR.three;obtain ⟨Rk0,Rk1,Rk2⟩ := oR.frozen3;obtain ⟨Xc0,Xc1,Xc2⟩ := oX.three;obtain ⟨Xk0,Xk1,Xk2⟩ := oX.frozen3;obtain ⟨Oc0,Oc1,Oc2⟩ := oO.three;obtain ⟨Ok0,Ok1,Ok2⟩ := oO.frozen3;try simp only []
    try go_at_K
    repeat (first | go_values | go_skip | go_guarded | go_step | go_upon)
    refine bodyPost_ret (v := .tuple #[.agg #[.slice ao0 m0 cap0,.bool xO,.slice aO nO cO],.int .i64 0]) (by simp [results,Tryz.results24,go_sem,Rc0,Rc1,Rc2]) rfl ?_
    obtain ⟨K1,B1,_⟩ := resTq (by decide) (by decide) oR hbw lwR ao0 m0 cap0 xO aO nO cO
    exact ⟨_,_,rfl,Or.inl ⟨HOK.out,rfl,⟨_,_,_,_,_,_,_,rfl,⟨HQL.out,hc1,hc2,hc3,hqa.keepQ K1,(hN.keepQ K1).short HOK.out.1,scP_fine HFA.out HOK.out,HOK.out.1⟩⟩⟩,B1⟩
theorem neg_ok {a : List (Nat × Int)} {r : Int} (h : Fine a) (hr : r.natAbs < lim) : tMulOk a r (-1) := ⟨by rw [Int.mul_neg_one]; simpa using hr, fun p hp => by rw [Int.mul_neg_one]; simpa using (h.2 p hp).2.1⟩
theorem rscale_neg (vX vB : Value) (a : List (Nat × Int)) (r : Int) (w : World) (hX : RTermR w vX a r) (hB : RNum w vB (-1) 20) :
  Calls Tryz.prog 24 #[vX,vB] w fun e w' => ∃ v,e = .returned (.tuple #[v,.int .i64 0]) ∧ RTermR w' v (mulP a (-1)) (r * -1) ∧ Below w.heap.size w w' := by
 obtain ⟨p,q,k,x,b,n,c,rfl,hX'⟩ := hX;refine (rscale_any _ vB a r (-1) w hX'.val (hB.up (by decide))).mono ?_
 rintro e w' ⟨v,co,rfl,h,hb⟩;rcases h with ⟨_,rfl,h⟩ | ⟨h,_⟩
 · exact ⟨v,rfl,h,hb⟩
 · exact absurd (neg_ok hX'.fine hX'.rlim) h
set_option maxRecDepth 20000 in
set_option maxHeartbeats 8000000 in
theorem rneg3_any (vX : Value) (a : List (Nat × Int)) (r : Int) (w : World) (hX : RTermR w vX a r) :
  Calls Tryz.prog 16 #[vX] w fun e w' => ∃ v,e = .returned v ∧ RTermR w' v (mulP a (-1)) (-r) ∧ Below w.heap.size w w' := by
 obtain ⟨pX,qX,rX,xX,aX,nX,cX,rfl,hX⟩ := hX;have oX := ((Blk.new w 41 #[.slice pX qX rX,.bool xX,.slice aX nX cX]).alloc (.cells #[.slice none 0 0,.bool false,.slice none 0 0] 41 (0,0)));have oR := (Blk.new (w.alloc (.cells #[.slice pX qX rX,.bool xX,.slice aX nX cX] 41 (0,0))) 41 #[.slice none 0 0,.bool false,.slice none 0 0]);simp only [World.size_alloc] at oR;have hbw : Below w.heap.size w ((w.alloc (.cells #[.slice pX qX rX,.bool xX,.slice aX nX cX] 41 (0,0))).alloc (.cells #[.slice none 0 0,.bool false,.slice none 0 0] 41 (0,0))) := by go_grown
 replace hX := hX.below hbw;have ltX := oX.lt;have lwX : w.heap.size ≤ w.heap.size := by omega
 have ltR := oR.lt;have lwR : w.heap.size ≤ w.heap.size + 1 := by omega
 go_enter Tryz.func16,Tryz.ntmps16;go_wp2;generalize ((w.alloc (.cells #[.slice pX qX rX,.bool xX,.slice aX nX cX] 41 (0,0))).alloc (.cells #[.slice none 0 0,.bool false,.slice none 0 0] 41 (0,0))) = W0 at hbw oX oR ltX ltR hX ⊢;have hbW := hbw;refine wp_region_M (by kernel_rfl) [3,4,5,6,7,8,9,10] [none,none,none,some 3,some 4,some 5,some 6,some 7,some 8,some 9,some 10] (fun U => by kernel_rfl) (fun L U wr => Below w.heap.size w wr ∧ KeepQ W0 wr ∧ W0.heap.size ≤ wr.heap.size ∧ Blk 41 wr (w.heap.size) #[.slice pX qX rX,.bool xX,.slice aX nX cX] ∧ Blk 41 wr (w.heap.size + 1) #[.slice none 0 0,.bool false,.slice none 0 0] ∧ (L 0 = true → IS (.agg #[.slice pX qX rX,.bool xX,.slice aX nX cX]) (U 6) wr) ∧ (L 1 = true → RNM (-1) 20 (U 7) wr) ∧ (L 2 = true → T2 (RTM (mulP a (-1)) (r * -1)) (IS (.int .i64 0)) (U 8) wr) ∧ (L 3 = true → T2 (RTM (mulP a (-1)) (r * -1)) (IS (.int .i64 0)) (U 5) wr) ∧ (L 4 = true → RTM (mulP a (-1)) (r * -1) (U 9) wr) ∧ (L 5 = true → IS (.int .i64 0) (U 10) wr) ∧ (L 6 = true → NEWU 41 W0.heap.size wr (U 3) (bif L 7 then U 9 else .agg #[.slice none 0 0,.bool false,.slice none 0 0])) ∧ (L 8 = true → IS (.int .i64 0) (U 4) wr) ∧ (L 7 = true → L 4 = true) ∧ (L 7 = true → L 6 = true)) (by kernel_rfl) ?_ ?_ ?_
 · exact fun U => ⟨hbw.drew,KeepQ.below (Below.refl _ _).drew,Nat.le_refl _,oX.drew,oR.drew,(fun h => by cases h),(fun h => by cases h),(fun h => by cases h),(fun h => by cases h),(fun h => by cases h),(fun h => by cases h),(fun h => by cases h),(fun h => by cases h),(fun h => by cases h),(fun h => by cases h)⟩
 ·
  refine StepsU.run rfl ?_ ?_
  ·
   intro L U wr hF hlk haf A K hA hK;have HA : Hid (A = putAll _ _ U) := hA;clear hA;simp [Aft,Region.binds] at haf;obtain ⟨fb,fk,fs,oX,oR,f0,f1,f2,f3,f4,f5,f6,f8,s7,m6⟩ := hF;have e1 : A.tmps[1]? = some (.pointer (some ⟨w.heap.size,0,none⟩)) := by rw [HA.out];kernel_rfl
   have c0 := Blk.cell oX 0;have c1 := Blk.cell oX 1;have c2 := Blk.cell oX 2;simp at c0;simp at c1;simp at c2;refine ⟨?_⟩;go_simp;refine hK (upd U 6 (.agg #[.slice pX qX rX,.bool xX,.slice aX nX cX])) _ _ ?_ ?_
   · rw [HA.out];kernel_rfl
   · exact ⟨fb,fk,fs,oX,oR,(fun _ => rfl),f1,f2,f3,f4,f5,f6,f8,s7,m6⟩
  refine StepsU.run rfl ?_ ?_
  ·
   intro L U wr hF hlk haf A K hA hK;have HA : Hid (A = putAll _ _ U) := hA;clear hA;simp [Aft,Region.binds] at haf;obtain ⟨fb,fk,fs,oX,oR,f0,f1,f2,f3,f4,f5,f6,f8,s7,m6⟩ := hF;refine ⟨?_⟩;go_simp;refine (rfrom_any (-1) _ (by decide) (by decide)).mono ?_
   rintro e w1 ⟨u1,u2,u3,u4,rfl,hr,hb⟩;go_simp;refine hK (upd U 7 (.agg #[.bool u1,.slice u2 u3 u4])) _ _ ?_ ?_
   · rw [HA.out];kernel_rfl
   · exact ⟨(fb.step hb (Nat.le_refl _)),(fk.trans (KeepQ.below hb)),(Nat.le_trans fs hb.size),(oX.stay hb),(oR.stay hb),f0,(fun _ => hr),(mvQ (mq_t2 mq_rtm mq_is) (KeepQ.below hb) f2),(mvQ (mq_t2 mq_rtm mq_is) (KeepQ.below hb) f3),(mvQ mq_rtm (KeepQ.below hb) f4),f5,(fun h => (f6 h).below hb),f8,s7,m6⟩
  refine StepsU.run rfl ?_ ?_
  ·
   intro L U wr hF hlk haf A K hA hK;have HA : Hid (A = putAll _ _ U) := hA;clear hA;simp [Aft,Region.binds] at haf;obtain ⟨fb,fk,fs,oX,oR,f0,f1,f2,f3,f4,f5,f6,f8,s7,m6⟩ := hF;have g0 := f0 (by simp [haf])
   have e6 := rd HA.out 6 (by kernel_rfl) g0
   have g1 := f1 (by simp [haf])
   have e7 := rd HA.out 7 (by kernel_rfl) rfl
   refine ⟨?_⟩;go_simp;refine (rscale_neg _ _ a r _ (hX.keepQ fk).val g1).mono ?_;rintro e w1 ⟨v,rfl,hr,hb⟩;go_simp;refine hK (upd U 8 (.tuple #[v,.int .i64 0])) _ _ ?_ ?_
   · rw [HA.out];kernel_rfl
   · exact ⟨(fb.step hb (Nat.le_refl _)),(fk.trans (KeepQ.below hb)),(Nat.le_trans fs hb.size),(oX.stay hb),(oR.stay hb),f0,(mvQ mq_rnm (KeepQ.below hb) f1),(fun _ => ⟨_,_,rfl,hr,rfl⟩),(mvQ (mq_t2 mq_rtm mq_is) (KeepQ.below hb) f3),(mvQ mq_rtm (KeepQ.below hb) f4),f5,(fun h => (f6 h).below hb),f8,s7,m6⟩
  refine StepsU.run rfl ?_ ?_
  ·
   intro L U wr hF hlk haf A K hA hK;have HA : Hid (A = putAll _ _ U) := hA;clear hA;simp [Aft,Region.binds] at haf;obtain ⟨fb,fk,fs,oX,oR,f0,f1,f2,f3,f4,f5,f6,f8,s7,m6⟩ := hF;have g2 := f2 (by simp [haf])
   have e8 := rd HA.out 8 (by kernel_rfl) rfl
   refine ⟨?_⟩;go_simp;refine hK (upd U 5 (U 8)) _ _ ?_ ?_
   · rw [HA.out];kernel_rfl
   · exact ⟨fb,fk,fs,oX,oR,f0,f1,f2,(fun _ => g2),f4,f5,f6,f8,s7,m6⟩
  refine StepsU.run rfl ?_ ?_
  ·
   intro L U wr hF hlk haf A K hA hK;have HA : Hid (A = putAll _ _ U) := hA;clear hA;simp [Aft,Region.binds] at haf;obtain ⟨fb,fk,fs,oX,oR,f0,f1,f2,f3,f4,f5,f6,f8,s7,m6⟩ := hF;have g3 := f3 (by simp [haf])
   obtain ⟨t0,t1,hT,k0,k1⟩ := g3;have e5 := rd HA.out 5 (by kernel_rfl) hT
   refine ⟨?_⟩;go_simp;have hs7 : L 7 = false := by cases h : L 7 with | false => rfl | true => rw [s7 h] at hlk;cases hlk
   refine hK (upd U 9 t0) _ _ ?_ ?_
   · rw [HA.out];kernel_rfl
   · exact ⟨fb,fk,fs,oX,oR,f0,f1,f2,f3,(fun _ => k0),f5,(fun h => flip_v (P := fun v => NEWU _ _ _ _ v) hs7 (f6 h)),f8,(fun _ => rfl),m6⟩
  refine StepsU.run rfl ?_ ?_
  ·
   intro L U wr hF hlk haf A K hA hK;have HA : Hid (A = putAll _ _ U) := hA;clear hA;simp [Aft,Region.binds] at haf;obtain ⟨fb,fk,fs,oX,oR,f0,f1,f2,f3,f4,f5,f6,f8,s7,m6⟩ := hF;have g3 := f3 (by simp [haf])
   obtain ⟨t0,t1,hT,k0,k1⟩ := g3;have e5 := rd HA.out 5 (by kernel_rfl) hT
   refine ⟨?_⟩;go_simp;refine hK (upd U 10 t1) _ _ ?_ ?_
   · rw [HA.out];kernel_rfl
   · exact ⟨fb,fk,fs,oX,oR,f0,f1,f2,f3,f4,(fun _ => k1),f6,f8,s7,m6⟩
  refine StepsU.run rfl ?_ ?_
  ·
   intro L U wr hF hlk haf A K hA hK;have HA : Hid (A = putAll _ _ U) := hA;clear hA;simp [Aft,Region.binds] at haf;obtain ⟨fb,fk,fs,oX,oR,f0,f1,f2,f3,f4,f5,f6,f8,s7,m6⟩ := hF;have hst : L 7 = false := by cases h : L 7 with | false => rfl | true => rw [m6 h] at hlk;cases hlk
   refine ⟨?_⟩;go_simp;have hb := below_new wr (.cells #[.slice none 0 0,.bool false,.slice none 0 0] 41 (0,0));refine hK (upd U 3 (.pointer (some ⟨wr.heap.size,0,none⟩))) _ _ ?_ ?_
   · rw [HA.out];kernel_rfl
   · exact ⟨(fb.step hb (Nat.le_refl _)),(fk.trans (KeepQ.below hb)),(Nat.le_trans fs hb.size),(oX.stay hb),(oR.stay hb),f0,(mvQ mq_rnm (KeepQ.below hb) f1),(mvQ (mq_t2 mq_rtm mq_is) (KeepQ.below hb) f2),(mvQ (mq_t2 mq_rtm mq_is) (KeepQ.below hb) f3),(mvQ mq_rtm (KeepQ.below hb) f4),f5,(fun _ => newU_zero (by simp [hst]) (NEWU.mk fs (nuT _ _ _ _ _ _ _))),f8,s7,(fun _ => rfl)⟩
  refine StepsU.run rfl ?_ ?_
  ·
   intro L U wr hF hlk haf A K hA hK;have HA : Hid (A = putAll _ _ U) := hA;clear hA;simp [Aft,Region.binds] at haf;obtain ⟨fb,fk,fs,oX,oR,f0,f1,f2,f3,f4,f5,f6,f8,s7,m6⟩ := hF;have g4 := f4 (by simp [haf])
   obtain ⟨yp,yq,yr,yx,ya,yn,yc,hsrc⟩ := RTermR.shape g4;have e9 := rd HA.out 9 (by kernel_rfl) hsrc
   have g6 := f6 (by simp [haf])
   rw [hlk,cond_false] at g6;obtain ⟨b,cs,hp,hBb,hcs,hblk,hN⟩ := g6;injection hcs with hcs;subst hcs;have e3 := rd HA.out 3 (by kernel_rfl) hp
   have q0 := hblk.frozen 0;have q1 := hblk.frozen 1;have q2 := hblk.frozen 2;have c0 := hblk.cell 0;have c1 := hblk.cell 1;have c2 := hblk.cell 2;simp at c0;simp at c1;simp at c2;have hlt := hblk.lt;refine ⟨?_⟩;go_simp;refine hK U _ _ ?_ ?_
   · exact HA.out
   · exact ⟨(below_stores (Nat.le_trans (by exact hbW.size) hBb) [.slice yp yq yr,.bool yx,.slice ya yn yc] 0 fb),(fk.trans (keepQ_stores (by decide) (by decide) [.slice yp yq yr,.bool yx,.slice ya yn yc] 0 hblk (nuT _ _ _ _ _ _ _) (nuT _ _ _ _ _ _ _))),(by simp;exact fs),(oX.otherS (Nat.ne_of_gt (Nat.lt_of_lt_of_le ltX hBb)) 0 [.slice yp yq yr,.bool yx,.slice ya yn yc]),(oR.otherS (Nat.ne_of_gt (Nat.lt_of_lt_of_le ltR hBb)) 0 [.slice yp yq yr,.bool yx,.slice ya yn yc]),f0,(mvQ mq_rnm (keepQ_stores (by decide) (by decide) [.slice yp yq yr,.bool yx,.slice ya yn yc] 0 hblk (nuT _ _ _ _ _ _ _) (nuT _ _ _ _ _ _ _)) f1),(mvQ (mq_t2 mq_rtm mq_is) (keepQ_stores (by decide) (by decide) [.slice yp yq yr,.bool yx,.slice ya yn yc] 0 hblk (nuT _ _ _ _ _ _ _) (nuT _ _ _ _ _ _ _)) f2),(mvQ (mq_t2 mq_rtm mq_is) (keepQ_stores (by decide) (by decide) [.slice yp yq yr,.bool yx,.slice ya yn yc] 0 hblk (nuT _ _ _ _ _ _ _) (nuT _ _ _ _ _ _ _)) f3),(mvQ mq_rtm (keepQ_stores (by decide) (by decide) [.slice yp yq yr,.bool yx,.slice ya yn yc] 0 hblk (nuT _ _ _ _ _ _ _) (nuT _ _ _ _ _ _ _)) f4),f5,(fun _ => by simp only [cond_true,Bool.true_or,beq_self_eq_true];exact storedU_new hp hsrc (NEWU.overS hBb hblk [.slice yp yq yr,.bool yx,.slice ya yn yc] rfl (nuT _ _ _ _ _ _ _))),f8,(fun _ => by simp [haf]),(fun _ => by simp [haf])⟩
  refine StepsU.run rfl ?_ StepsU.nil
  ·
   intro L U wr hF hlk haf A K hA hK;have HA : Hid (A = putAll _ _ U) := hA;clear hA;simp [Aft,Region.binds] at haf;obtain ⟨fb,fk,fs,oX,oR,f0,f1,f2,f3,f4,f5,f6,f8,s7,m6⟩ := hF;have g5 := f5 (by simp [haf])
   have e10 := rd HA.out 10 (by kernel_rfl) rfl
   refine ⟨?_⟩;go_simp;refine hK (upd U 4 (U 10)) _ _ ?_ ?_
   · rw [HA.out];kernel_rfl
   · exact ⟨fb,fk,fs,oX,oR,f0,f1,f2,f3,f4,f5,f6,(fun _ => g5),s7,m6⟩
 clear hbw oX oR;intro L U1 V1 hall hF;obtain ⟨hbw,fk,fs,oX,oR,f0,f1,f2,f3,f4,f5,f6,f8,s7,m6⟩ := hF;clear s7 m6;have g0 := f0 (hall 0 (by decide))
 have g1 := f1 (hall 1 (by decide))
 have g2 := f2 (hall 2 (by decide))
 have g3 := f3 (hall 3 (by decide))
 have g4 := f4 (hall 4 (by decide))
 have g5 := f5 (hall 5 (by decide))
 have g6 := f6 (hall 6 (by decide))
 rw [hall 7 (by decide),cond_true] at g6
 have g8 := f8 (hall 8 (by decide))
 clear hall f0 f1 f2 f3 f4 f5 f6 f8;replace hX := hX.keepQ fk;obtain ⟨bT,csT,hpT,lbT,hcsT,oT,-⟩ := g6;obtain ⟨pT,qT,rT,xT,aT,nT,cT,hvT⟩ := RTermR.shape g4;have hT : RTermR _ _ _ _ := g4;rw [hvT] at hT hcsT;injection hcsT with hcsT;subst hcsT;clear hvT;have ltT := oT.lt;have neXT : w.heap.size ≠ bT := Nat.ne_of_lt (Nat.lt_of_lt_of_le ltX lbT);have neRT : w.heap.size + 1 ≠ bT := Nat.ne_of_lt (Nat.lt_of_lt_of_le ltR lbT);have lwT : w.heap.size ≤ bT := Nat.le_trans hbW.size lbT;replace ltX := oX.lt;replace ltR := oR.lt;clear lbT;try clear g0
 try clear g1
 try clear g2
 try clear g3
 try clear g4
 try clear g5
 clear hbW;simp only [setM_some,setM_none,setM_nil];rw [hpT];clear hpT;clear fk fs;have e4 : U1 4 = _ := g8;obtain ⟨Rc0,Rc1,Rc2⟩ := oR.three;obtain ⟨Rk0,Rk1,Rk2⟩ := oR.frozen3;obtain ⟨Tc0,Tc1,Tc2⟩ := oT.three;obtain ⟨Tk0,Tk1,Tk2⟩ := oT.frozen3;try simp only []
 try go_at_K
 repeat (first | go_values | go_skip | go_guarded | go_step | go_upon)
 refine bodyPost_ret (v := .agg #[.slice pT qT rT,.bool xT,.slice aT nT cT]) (by simp [results,Tryz.results16,go_sem,Rc0,Rc1,Rc2]) rfl ?_
 obtain ⟨K1,B1,_⟩ := resTq (by decide) (by decide) oR hbw lwR pT qT rT xT aT nT cT
 rw [Int.mul_neg_one] at hT;exact ⟨_,rfl,hT.keepQ K1,B1⟩
end Go.Proofs.YteefniagebcagaaGreatDoor
