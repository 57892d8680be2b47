/- Joined: LinO, SumA, LstW, RLess: words and contracts; no statement of the seat is proved here. -/
import Derived.Test.YteefniagebcagaaGreatDoorJoin18Reckons
import Derived.Test.YteefniagebcagaaGreatDoorJoin10Reckons
import Derived.Test.YteefniagebcagaaGreatDoorJoin7Reckons
namespace Go.Proofs.YteefniagebcagaaGreatDoor
open Go.RowKit
set_option linter.unusedVariables false
def thereB (a : List (Nat × Int)) (v : Int) : Bool := a.any fun p => decide ((p.1 : Int) = v)
theorem thereB_iff {a : List (Nat × Int)} {v : Int} : thereB a v = true ↔ there a v := by
 unfold thereB there;rw [List.any_eq_true];exact ⟨fun ⟨p,h,k⟩ => ⟨p,h,of_decide_eq_true k⟩,fun ⟨p,h,k⟩ => ⟨p,h,decide_eq_true k⟩⟩
def remP (a : List (Nat × Int)) (v : Int) : List (Nat × Int) := if thereB a v = true then a.take (ahead a v) ++ a.drop (ahead a v + 1) else a
def putOk (a : List (Nat × Int)) (r v : Int) (b : List (Nat × Int)) (s : Int) : Prop := there a v → tMulOk b s (coefZ a v) ∧ tAddOk (remP a v) (mulP b (coefZ a v)) r (s * coefZ a v)
def putP (a : List (Nat × Int)) (v : Int) (b : List (Nat × Int)) : List (Nat × Int) := if thereB a v = true then addP (remP a v) (mulP b (coefZ a v)) else a
def putR (a : List (Nat × Int)) (r v s : Int) : Int := if thereB a v = true then r + s * coefZ a v else r
set_option maxRecDepth 20000 in
set_option maxHeartbeats 8000000 in
theorem lput_any (vX vY : Value) (a b : List (Nat × Int)) (r s v : Int) (w : World) (hX : TermR w vX a r) (hY : TermR w vY b s) :
  Calls Tryz.prog 25 #[vX,.int .i64 v,vY] w fun e w' => ∃ u c,e = .returned (.tuple #[u,.int .i64 c]) ∧ TRes (putOk a r v b s) (putP a v b) (putR a r v s) u c w' ∧ Below w.heap.size w w' := by
 obtain ⟨pX,qX,rX,xX,aX,nX,cX,rfl,hX⟩ := hX;obtain ⟨pY,qY,rY,xY,aY,nY,cY,rfl,hY⟩ := hY;have ha0 := hX.arr;have oX := (((Blk.new w 33 #[.slice pX qX rX,.bool xX,.slice aX nX cX]).alloc (.cells #[.slice pY qY rY,.bool xY,.slice aY nY cY] 33 (0,0))).alloc (.cells #[.slice none 0 0,.bool false,.slice none 0 0] 33 (0,0)));have oY := ((Blk.new (w.alloc (.cells #[.slice pX qX rX,.bool xX,.slice aX nX cX] 33 (0,0))) 33 #[.slice pY qY rY,.bool xY,.slice aY nY cY]).alloc (.cells #[.slice none 0 0,.bool false,.slice none 0 0] 33 (0,0)));have oR := (Blk.new ((w.alloc (.cells #[.slice pX qX rX,.bool xX,.slice aX nX cX] 33 (0,0))).alloc (.cells #[.slice pY qY rY,.bool xY,.slice aY nY cY] 33 (0,0))) 33 #[.slice none 0 0,.bool false,.slice none 0 0]);simp only [World.size_alloc] at oY oR;have hbw : Below w.heap.size w (((w.alloc (.cells #[.slice pX qX rX,.bool xX,.slice aX nX cX] 33 (0,0))).alloc (.cells #[.slice pY qY rY,.bool xY,.slice aY nY cY] 33 (0,0))).alloc (.cells #[.slice none 0 0,.bool false,.slice none 0 0] 33 (0,0))) := by go_grown
 replace hX := hX.below hbw;replace hY := hY.below hbw;have ltX := oX.lt;have lwX : w.heap.size ≤ w.heap.size := by omega
 have ltY := oY.lt;have lwY : w.heap.size ≤ w.heap.size + 1 := by omega
 have ltR := oR.lt;have lwR : w.heap.size ≤ w.heap.size + 1 + 1 := by omega
 go_enter Tryz.func25,Tryz.ntmps25;have HX : Hid (PArr w pX a) := ha0;have HLN : Hid (a.length = qX) := hX.len;have HFN : Hid (Fine a) := hX.fine;clear ha0;obtain ⟨Xc0,Xc1,Xc2⟩ := oX.three;obtain ⟨Xk0,Xk1,Xk2⟩ := oX.frozen3;go_wp2_with fail
 refine (place_any _ a r v _ hX.val).mono ?_;rintro e w1 ⟨rfl,hb⟩;clear Xc0 Xc1 Xc2 Xk0 Xk1 Xk2;replace oX := oX.stay hb;replace ltX := oX.lt;replace oY := oY.stay hb;replace ltY := oY.lt;replace oR := oR.stay hb;replace ltR := oR.lt;replace hX := hX.below hb;replace hY := hY.below hb;replace hbw := hbw.step hb (Nat.le_refl _);clear hb;by_cases hth : ∃ p ∈ a,(p.1 : Int) = v
 ·
  have hd : decide (∃ p ∈ a,(p.1 : Int) = v) = true := decide_eq_true hth;have HTH : Hid (there a v) := hth;obtain ⟨⟨v9,z9⟩,hp9,hv9⟩ := hth;have H9 : Hid (ahead a v < a.length ∧ a.getD (ahead a v) (0,0) = (v9,z9) ∧ coefZ a v = z9 ∧ z9 ≠ 0) := by
   obtain ⟨h1,h2,h3⟩ := ahead_there HFN.out.1 hp9 hv9;exact ⟨h1,h2,h3,(HFN.out.2 _ hp9).1⟩
  clear hp9 hv9;have HRM : Hid (remP a v = a.take (ahead a v) ++ a.drop (ahead a v + 1)) := if_pos (thereB_iff.2 HTH.out);obtain ⟨i,hi⟩ : ∃ i,i = ahead a v := ⟨_,rfl⟩;rw [← hi] at H9 HRM ⊢;have hiq : i < qX := by have := H9.out.1;rw [HLN.out] at this;exact this
  clear hi;obtain ⟨gE,oE,sE,aE,mE,cE,had,k1,k2,k3,k4⟩ := HX.out.at i (by rw [HLN.out];exact hiq)
  subst had;rw [H9.out.2.1] at k1 k4;have hc0 : (z9 : Int) ≠ 0 := H9.out.2.2.2;have HC0 : Hid (z9 ≠ 0) := hc0;clear hc0;by_cases hok : tMulOk b s z9
  ·
   have HOK : Hid (tMulOk b s z9) := hok;clear hok;go_wp2;have hbW := hbw;refine wp_region_M (by kernel_rfl) [10,11,22,23,24,25,26,27,28,29,30,31,32] [none,none,none,none,none,none,none,none,none,none,some 10,some 11,none,none,none,none,none,none,none,none,none,none,some 22,some 23,some 24,some 25,some 26,some 27,some 28,some 29,some 30,some 31,some 32] (fun U => by kernel_rfl) (fun L U wr => Below w.heap.size w wr ∧ KeepP w1 wr ∧ w1.heap.size ≤ wr.heap.size ∧ Blk 33 wr (w.heap.size) #[.slice (some ⟨gE,oE,none⟩) qX rX,.bool xX,.slice aX nX cX] ∧ Blk 33 wr (w.heap.size + 1) #[.slice pY qY rY,.bool xY,.slice aY nY cY] ∧ Blk 33 wr (w.heap.size + 1 + 1) #[.slice none 0 0,.bool false,.slice none 0 0] ∧ (L 0 = true → IS (.agg #[.slice pY qY rY,.bool xY,.slice aY nY cY]) (U 23) wr) ∧ (L 1 = true → IS (.pointer (some ⟨w.heap.size,0,none⟩)) (U 24) wr) ∧ (L 2 = true → IS (.slice (some ⟨gE,oE,none⟩) qX rX) (U 25) wr) ∧ (L 3 = true → IS (.int .i64 i) (U 26) wr) ∧ (L 4 = true → IS (.pointer (some ⟨gE,oE + i * 3,none⟩)) (U 27) wr) ∧ (L 5 = true → IS (.pointer (some ⟨gE,oE + i * 3 + 1,none⟩)) (U 28) wr) ∧ (L 6 = true → IS (.agg #[.bool sE,.slice aE mE cE]) (U 29) wr) ∧ (L 7 = true → T2 (TRM (mulP b z9) (s * z9)) (IS (.int .i64 0)) (U 30) wr) ∧ (L 8 = true → T2 (TRM (mulP b z9) (s * z9)) (IS (.int .i64 0)) (U 22) wr) ∧ (L 9 = true → TRM (mulP b z9) (s * z9) (U 31) wr) ∧ (L 10 = true → IS (.int .i64 0) (U 32) wr) ∧ (L 11 = true → NEWU 33 w1.heap.size wr (U 10) (bif L 12 then U 31 else .agg #[.slice none 0 0,.bool false,.slice none 0 0])) ∧ (L 13 = true → IS (.int .i64 0) (U 11) wr) ∧ (L 12 = true → L 9 = true) ∧ (L 12 = true → L 11 = true)) (by kernel_rfl) ?_ ?_ ?_
   · exact fun U => ⟨hbw.drew,KeepP.below (Below.refl _ _).drew,Nat.le_refl _,oX.drew,oY.drew,oR.drew,(fun h => by cases h),(fun h => by cases h),(fun h => by cases h),(fun h => by cases h),(fun h => by cases h),(fun h => by cases h),(fun h => by cases h),(fun h => by cases h),(fun h => by cases h),(fun h => by cases h),(fun h => by cases h),(fun h => by cases h),(fun h => by cases h),(fun h => by cases h),(fun h => by cases h)⟩
   ·
    refine StepsU.run rfl ?_ ?_
    ·
     intro L U wr hF hlk haf A K hA hK;have HA : Hid (A = putAll _ _ U) := hA;clear hA;simp [Aft,Region.binds] at haf;obtain ⟨fb,fk,fs,oX,oY,oR,f0,f1,f2,f3,f4,f5,f6,f7,f8,f9,f10,f11,f13,s12,m11⟩ := hF;have e5 : A.tmps[5]? = some (.pointer (some ⟨w.heap.size + 1,0,none⟩)) := by rw [HA.out];kernel_rfl
     have c0 := oY.cell 0;have c1 := oY.cell 1;have c2 := oY.cell 2;simp at c0;simp at c1;simp at c2;refine ⟨?_⟩;go_simp;refine hK (upd U 23 (.agg #[.slice pY qY rY,.bool xY,.slice aY nY cY])) _ _ ?_ ?_
     · rw [HA.out];kernel_rfl
     · exact ⟨fb,fk,fs,oX,oY,oR,(fun _ => rfl),f1,f2,f3,f4,f5,f6,f7,f8,f9,f10,f11,f13,s12,m11⟩
    refine StepsU.run rfl ?_ ?_
    ·
     intro L U wr hF hlk haf A K hA hK;have HA : Hid (A = putAll _ _ U) := hA;clear hA;simp [Aft,Region.binds] at haf;obtain ⟨fb,fk,fs,oX,oY,oR,f0,f1,f2,f3,f4,f5,f6,f7,f8,f9,f10,f11,f13,s12,m11⟩ := hF;have e3 : A.tmps[3]? = some (.pointer (some ⟨w.heap.size,0,none⟩)) := by rw [HA.out];kernel_rfl
     refine ⟨?_⟩;go_simp;refine hK (upd U 24 (.pointer (some ⟨w.heap.size,0,none⟩))) _ _ ?_ ?_
     · rw [HA.out];kernel_rfl
     · exact ⟨fb,fk,fs,oX,oY,oR,f0,(fun _ => rfl),f2,f3,f4,f5,f6,f7,f8,f9,f10,f11,f13,s12,m11⟩
    refine StepsU.run rfl ?_ ?_
    ·
     intro L U wr hF hlk haf A K hA hK;have HA : Hid (A = putAll _ _ U) := hA;clear hA;simp [Aft,Region.binds] at haf;obtain ⟨fb,fk,fs,oX,oY,oR,f0,f1,f2,f3,f4,f5,f6,f7,f8,f9,f10,f11,f13,s12,m11⟩ := hF;have g1 := f1 (by simp [haf])
     have e24 := rd HA.out 24 (by kernel_rfl) g1
     have c0 := oX.cell 0;simp at c0;refine ⟨?_⟩;go_simp;refine hK (upd U 25 (.slice (some ⟨gE,oE,none⟩) qX rX)) _ _ ?_ ?_
     · rw [HA.out];kernel_rfl
     · exact ⟨fb,fk,fs,oX,oY,oR,f0,f1,(fun _ => rfl),f3,f4,f5,f6,f7,f8,f9,f10,f11,f13,s12,m11⟩
    refine StepsU.run rfl ?_ ?_
    ·
     intro L U wr hF hlk haf A K hA hK;have HA : Hid (A = putAll _ _ U) := hA;clear hA;simp [Aft,Region.binds] at haf;obtain ⟨fb,fk,fs,oX,oY,oR,f0,f1,f2,f3,f4,f5,f6,f7,f8,f9,f10,f11,f13,s12,m11⟩ := hF;have e8 : A.tmps[8]? = some (.int .i64 i) := by rw [HA.out];kernel_rfl
     refine ⟨?_⟩;go_simp;refine hK (upd U 26 (.int .i64 i)) _ _ ?_ ?_
     · rw [HA.out];kernel_rfl
     · exact ⟨fb,fk,fs,oX,oY,oR,f0,f1,f2,(fun _ => rfl),f4,f5,f6,f7,f8,f9,f10,f11,f13,s12,m11⟩
    refine StepsU.run rfl ?_ ?_
    ·
     intro L U wr hF hlk haf A K hA hK;have HA : Hid (A = putAll _ _ U) := hA;clear hA;simp [Aft,Region.binds] at haf;obtain ⟨fb,fk,fs,oX,oY,oR,f0,f1,f2,f3,f4,f5,f6,f7,f8,f9,f10,f11,f13,s12,m11⟩ := hF;have g2 := f2 (by simp [haf])
     have g3 := f3 (by simp [haf])
     have e25 := rd HA.out 25 (by kernel_rfl) g2
     have e26 := rd HA.out 26 (by kernel_rfl) g3
     refine ⟨?_⟩;go_simp;refine hK (upd U 27 (.pointer (some ⟨gE,oE + i * 3,none⟩))) _ _ ?_ ?_
     · rw [HA.out];kernel_rfl
     · exact ⟨fb,fk,fs,oX,oY,oR,f0,f1,f2,f3,(fun _ => rfl),f5,f6,f7,f8,f9,f10,f11,f13,s12,m11⟩
    refine StepsU.run rfl ?_ ?_
    ·
     intro L U wr hF hlk haf A K hA hK;have HA : Hid (A = putAll _ _ U) := hA;clear hA;simp [Aft,Region.binds] at haf;obtain ⟨fb,fk,fs,oX,oY,oR,f0,f1,f2,f3,f4,f5,f6,f7,f8,f9,f10,f11,f13,s12,m11⟩ := hF;have g4 := f4 (by simp [haf])
     have e27 := rd HA.out 27 (by kernel_rfl) g4
     refine ⟨?_⟩;go_simp;refine hK (upd U 28 (.pointer (some ⟨gE,oE + i * 3 + 1,none⟩))) _ _ ?_ ?_
     · rw [HA.out];kernel_rfl
     · exact ⟨fb,fk,fs,oX,oY,oR,f0,f1,f2,f3,f4,(fun _ => rfl),f6,f7,f8,f9,f10,f11,f13,s12,m11⟩
    refine StepsU.run rfl ?_ ?_
    ·
     intro L U wr hF hlk haf A K hA hK;have HA : Hid (A = putAll _ _ U) := hA;clear hA;simp [Aft,Region.binds] at haf;obtain ⟨fb,fk,fs,oX,oY,oR,f0,f1,f2,f3,f4,f5,f6,f7,f8,f9,f10,f11,f13,s12,m11⟩ := hF;have g5 := f5 (by simp [haf])
     have kA1 := (fb.cell (p := ⟨gE,oE + i * 3 + 1,none⟩) (World.block_lt_of_cell? w _ k2)).trans k2;have kA2 := (fb.cell (p := ⟨gE,oE + i * 3 + 2,none⟩) (World.block_lt_of_cell? w _ k3)).trans k3;have e28 := rd HA.out 28 (by kernel_rfl) g5
     refine ⟨?_⟩;go_simp;refine hK (upd U 29 (.agg #[.bool sE,.slice aE mE cE])) _ _ ?_ ?_
     · rw [HA.out];kernel_rfl
     · exact ⟨fb,fk,fs,oX,oY,oR,f0,f1,f2,f3,f4,f5,(fun _ => rfl),f7,f8,f9,f10,f11,f13,s12,m11⟩
    refine StepsU.run rfl ?_ ?_
    ·
     intro L U wr hF hlk haf A K hA hK;have HA : Hid (A = putAll _ _ U) := hA;clear hA;simp [Aft,Region.binds] at haf;obtain ⟨fb,fk,fs,oX,oY,oR,f0,f1,f2,f3,f4,f5,f6,f7,f8,f9,f10,f11,f13,s12,m11⟩ := hF;have g0 := f0 (by simp [haf])
     have e23 := rd HA.out 23 (by kernel_rfl) g0
     have g6 := f6 (by simp [haf])
     have e29 := rd HA.out 29 (by kernel_rfl) g6
     refine ⟨?_⟩;go_simp;refine (lscale_any _ _ b s z9 _ (hY.keepP fk).val (k4.below fb)).mono ?_;rintro e w1 ⟨v,c,rfl,hM,hb⟩;go_simp;refine hK (upd U 30 (.tuple #[v,.int .i64 c])) _ _ ?_ ?_
     · rw [HA.out];kernel_rfl
     · exact ⟨(fb.step hb (Nat.le_refl _)),(fk.trans (KeepP.below hb)),(Nat.le_trans fs hb.size),(oX.stay hb),(oY.stay hb),(oR.stay hb),f0,f1,f2,f3,f4,f5,f6,(fun _ => (by rcases hM with ⟨h1,_⟩ | ⟨h1,h2,rfl,h3⟩ | ⟨h1,h2,rfl,h3⟩;exact absurd h1 HC0.out;exact ⟨_,_,rfl,h3,rfl⟩;exact absurd HOK.out h2)),(mvP (mp_t2 mp_trm mp_is) (KeepP.below hb) f8),(mvP mp_trm (KeepP.below hb) f9),f10,(fun h => (f11 h).below hb),f13,s12,m11⟩
    refine StepsU.run rfl ?_ ?_
    ·
     intro L U wr hF hlk haf A K hA hK;have HA : Hid (A = putAll _ _ U) := hA;clear hA;simp [Aft,Region.binds] at haf;obtain ⟨fb,fk,fs,oX,oY,oR,f0,f1,f2,f3,f4,f5,f6,f7,f8,f9,f10,f11,f13,s12,m11⟩ := hF;have g7 := f7 (by simp [haf])
     have e30 := rd HA.out 30 (by kernel_rfl) rfl
     refine ⟨?_⟩;go_simp;refine hK (upd U 22 (U 30)) _ _ ?_ ?_
     · rw [HA.out];kernel_rfl
     · exact ⟨fb,fk,fs,oX,oY,oR,f0,f1,f2,f3,f4,f5,f6,f7,(fun _ => g7),f9,f10,f11,f13,s12,m11⟩
    refine StepsU.run rfl ?_ ?_
    ·
     intro L U wr hF hlk haf A K hA hK;have HA : Hid (A = putAll _ _ U) := hA;clear hA;simp [Aft,Region.binds] at haf;obtain ⟨fb,fk,fs,oX,oY,oR,f0,f1,f2,f3,f4,f5,f6,f7,f8,f9,f10,f11,f13,s12,m11⟩ := hF;have g8 := f8 (by simp [haf])
     obtain ⟨t0,t1,hT,k0,k1⟩ := g8;have e22 := rd HA.out 22 (by kernel_rfl) hT
     refine ⟨?_⟩;go_simp;have hs12 : L 12 = false := by cases h : L 12 with | false => rfl | true => rw [s12 h] at hlk;cases hlk
     refine hK (upd U 31 t0) _ _ ?_ ?_
     · rw [HA.out];kernel_rfl
     · exact ⟨fb,fk,fs,oX,oY,oR,f0,f1,f2,f3,f4,f5,f6,f7,f8,(fun _ => k0),f10,(fun h => flip_v (P := fun v => NEWU _ _ _ _ v) hs12 (f11 h)),f13,(fun _ => rfl),m11⟩
    refine StepsU.run rfl ?_ ?_
    ·
     intro L U wr hF hlk haf A K hA hK;have HA : Hid (A = putAll _ _ U) := hA;clear hA;simp [Aft,Region.binds] at haf;obtain ⟨fb,fk,fs,oX,oY,oR,f0,f1,f2,f3,f4,f5,f6,f7,f8,f9,f10,f11,f13,s12,m11⟩ := hF;have g8 := f8 (by simp [haf])
     obtain ⟨t0,t1,hT,k0,k1⟩ := g8;have e22 := rd HA.out 22 (by kernel_rfl) hT
     refine ⟨?_⟩;go_simp;refine hK (upd U 32 t1) _ _ ?_ ?_
     · rw [HA.out];kernel_rfl
     · exact ⟨fb,fk,fs,oX,oY,oR,f0,f1,f2,f3,f4,f5,f6,f7,f8,f9,(fun _ => k1),f11,f13,s12,m11⟩
    refine StepsU.run rfl ?_ ?_
    ·
     intro L U wr hF hlk haf A K hA hK;have HA : Hid (A = putAll _ _ U) := hA;clear hA;simp [Aft,Region.binds] at haf;obtain ⟨fb,fk,fs,oX,oY,oR,f0,f1,f2,f3,f4,f5,f6,f7,f8,f9,f10,f11,f13,s12,m11⟩ := hF;have hst : L 12 = false := by cases h : L 12 with | false => rfl | true => rw [m11 h] at hlk;cases hlk
     refine ⟨?_⟩;go_simp;have hb := below_new wr (.cells #[.slice none 0 0,.bool false,.slice none 0 0] 33 (0,0));refine hK (upd U 10 (.pointer (some ⟨wr.heap.size,0,none⟩))) _ _ ?_ ?_
     · rw [HA.out];kernel_rfl
     · exact ⟨(fb.step hb (Nat.le_refl _)),(fk.trans (KeepP.below hb)),(Nat.le_trans fs hb.size),(oX.stay hb),(oY.stay hb),(oR.stay hb),f0,f1,f2,f3,f4,f5,f6,(mvP (mp_t2 mp_trm mp_is) (KeepP.below hb) f7),(mvP (mp_t2 mp_trm mp_is) (KeepP.below hb) f8),(mvP mp_trm (KeepP.below hb) f9),f10,(fun _ => newU_zero (by simp [hst]) (NEWU.mk fs (nuT _ _ _ _ _ _ _))),f13,s12,(fun _ => rfl)⟩
    refine StepsU.run rfl ?_ ?_
    ·
     intro L U wr hF hlk haf A K hA hK;have HA : Hid (A = putAll _ _ U) := hA;clear hA;simp [Aft,Region.binds] at haf;obtain ⟨fb,fk,fs,oX,oY,oR,f0,f1,f2,f3,f4,f5,f6,f7,f8,f9,f10,f11,f13,s12,m11⟩ := hF;have g9 := f9 (by simp [haf])
     obtain ⟨yp,yq,yr,yx,ya,yn,yc,hsrc⟩ := TermR.shape g9;have e31 := rd HA.out 31 (by kernel_rfl) hsrc
     have g11 := f11 (by simp [haf])
     rw [hlk,cond_false] at g11;obtain ⟨b,cs,hp,hBb,hcs,hblk,hN⟩ := g11;injection hcs with hcs;subst hcs;have e10 := rd HA.out 10 (by kernel_rfl) hp
     have q0 := hblk.frozen 0;have q1 := hblk.frozen 1;have q2 := hblk.frozen 2;have c0 := hblk.cell 0;have c1 := hblk.cell 1;have c2 := hblk.cell 2;simp at c0;simp at c1;simp at c2;have hlt := hblk.lt;refine ⟨?_⟩;go_simp;refine hK U _ _ ?_ ?_
     · exact HA.out
     · exact ⟨(below_stores (Nat.le_trans (by exact hbW.size) hBb) [.slice yp yq yr,.bool yx,.slice ya yn yc] 0 fb),(fk.trans (keepP_stores (by decide) (by decide) [.slice yp yq yr,.bool yx,.slice ya yn yc] 0 hblk (nuT _ _ _ _ _ _ _) (nuT _ _ _ _ _ _ _))),(by simp;exact fs),(oX.otherS (Nat.ne_of_gt (Nat.lt_of_lt_of_le ltX hBb)) 0 [.slice yp yq yr,.bool yx,.slice ya yn yc]),(oY.otherS (Nat.ne_of_gt (Nat.lt_of_lt_of_le ltY hBb)) 0 [.slice yp yq yr,.bool yx,.slice ya yn yc]),(oR.otherS (Nat.ne_of_gt (Nat.lt_of_lt_of_le ltR hBb)) 0 [.slice yp yq yr,.bool yx,.slice ya yn yc]),f0,f1,f2,f3,f4,f5,f6,(mvP (mp_t2 mp_trm mp_is) (keepP_stores (by decide) (by decide) [.slice yp yq yr,.bool yx,.slice ya yn yc] 0 hblk (nuT _ _ _ _ _ _ _) (nuT _ _ _ _ _ _ _)) f7),(mvP (mp_t2 mp_trm mp_is) (keepP_stores (by decide) (by decide) [.slice yp yq yr,.bool yx,.slice ya yn yc] 0 hblk (nuT _ _ _ _ _ _ _) (nuT _ _ _ _ _ _ _)) f8),(mvP mp_trm (keepP_stores (by decide) (by decide) [.slice yp yq yr,.bool yx,.slice ya yn yc] 0 hblk (nuT _ _ _ _ _ _ _) (nuT _ _ _ _ _ _ _)) f9),f10,(fun _ => by simp only [cond_true,Bool.true_or,beq_self_eq_true];exact storedU_new hp hsrc (NEWU.overS hBb hblk [.slice yp yq yr,.bool yx,.slice ya yn yc] rfl (nuT _ _ _ _ _ _ _))),f13,(fun _ => by simp [haf]),(fun _ => by simp [haf])⟩
    refine StepsU.run rfl ?_ StepsU.nil
    ·
     intro L U wr hF hlk haf A K hA hK;have HA : Hid (A = putAll _ _ U) := hA;clear hA;simp [Aft,Region.binds] at haf;obtain ⟨fb,fk,fs,oX,oY,oR,f0,f1,f2,f3,f4,f5,f6,f7,f8,f9,f10,f11,f13,s12,m11⟩ := hF;have g10 := f10 (by simp [haf])
     have e32 := rd HA.out 32 (by kernel_rfl) rfl
     refine ⟨?_⟩;go_simp;refine hK (upd U 11 (U 32)) _ _ ?_ ?_
     · rw [HA.out];kernel_rfl
     · exact ⟨fb,fk,fs,oX,oY,oR,f0,f1,f2,f3,f4,f5,f6,f7,f8,f9,f10,f11,(fun _ => g10),s12,m11⟩
   clear hbw oX oY oR;intro L U2 V2 hall hF;obtain ⟨hbw,fk,fs,oX,oY,oR,f0,f1,f2,f3,f4,f5,f6,f7,f8,f9,f10,f11,f13,s12,m11⟩ := hF;clear s12 m11;have g0 := f0 (hall 0 (by decide))
   have g1 := f1 (hall 1 (by decide))
   have g2 := f2 (hall 2 (by decide))
   have g3 := f3 (hall 3 (by decide))
   have g4 := f4 (hall 4 (by decide))
   have g5 := f5 (hall 5 (by decide))
   have g6 := f6 (hall 6 (by decide))
   have g7 := f7 (hall 7 (by decide))
   have g8 := f8 (hall 8 (by decide))
   have g9 := f9 (hall 9 (by decide))
   have g10 := f10 (hall 10 (by decide))
   have g11 := f11 (hall 11 (by decide))
   rw [hall 12 (by decide),cond_true] at g11
   have g13 := f13 (hall 13 (by decide))
   clear hall f0 f1 f2 f3 f4 f5 f6 f7 f8 f9 f10 f11 f13;replace hX := hX.keepP fk;replace hY := hY.keepP fk;obtain ⟨bT,csT,hpT,lbT,hcsT,oT,-⟩ := g11;obtain ⟨pT,qT,rT,xT,aT,nT,cT,hvT⟩ := TermR.shape g9;have hT : TermR _ _ _ _ := g9;rw [hvT] at hT hcsT;injection hcsT with hcsT;subst hcsT;clear hvT;have ltT := oT.lt;have neXT : w.heap.size ≠ bT := Nat.ne_of_lt (Nat.lt_of_lt_of_le ltX lbT);have neYT : w.heap.size + 1 ≠ bT := Nat.ne_of_lt (Nat.lt_of_lt_of_le ltY lbT);have neRT : w.heap.size + 1 + 1 ≠ bT := Nat.ne_of_lt (Nat.lt_of_lt_of_le ltR lbT);have lwT : w.heap.size ≤ bT := Nat.le_trans hbW.size lbT;replace ltX := oX.lt;replace ltY := oY.lt;replace ltR := oR.lt;clear lbT;try clear g0
   try clear g1
   try clear g2
   try clear g3
   try clear g4
   try clear g5
   try clear g6
   try clear g7
   try clear g8
   try clear g9
   try clear g10
   clear hbW;simp only [setM_some,setM_none,setM_nil];rw [hpT];clear hpT;clear fk fs;have e11 : U2 11 = _ := g13;rw [e11];clear g13 e11;go_wp2;by_cases hok2 : tAddOk (remP a v) (mulP b z9) r (s * z9)
   ·
    have HO2 : Hid (tAddOk (remP a v) (mulP b z9) r (s * z9)) := hok2;clear hok2;have geR : w.heap.size ≤ w.heap.size + 1 + 1 := lwR;have neRX : w.heap.size + 1 + 1 ≠ w.heap.size := by omega
    clear ltY oY;have hbW := hbw;refine wp_region_M (by kernel_rfl) [7,37,38,39,40,41,42,43] [none,none,none,none,none,none,none,some 7,none,none,none,none,none,none,none,none,none,none,none,none,none,none,none,none,none,none,none,none,none,none,none,none,none,none,none,none,none,some 37,some 38,some 39,some 40,some 41,some 42,some 43] (fun U => by kernel_rfl) (fun L U wr => Below w.heap.size w wr ∧ KeepP V2 wr ∧ V2.heap.size ≤ wr.heap.size ∧ Blk 33 wr (w.heap.size) #[.slice (some ⟨gE,oE,none⟩) qX rX,.bool xX,.slice aX nX cX] ∧ Blk 33 wr (bT) #[.slice pT qT rT,.bool xT,.slice aT nT cT] ∧ BlkV 33 wr (w.heap.size + 1 + 1) (bif L 7 then U 42 else .agg #[.slice none 0 0,.bool false,.slice none 0 0]) ∧ (L 0 = true → IS (.agg #[.slice (some ⟨gE,oE,none⟩) qX rX,.bool xX,.slice aX nX cX]) (U 37) wr) ∧ (L 1 = true → IS (.int .i64 i) (U 38) wr) ∧ (L 2 = true → TRM (remP a v) r (U 39) wr) ∧ (L 3 = true → IS (.agg #[.slice pT qT rT,.bool xT,.slice aT nT cT]) (U 40) wr) ∧ (L 4 = true → T2 (TRM (addP (remP a v) (mulP b z9)) (r + s * z9)) (IS (.int .i64 0)) (U 41) wr) ∧ (L 5 = true → TRM (addP (remP a v) (mulP b z9)) (r + s * z9) (U 42) wr) ∧ (L 6 = true → IS (.int .i64 0) (U 43) wr) ∧ (L 8 = true → IS (.int .i64 0) (U 7) wr) ∧ (L 7 = true → L 5 = true)) (by kernel_rfl) ?_ ?_ ?_
    · exact fun U => ⟨hbw.drew,KeepP.below (Below.refl _ _).drew,Nat.le_refl _,oX.drew,oT.drew,⟨_,rfl,oR.drew⟩,(fun h => by cases h),(fun h => by cases h),(fun h => by cases h),(fun h => by cases h),(fun h => by cases h),(fun h => by cases h),(fun h => by cases h),(fun h => by cases h),(fun h => by cases h)⟩
    ·
     refine StepsU.run rfl ?_ ?_
     ·
      intro L U wr hF hlk haf A K hA hK;have HA : Hid (A = putAll _ _ U) := hA;clear hA;simp [Aft,Region.binds] at haf;obtain ⟨fb,fk,fs,oX,oT,rR,f0,f1,f2,f3,f4,f5,f6,f8,s7⟩ := hF;have e3 : A.tmps[3]? = some (.pointer (some ⟨w.heap.size,0,none⟩)) := by rw [HA.out];kernel_rfl
      have c0 := oX.cell 0;have c1 := oX.cell 1;have c2 := oX.cell 2;simp at c0;simp at c1;simp at c2;refine ⟨?_⟩;go_simp;refine hK (upd U 37 (.agg #[.slice (some ⟨gE,oE,none⟩) qX rX,.bool xX,.slice aX nX cX])) _ _ ?_ ?_
      · rw [HA.out];kernel_rfl
      · exact ⟨fb,fk,fs,oX,oT,rR,(fun _ => rfl),f1,f2,f3,f4,f5,f6,f8,s7⟩
     refine StepsU.run rfl ?_ ?_
     ·
      intro L U wr hF hlk haf A K hA hK;have HA : Hid (A = putAll _ _ U) := hA;clear hA;simp [Aft,Region.binds] at haf;obtain ⟨fb,fk,fs,oX,oT,rR,f0,f1,f2,f3,f4,f5,f6,f8,s7⟩ := hF;have e8 : A.tmps[8]? = some (.int .i64 i) := by rw [HA.out];kernel_rfl
      refine ⟨?_⟩;go_simp;refine hK (upd U 38 (.int .i64 i)) _ _ ?_ ?_
      · rw [HA.out];kernel_rfl
      · exact ⟨fb,fk,fs,oX,oT,rR,f0,(fun _ => rfl),f2,f3,f4,f5,f6,f8,s7⟩
     refine StepsU.run rfl ?_ ?_
     ·
      intro L U wr hF hlk haf A K hA hK;have HA : Hid (A = putAll _ _ U) := hA;clear hA;simp [Aft,Region.binds] at haf;obtain ⟨fb,fk,fs,oX,oT,rR,f0,f1,f2,f3,f4,f5,f6,f8,s7⟩ := hF;have g0 := f0 (by simp [haf])
      have e37 := rd HA.out 37 (by kernel_rfl) g0
      have g1 := f1 (by simp [haf])
      have e38 := rd HA.out 38 (by kernel_rfl) g1
      refine ⟨?_⟩;go_simp;refine (without_any _ a r i _ (hX.keepP fk).val (by rw [HLN.out];exact hiq)).mono ?_
      rintro e w1 ⟨v5,rfl,hr,hb⟩;go_simp;refine hK (upd U 39 v5) _ _ ?_ ?_
      · rw [HA.out];kernel_rfl
      · exact ⟨(fb.step hb (Nat.le_refl _)),(fk.trans (KeepP.below hb)),(Nat.le_trans fs hb.size),(oX.stay hb),(oT.stay hb),(rR.stay hb),f0,f1,(fun _ => (by rw [HRM.out];exact hr)),f3,(mvP (mp_t2 mp_trm mp_is) (KeepP.below hb) f4),(mvP mp_trm (KeepP.below hb) f5),f6,f8,s7⟩
     refine StepsU.run rfl ?_ ?_
     ·
      intro L U wr hF hlk haf A K hA hK;have HA : Hid (A = putAll _ _ U) := hA;clear hA;simp [Aft,Region.binds] at haf;obtain ⟨fb,fk,fs,oX,oT,rR,f0,f1,f2,f3,f4,f5,f6,f8,s7⟩ := hF;have e10 : A.tmps[10]? = some (.pointer (some ⟨bT,0,none⟩)) := by rw [HA.out];kernel_rfl
      have c0 := oT.cell 0;have c1 := oT.cell 1;have c2 := oT.cell 2;simp at c0;simp at c1;simp at c2;refine ⟨?_⟩;go_simp;refine hK (upd U 40 (.agg #[.slice pT qT rT,.bool xT,.slice aT nT cT])) _ _ ?_ ?_
      · rw [HA.out];kernel_rfl
      · exact ⟨fb,fk,fs,oX,oT,rR,f0,f1,f2,(fun _ => rfl),f4,f5,f6,f8,s7⟩
     refine StepsU.run rfl ?_ ?_
     ·
      intro L U wr hF hlk haf A K hA hK;have HA : Hid (A = putAll _ _ U) := hA;clear hA;simp [Aft,Region.binds] at haf;obtain ⟨fb,fk,fs,oX,oT,rR,f0,f1,f2,f3,f4,f5,f6,f8,s7⟩ := hF;have g2 := f2 (by simp [haf])
      have e39 := rd HA.out 39 (by kernel_rfl) rfl
      have g3 := f3 (by simp [haf])
      have e40 := rd HA.out 40 (by kernel_rfl) g3
      refine ⟨?_⟩;go_simp;refine (ladd_any _ _ (remP a v) (mulP b z9) r (s * z9) _ g2 (hT.keepP fk)).mono ?_;rintro e w1 ⟨v,c,rfl,hM,hb⟩;go_simp;refine hK (upd U 41 (.tuple #[v,.int .i64 c])) _ _ ?_ ?_
      · rw [HA.out];kernel_rfl
      · exact ⟨(fb.step hb (Nat.le_refl _)),(fk.trans (KeepP.below hb)),(Nat.le_trans fs hb.size),(oX.stay hb),(oT.stay hb),(rR.stay hb),f0,f1,(mvP mp_trm (KeepP.below hb) f2),f3,(fun _ => (by rcases hM with ⟨h1,rfl,h3⟩ | ⟨h1,rfl,h3⟩;exact ⟨_,_,rfl,h3,rfl⟩;exact absurd HO2.out h1)),(mvP mp_trm (KeepP.below hb) f5),f6,f8,s7⟩
     refine StepsU.run rfl ?_ ?_
     ·
      intro L U wr hF hlk haf A K hA hK;have HA : Hid (A = putAll _ _ U) := hA;clear hA;simp [Aft,Region.binds] at haf;obtain ⟨fb,fk,fs,oX,oT,rR,f0,f1,f2,f3,f4,f5,f6,f8,s7⟩ := hF;have g4 := f4 (by simp [haf])
      obtain ⟨t0,t1,hT,k0,k1⟩ := g4;have e41 := rd HA.out 41 (by kernel_rfl) hT
      refine ⟨?_⟩;go_simp;have hs7 : L 7 = false := by cases h : L 7 with | false => rfl | true => rw [s7 h] at hlk;cases hlk
      refine hK (upd U 42 t0) _ _ ?_ ?_
      · rw [HA.out];kernel_rfl
      · exact ⟨fb,fk,fs,oX,oT,(flip_v (P := fun v => BlkV _ _ _ v) hs7 rR),f0,f1,f2,f3,f4,(fun _ => k0),f6,f8,(fun _ => rfl)⟩
     refine StepsU.run rfl ?_ ?_
     ·
      intro L U wr hF hlk haf A K hA hK;have HA : Hid (A = putAll _ _ U) := hA;clear hA;simp [Aft,Region.binds] at haf;obtain ⟨fb,fk,fs,oX,oT,rR,f0,f1,f2,f3,f4,f5,f6,f8,s7⟩ := hF;have g4 := f4 (by simp [haf])
      obtain ⟨t0,t1,hT,k0,k1⟩ := g4;have e41 := rd HA.out 41 (by kernel_rfl) hT
      refine ⟨?_⟩;go_simp;refine hK (upd U 43 t1) _ _ ?_ ?_
      · rw [HA.out];kernel_rfl
      · exact ⟨fb,fk,fs,oX,oT,rR,f0,f1,f2,f3,f4,f5,(fun _ => k1),f8,s7⟩
     refine StepsU.run rfl ?_ ?_
     ·
      intro L U wr hF hlk haf A K hA hK;have HA : Hid (A = putAll _ _ U) := hA;clear hA;simp [Aft,Region.binds] at haf;obtain ⟨fb,fk,fs,oX,oT,rR,f0,f1,f2,f3,f4,f5,f6,f8,s7⟩ := hF;have g5 := f5 (by simp [haf])
      obtain ⟨yp,yq,yr,yx,ya,yn,yc,hsrc⟩ := TermR.shape g5;have e42 := rd HA.out 42 (by kernel_rfl) hsrc
      have e6 : A.tmps[6]? = some (.pointer (some ⟨w.heap.size + 1 + 1,0,none⟩)) := by rw [HA.out];kernel_rfl
      have rV := rR;rw [hlk,cond_false] at rV;obtain ⟨cs,hcs,hblk⟩ := rV;injection hcs with hcs;subst hcs;have q0 := hblk.frozen 0;have q1 := hblk.frozen 1;have q2 := hblk.frozen 2;have c0 := hblk.cell 0;have c1 := hblk.cell 1;have c2 := hblk.cell 2;simp at c0;simp at c1;simp at c2;have hlt := hblk.lt;refine ⟨?_⟩;go_simp;refine hK U _ _ ?_ ?_
      · exact HA.out
      · exact ⟨(below_stores geR [.slice yp yq yr,.bool yx,.slice ya yn yc] 0 fb),(fk.trans (keepP_stores (by decide) (by decide) [.slice yp yq yr,.bool yx,.slice ya yn yc] 0 hblk (nuT _ _ _ _ _ _ _) (nuT _ _ _ _ _ _ _))),(by simp;exact fs),(oX.otherS neRX 0 [.slice yp yq yr,.bool yx,.slice ya yn yc]),(oT.otherS neRT 0 [.slice yp yq yr,.bool yx,.slice ya yn yc]),(by simp only [cond_true,Bool.true_or,beq_self_eq_true];exact ⟨_,hsrc,hblk.overS [.slice yp yq yr,.bool yx,.slice ya yn yc] 0 rfl⟩),f0,f1,(mvP mp_trm (keepP_stores (by decide) (by decide) [.slice yp yq yr,.bool yx,.slice ya yn yc] 0 hblk (nuT _ _ _ _ _ _ _) (nuT _ _ _ _ _ _ _)) f2),f3,(mvP (mp_t2 mp_trm mp_is) (keepP_stores (by decide) (by decide) [.slice yp yq yr,.bool yx,.slice ya yn yc] 0 hblk (nuT _ _ _ _ _ _ _) (nuT _ _ _ _ _ _ _)) f4),(mvP mp_trm (keepP_stores (by decide) (by decide) [.slice yp yq yr,.bool yx,.slice ya yn yc] 0 hblk (nuT _ _ _ _ _ _ _) (nuT _ _ _ _ _ _ _)) f5),f6,f8,(fun _ => by simp [haf])⟩
     refine StepsU.run rfl ?_ StepsU.nil
     ·
      intro L U wr hF hlk haf A K hA hK;have HA : Hid (A = putAll _ _ U) := hA;clear hA;simp [Aft,Region.binds] at haf;obtain ⟨fb,fk,fs,oX,oT,rR,f0,f1,f2,f3,f4,f5,f6,f8,s7⟩ := hF;have g6 := f6 (by simp [haf])
      have e43 := rd HA.out 43 (by kernel_rfl) rfl
      refine ⟨?_⟩;go_simp;refine hK (upd U 7 (U 43)) _ _ ?_ ?_
      · rw [HA.out];kernel_rfl
      · exact ⟨fb,fk,fs,oX,oT,rR,f0,f1,f2,f3,f4,f5,f6,(fun _ => g6),s7⟩
    clear hbw oX oT oR;intro L U3 V3 hall hF;obtain ⟨hbw,fk,fs,oX,oT,rR,f0,f1,f2,f3,f4,f5,f6,f8,s7⟩ := hF;clear s7;have g0 := f0 (hall 0 (by decide))
    have g1 := f1 (hall 1 (by decide))
    have g2 := f2 (hall 2 (by decide))
    have g3 := f3 (hall 3 (by decide))
    have g4 := f4 (hall 4 (by decide))
    have g5 := f5 (hall 5 (by decide))
    have g6 := f6 (hall 6 (by decide))
    have g8 := f8 (hall 8 (by decide))
    rw [hall 7 (by decide),cond_true] at rR
    clear hall f0 f1 f2 f3 f4 f5 f6 f8;replace hX := hX.keepP fk;replace hY := hY.keepP fk;replace hT := hT.keepP fk;obtain ⟨csR,hcsR,oR⟩ := rR;obtain ⟨pR,qR,rR,xR,aR,nR,cR,hvR⟩ := TermR.shape g5;have hR : TermR _ _ _ _ := g5;rw [hvR] at hR hcsR;injection hcsR with hcsR;subst hcsR;clear hvR;replace ltR := oR.lt;replace ltX := oX.lt;replace ltT := oT.lt;try clear g0
    try clear g1
    try clear g2
    try clear g3
    try clear g4
    try clear g5
    try clear g6
    clear hbW;simp only [setM_some,setM_none,setM_nil];clear fk fs;have e7 : U3 7 = _ := g8;obtain ⟨Rc0,Rc1,Rc2⟩ := oR.three;obtain ⟨Rk0,Rk1,Rk2⟩ := oR.frozen3;try simp only []
    try go_at_K
    repeat (first | go_values | go_skip | go_guarded | go_step | go_upon)
    refine bodyPost_ret (v := .tuple #[.agg #[.slice pR qR rR,.bool xR,.slice aR nR cR],.int .i64 0]) (by simp [results,Tryz.results25,go_sem,Rc0,Rc1,Rc2,e7]) rfl ?_
    have hp1 : putP a v b = addP (remP a v) (mulP b z9) := by unfold putP;rw [if_pos (thereB_iff.2 HTH.out),H9.out.2.2.1]
    have hp2 : putR a r v s = r + s * z9 := by unfold putR;rw [if_pos (thereB_iff.2 HTH.out),H9.out.2.2.1]
    rw [hp1,hp2];exact ⟨_,_,rfl,Or.inl ⟨fun _ => by rw [H9.out.2.2.1];exact ⟨HOK.out,HO2.out⟩,rfl,hR⟩,hbw⟩
   ·
    have HO2 : Hid (¬ tAddOk (remP a v) (mulP b z9) r (s * z9)) := hok2;clear hok2;have geR : w.heap.size ≤ w.heap.size + 1 + 1 := lwR;have neRX : w.heap.size + 1 + 1 ≠ w.heap.size := by omega
    clear ltY oY;have hbW := hbw;refine wp_region_M (by kernel_rfl) [7,37,38,39,40,41,42,43] [none,none,none,none,none,none,none,some 7,none,none,none,none,none,none,none,none,none,none,none,none,none,none,none,none,none,none,none,none,none,none,none,none,none,none,none,none,none,some 37,some 38,some 39,some 40,some 41,some 42,some 43] (fun U => by kernel_rfl) (fun L U wr => Below w.heap.size w wr ∧ KeepP V2 wr ∧ V2.heap.size ≤ wr.heap.size ∧ Blk 33 wr (w.heap.size) #[.slice (some ⟨gE,oE,none⟩) qX rX,.bool xX,.slice aX nX cX] ∧ Blk 33 wr (bT) #[.slice pT qT rT,.bool xT,.slice aT nT cT] ∧ BlkV 33 wr (w.heap.size + 1 + 1) (bif L 7 then U 42 else .agg #[.slice none 0 0,.bool false,.slice none 0 0]) ∧ (L 0 = true → IS (.agg #[.slice (some ⟨gE,oE,none⟩) qX rX,.bool xX,.slice aX nX cX]) (U 37) wr) ∧ (L 1 = true → IS (.int .i64 i) (U 38) wr) ∧ (L 2 = true → TRM (remP a v) r (U 39) wr) ∧ (L 3 = true → IS (.agg #[.slice pT qT rT,.bool xT,.slice aT nT cT]) (U 40) wr) ∧ (L 4 = true → T2 (TRM [] 0) (IS (.int .i64 11)) (U 41) wr) ∧ (L 5 = true → TRM [] 0 (U 42) wr) ∧ (L 6 = true → IS (.int .i64 11) (U 43) wr) ∧ (L 8 = true → IS (.int .i64 11) (U 7) wr) ∧ (L 7 = true → L 5 = true)) (by kernel_rfl) ?_ ?_ ?_
    · exact fun U => ⟨hbw.drew,KeepP.below (Below.refl _ _).drew,Nat.le_refl _,oX.drew,oT.drew,⟨_,rfl,oR.drew⟩,(fun h => by cases h),(fun h => by cases h),(fun h => by cases h),(fun h => by cases h),(fun h => by cases h),(fun h => by cases h),(fun h => by cases h),(fun h => by cases h),(fun h => by cases h)⟩
    ·
     refine StepsU.run rfl ?_ ?_
     ·
      intro L U wr hF hlk haf A K hA hK;have HA : Hid (A = putAll _ _ U) := hA;clear hA;simp [Aft,Region.binds] at haf;obtain ⟨fb,fk,fs,oX,oT,rR,f0,f1,f2,f3,f4,f5,f6,f8,s7⟩ := hF;have e3 : A.tmps[3]? = some (.pointer (some ⟨w.heap.size,0,none⟩)) := by rw [HA.out];kernel_rfl
      have c0 := oX.cell 0;have c1 := oX.cell 1;have c2 := oX.cell 2;simp at c0;simp at c1;simp at c2;refine ⟨?_⟩;go_simp;refine hK (upd U 37 (.agg #[.slice (some ⟨gE,oE,none⟩) qX rX,.bool xX,.slice aX nX cX])) _ _ ?_ ?_
      · rw [HA.out];kernel_rfl
      · exact ⟨fb,fk,fs,oX,oT,rR,(fun _ => rfl),f1,f2,f3,f4,f5,f6,f8,s7⟩
     refine StepsU.run rfl ?_ ?_
     ·
      intro L U wr hF hlk haf A K hA hK;have HA : Hid (A = putAll _ _ U) := hA;clear hA;simp [Aft,Region.binds] at haf;obtain ⟨fb,fk,fs,oX,oT,rR,f0,f1,f2,f3,f4,f5,f6,f8,s7⟩ := hF;have e8 : A.tmps[8]? = some (.int .i64 i) := by rw [HA.out];kernel_rfl
      refine ⟨?_⟩;go_simp;refine hK (upd U 38 (.int .i64 i)) _ _ ?_ ?_
      · rw [HA.out];kernel_rfl
      · exact ⟨fb,fk,fs,oX,oT,rR,f0,(fun _ => rfl),f2,f3,f4,f5,f6,f8,s7⟩
     refine StepsU.run rfl ?_ ?_
     ·
      intro L U wr hF hlk haf A K hA hK;have HA : Hid (A = putAll _ _ U) := hA;clear hA;simp [Aft,Region.binds] at haf;obtain ⟨fb,fk,fs,oX,oT,rR,f0,f1,f2,f3,f4,f5,f6,f8,s7⟩ := hF;have g0 := f0 (by simp [haf])
      have e37 := rd HA.out 37 (by kernel_rfl) g0
      have g1 := f1 (by simp [haf])
      have e38 := rd HA.out 38 (by kernel_rfl) g1
      refine ⟨?_⟩;go_simp;refine (without_any _ a r i _ (hX.keepP fk).val (by rw [HLN.out];exact hiq)).mono ?_
      rintro e w1 ⟨v5,rfl,hr,hb⟩;go_simp;refine hK (upd U 39 v5) _ _ ?_ ?_
      · rw [HA.out];kernel_rfl
      · exact ⟨(fb.step hb (Nat.le_refl _)),(fk.trans (KeepP.below hb)),(Nat.le_trans fs hb.size),(oX.stay hb),(oT.stay hb),(rR.stay hb),f0,f1,(fun _ => (by rw [HRM.out];exact hr)),f3,(mvP (mp_t2 mp_trm mp_is) (KeepP.below hb) f4),(mvP mp_trm (KeepP.below hb) f5),f6,f8,s7⟩
     refine StepsU.run rfl ?_ ?_
     ·
      intro L U wr hF hlk haf A K hA hK;have HA : Hid (A = putAll _ _ U) := hA;clear hA;simp [Aft,Region.binds] at haf;obtain ⟨fb,fk,fs,oX,oT,rR,f0,f1,f2,f3,f4,f5,f6,f8,s7⟩ := hF;have e10 : A.tmps[10]? = some (.pointer (some ⟨bT,0,none⟩)) := by rw [HA.out];kernel_rfl
      have c0 := oT.cell 0;have c1 := oT.cell 1;have c2 := oT.cell 2;simp at c0;simp at c1;simp at c2;refine ⟨?_⟩;go_simp;refine hK (upd U 40 (.agg #[.slice pT qT rT,.bool xT,.slice aT nT cT])) _ _ ?_ ?_
      · rw [HA.out];kernel_rfl
      · exact ⟨fb,fk,fs,oX,oT,rR,f0,f1,f2,(fun _ => rfl),f4,f5,f6,f8,s7⟩
     refine StepsU.run rfl ?_ ?_
     ·
      intro L U wr hF hlk haf A K hA hK;have HA : Hid (A = putAll _ _ U) := hA;clear hA;simp [Aft,Region.binds] at haf;obtain ⟨fb,fk,fs,oX,oT,rR,f0,f1,f2,f3,f4,f5,f6,f8,s7⟩ := hF;have g2 := f2 (by simp [haf])
      have e39 := rd HA.out 39 (by kernel_rfl) rfl
      have g3 := f3 (by simp [haf])
      have e40 := rd HA.out 40 (by kernel_rfl) g3
      refine ⟨?_⟩;go_simp;refine (ladd_any _ _ (remP a v) (mulP b z9) r (s * z9) _ g2 (hT.keepP fk)).mono ?_;rintro e w1 ⟨v,c,rfl,hM,hb⟩;go_simp;refine hK (upd U 41 (.tuple #[v,.int .i64 c])) _ _ ?_ ?_
      · rw [HA.out];kernel_rfl
      · exact ⟨(fb.step hb (Nat.le_refl _)),(fk.trans (KeepP.below hb)),(Nat.le_trans fs hb.size),(oX.stay hb),(oT.stay hb),(rR.stay hb),f0,f1,(mvP mp_trm (KeepP.below hb) f2),f3,(fun _ => (by rcases hM with ⟨h1,rfl,h3⟩ | ⟨h1,rfl,h3⟩;exact absurd h1 HO2.out;exact ⟨_,_,rfl,h3,rfl⟩)),(mvP mp_trm (KeepP.below hb) f5),f6,f8,s7⟩
     refine StepsU.run rfl ?_ ?_
     ·
      intro L U wr hF hlk haf A K hA hK;have HA : Hid (A = putAll _ _ U) := hA;clear hA;simp [Aft,Region.binds] at haf;obtain ⟨fb,fk,fs,oX,oT,rR,f0,f1,f2,f3,f4,f5,f6,f8,s7⟩ := hF;have g4 := f4 (by simp [haf])
      obtain ⟨t0,t1,hT,k0,k1⟩ := g4;have e41 := rd HA.out 41 (by kernel_rfl) hT
      refine ⟨?_⟩;go_simp;have hs7 : L 7 = false := by cases h : L 7 with | false => rfl | true => rw [s7 h] at hlk;cases hlk
      refine hK (upd U 42 t0) _ _ ?_ ?_
      · rw [HA.out];kernel_rfl
      · exact ⟨fb,fk,fs,oX,oT,(flip_v (P := fun v => BlkV _ _ _ v) hs7 rR),f0,f1,f2,f3,f4,(fun _ => k0),f6,f8,(fun _ => rfl)⟩
     refine StepsU.run rfl ?_ ?_
     ·
      intro L U wr hF hlk haf A K hA hK;have HA : Hid (A = putAll _ _ U) := hA;clear hA;simp [Aft,Region.binds] at haf;obtain ⟨fb,fk,fs,oX,oT,rR,f0,f1,f2,f3,f4,f5,f6,f8,s7⟩ := hF;have g4 := f4 (by simp [haf])
      obtain ⟨t0,t1,hT,k0,k1⟩ := g4;have e41 := rd HA.out 41 (by kernel_rfl) hT
      refine ⟨?_⟩;go_simp;refine hK (upd U 43 t1) _ _ ?_ ?_
      · rw [HA.out];kernel_rfl
      · exact ⟨fb,fk,fs,oX,oT,rR,f0,f1,f2,f3,f4,f5,(fun _ => k1),f8,s7⟩
     refine StepsU.run rfl ?_ ?_
     ·
      intro L U wr hF hlk haf A K hA hK;have HA : Hid (A = putAll _ _ U) := hA;clear hA;simp [Aft,Region.binds] at haf;obtain ⟨fb,fk,fs,oX,oT,rR,f0,f1,f2,f3,f4,f5,f6,f8,s7⟩ := hF;have g5 := f5 (by simp [haf])
      obtain ⟨yp,yq,yr,yx,ya,yn,yc,hsrc⟩ := TermR.shape g5;have e42 := rd HA.out 42 (by kernel_rfl) hsrc
      have e6 : A.tmps[6]? = some (.pointer (some ⟨w.heap.size + 1 + 1,0,none⟩)) := by rw [HA.out];kernel_rfl
      have rV := rR;rw [hlk,cond_false] at rV;obtain ⟨cs,hcs,hblk⟩ := rV;injection hcs with hcs;subst hcs;have q0 := hblk.frozen 0;have q1 := hblk.frozen 1;have q2 := hblk.frozen 2;have c0 := hblk.cell 0;have c1 := hblk.cell 1;have c2 := hblk.cell 2;simp at c0;simp at c1;simp at c2;have hlt := hblk.lt;refine ⟨?_⟩;go_simp;refine hK U _ _ ?_ ?_
      · exact HA.out
      · exact ⟨(below_stores geR [.slice yp yq yr,.bool yx,.slice ya yn yc] 0 fb),(fk.trans (keepP_stores (by decide) (by decide) [.slice yp yq yr,.bool yx,.slice ya yn yc] 0 hblk (nuT _ _ _ _ _ _ _) (nuT _ _ _ _ _ _ _))),(by simp;exact fs),(oX.otherS neRX 0 [.slice yp yq yr,.bool yx,.slice ya yn yc]),(oT.otherS neRT 0 [.slice yp yq yr,.bool yx,.slice ya yn yc]),(by simp only [cond_true,Bool.true_or,beq_self_eq_true];exact ⟨_,hsrc,hblk.overS [.slice yp yq yr,.bool yx,.slice ya yn yc] 0 rfl⟩),f0,f1,(mvP mp_trm (keepP_stores (by decide) (by decide) [.slice yp yq yr,.bool yx,.slice ya yn yc] 0 hblk (nuT _ _ _ _ _ _ _) (nuT _ _ _ _ _ _ _)) f2),f3,(mvP (mp_t2 mp_trm mp_is) (keepP_stores (by decide) (by decide) [.slice yp yq yr,.bool yx,.slice ya yn yc] 0 hblk (nuT _ _ _ _ _ _ _) (nuT _ _ _ _ _ _ _)) f4),(mvP mp_trm (keepP_stores (by decide) (by decide) [.slice yp yq yr,.bool yx,.slice ya yn yc] 0 hblk (nuT _ _ _ _ _ _ _) (nuT _ _ _ _ _ _ _)) f5),f6,f8,(fun _ => by simp [haf])⟩
     refine StepsU.run rfl ?_ StepsU.nil
     ·
      intro L U wr hF hlk haf A K hA hK;have HA : Hid (A = putAll _ _ U) := hA;clear hA;simp [Aft,Region.binds] at haf;obtain ⟨fb,fk,fs,oX,oT,rR,f0,f1,f2,f3,f4,f5,f6,f8,s7⟩ := hF;have g6 := f6 (by simp [haf])
      have e43 := rd HA.out 43 (by kernel_rfl) rfl
      refine ⟨?_⟩;go_simp;refine hK (upd U 7 (U 43)) _ _ ?_ ?_
      · rw [HA.out];kernel_rfl
      · exact ⟨fb,fk,fs,oX,oT,rR,f0,f1,f2,f3,f4,f5,f6,(fun _ => g6),s7⟩
    clear hbw oX oT oR;intro L U3 V3 hall hF;obtain ⟨hbw,fk,fs,oX,oT,rR,f0,f1,f2,f3,f4,f5,f6,f8,s7⟩ := hF;clear s7;have g0 := f0 (hall 0 (by decide))
    have g1 := f1 (hall 1 (by decide))
    have g2 := f2 (hall 2 (by decide))
    have g3 := f3 (hall 3 (by decide))
    have g4 := f4 (hall 4 (by decide))
    have g5 := f5 (hall 5 (by decide))
    have g6 := f6 (hall 6 (by decide))
    have g8 := f8 (hall 8 (by decide))
    rw [hall 7 (by decide),cond_true] at rR
    clear hall f0 f1 f2 f3 f4 f5 f6 f8;replace hX := hX.keepP fk;replace hY := hY.keepP fk;replace hT := hT.keepP fk;obtain ⟨csR,hcsR,oR⟩ := rR;obtain ⟨pR,qR,rR,xR,aR,nR,cR,hvR⟩ := TermR.shape g5;have hR : TermR _ _ _ _ := g5;rw [hvR] at hR hcsR;injection hcsR with hcsR;subst hcsR;clear hvR;replace ltR := oR.lt;replace ltX := oX.lt;replace ltT := oT.lt;try clear g0
    try clear g1
    try clear g2
    try clear g3
    try clear g4
    try clear g5
    try clear g6
    clear hbW;simp only [setM_some,setM_none,setM_nil];clear fk fs;have e7 : U3 7 = _ := g8;obtain ⟨Rc0,Rc1,Rc2⟩ := oR.three;obtain ⟨Rk0,Rk1,Rk2⟩ := oR.frozen3;try simp only []
    try go_at_K
    repeat (first | go_values | go_skip | go_guarded | go_step | go_upon)
    refine bodyPost_ret (v := .tuple #[.agg #[.slice pR qR rR,.bool xR,.slice aR nR cR],.int .i64 11]) (by simp [results,Tryz.results25,go_sem,Rc0,Rc1,Rc2,e7]) rfl ?_
    exact ⟨_,_,rfl,Or.inr ⟨fun h => HO2.out (by have := (h HTH.out).2;rw [H9.out.2.2.1] at this;exact this),rfl,hR⟩,hbw⟩
  ·
   have HOK : Hid (¬ tMulOk b s z9) := hok;clear hok;go_wp2;have hbW := hbw;refine wp_region_M (by kernel_rfl) [10,11,22,23,24,25,26,27,28,29,30,31,32] [none,none,none,none,none,none,none,none,none,none,some 10,some 11,none,none,none,none,none,none,none,none,none,none,some 22,some 23,some 24,some 25,some 26,some 27,some 28,some 29,some 30,some 31,some 32] (fun U => by kernel_rfl) (fun L U wr => Below w.heap.size w wr ∧ KeepP w1 wr ∧ w1.heap.size ≤ wr.heap.size ∧ Blk 33 wr (w.heap.size) #[.slice (some ⟨gE,oE,none⟩) qX rX,.bool xX,.slice aX nX cX] ∧ Blk 33 wr (w.heap.size + 1) #[.slice pY qY rY,.bool xY,.slice aY nY cY] ∧ Blk 33 wr (w.heap.size + 1 + 1) #[.slice none 0 0,.bool false,.slice none 0 0] ∧ (L 0 = true → IS (.agg #[.slice pY qY rY,.bool xY,.slice aY nY cY]) (U 23) wr) ∧ (L 1 = true → IS (.pointer (some ⟨w.heap.size,0,none⟩)) (U 24) wr) ∧ (L 2 = true → IS (.slice (some ⟨gE,oE,none⟩) qX rX) (U 25) wr) ∧ (L 3 = true → IS (.int .i64 i) (U 26) wr) ∧ (L 4 = true → IS (.pointer (some ⟨gE,oE + i * 3,none⟩)) (U 27) wr) ∧ (L 5 = true → IS (.pointer (some ⟨gE,oE + i * 3 + 1,none⟩)) (U 28) wr) ∧ (L 6 = true → IS (.agg #[.bool sE,.slice aE mE cE]) (U 29) wr) ∧ (L 7 = true → T2 (TRM [] 0) (IS (.int .i64 11)) (U 30) wr) ∧ (L 8 = true → T2 (TRM [] 0) (IS (.int .i64 11)) (U 22) wr) ∧ (L 9 = true → TRM [] 0 (U 31) wr) ∧ (L 10 = true → IS (.int .i64 11) (U 32) wr) ∧ (L 11 = true → NEWU 33 w1.heap.size wr (U 10) (bif L 12 then U 31 else .agg #[.slice none 0 0,.bool false,.slice none 0 0])) ∧ (L 13 = true → IS (.int .i64 11) (U 11) wr) ∧ (L 12 = true → L 9 = true) ∧ (L 12 = true → L 11 = true)) (by kernel_rfl) ?_ ?_ ?_
   · exact fun U => ⟨hbw.drew,KeepP.below (Below.refl _ _).drew,Nat.le_refl _,oX.drew,oY.drew,oR.drew,(fun h => by cases h),(fun h => by cases h),(fun h => by cases h),(fun h => by cases h),(fun h => by cases h),(fun h => by cases h),(fun h => by cases h),(fun h => by cases h),(fun h => by cases h),(fun h => by cases h),(fun h => by cases h),(fun h => by cases h),(fun h => by cases h),(fun h => by cases h),(fun h => by cases h)⟩
   ·
    refine StepsU.run rfl ?_ ?_
    ·
     intro L U wr hF hlk haf A K hA hK;have HA : Hid (A = putAll _ _ U) := hA;clear hA;simp [Aft,Region.binds] at haf;obtain ⟨fb,fk,fs,oX,oY,oR,f0,f1,f2,f3,f4,f5,f6,f7,f8,f9,f10,f11,f13,s12,m11⟩ := hF;have e5 : A.tmps[5]? = some (.pointer (some ⟨w.heap.size + 1,0,none⟩)) := by rw [HA.out];kernel_rfl
     have c0 := oY.cell 0;have c1 := oY.cell 1;have c2 := oY.cell 2;simp at c0;simp at c1;simp at c2;refine ⟨?_⟩;go_simp;refine hK (upd U 23 (.agg #[.slice pY qY rY,.bool xY,.slice aY nY cY])) _ _ ?_ ?_
     · rw [HA.out];kernel_rfl
     · exact ⟨fb,fk,fs,oX,oY,oR,(fun _ => rfl),f1,f2,f3,f4,f5,f6,f7,f8,f9,f10,f11,f13,s12,m11⟩
    refine StepsU.run rfl ?_ ?_
    ·
     intro L U wr hF hlk haf A K hA hK;have HA : Hid (A = putAll _ _ U) := hA;clear hA;simp [Aft,Region.binds] at haf;obtain ⟨fb,fk,fs,oX,oY,oR,f0,f1,f2,f3,f4,f5,f6,f7,f8,f9,f10,f11,f13,s12,m11⟩ := hF;have e3 : A.tmps[3]? = some (.pointer (some ⟨w.heap.size,0,none⟩)) := by rw [HA.out];kernel_rfl
     refine ⟨?_⟩;go_simp;refine hK (upd U 24 (.pointer (some ⟨w.heap.size,0,none⟩))) _ _ ?_ ?_
     · rw [HA.out];kernel_rfl
     · exact ⟨fb,fk,fs,oX,oY,oR,f0,(fun _ => rfl),f2,f3,f4,f5,f6,f7,f8,f9,f10,f11,f13,s12,m11⟩
    refine StepsU.run rfl ?_ ?_
    ·
     intro L U wr hF hlk haf A K hA hK;have HA : Hid (A = putAll _ _ U) := hA;clear hA;simp [Aft,Region.binds] at haf;obtain ⟨fb,fk,fs,oX,oY,oR,f0,f1,f2,f3,f4,f5,f6,f7,f8,f9,f10,f11,f13,s12,m11⟩ := hF;have g1 := f1 (by simp [haf])
     have e24 := rd HA.out 24 (by kernel_rfl) g1
     have c0 := oX.cell 0;simp at c0;refine ⟨?_⟩;go_simp;refine hK (upd U 25 (.slice (some ⟨gE,oE,none⟩) qX rX)) _ _ ?_ ?_
     · rw [HA.out];kernel_rfl
     · exact ⟨fb,fk,fs,oX,oY,oR,f0,f1,(fun _ => rfl),f3,f4,f5,f6,f7,f8,f9,f10,f11,f13,s12,m11⟩
    refine StepsU.run rfl ?_ ?_
    ·
     intro L U wr hF hlk haf A K hA hK;have HA : Hid (A = putAll _ _ U) := hA;clear hA;simp [Aft,Region.binds] at haf;obtain ⟨fb,fk,fs,oX,oY,oR,f0,f1,f2,f3,f4,f5,f6,f7,f8,f9,f10,f11,f13,s12,m11⟩ := hF;have e8 : A.tmps[8]? = some (.int .i64 i) := by rw [HA.out];kernel_rfl
     refine ⟨?_⟩;go_simp;refine hK (upd U 26 (.int .i64 i)) _ _ ?_ ?_
     · rw [HA.out];kernel_rfl
     · exact ⟨fb,fk,fs,oX,oY,oR,f0,f1,f2,(fun _ => rfl),f4,f5,f6,f7,f8,f9,f10,f11,f13,s12,m11⟩
    refine StepsU.run rfl ?_ ?_
    ·
     intro L U wr hF hlk haf A K hA hK;have HA : Hid (A = putAll _ _ U) := hA;clear hA;simp [Aft,Region.binds] at haf;obtain ⟨fb,fk,fs,oX,oY,oR,f0,f1,f2,f3,f4,f5,f6,f7,f8,f9,f10,f11,f13,s12,m11⟩ := hF;have g2 := f2 (by simp [haf])
     have g3 := f3 (by simp [haf])
     have e25 := rd HA.out 25 (by kernel_rfl) g2
     have e26 := rd HA.out 26 (by kernel_rfl) g3
     refine ⟨?_⟩;go_simp;refine hK (upd U 27 (.pointer (some ⟨gE,oE + i * 3,none⟩))) _ _ ?_ ?_
     · rw [HA.out];kernel_rfl
     · exact ⟨fb,fk,fs,oX,oY,oR,f0,f1,f2,f3,(fun _ => rfl),f5,f6,f7,f8,f9,f10,f11,f13,s12,m11⟩
    refine StepsU.run rfl ?_ ?_
    ·
     intro L U wr hF hlk haf A K hA hK;have HA : Hid (A = putAll _ _ U) := hA;clear hA;simp [Aft,Region.binds] at haf;obtain ⟨fb,fk,fs,oX,oY,oR,f0,f1,f2,f3,f4,f5,f6,f7,f8,f9,f10,f11,f13,s12,m11⟩ := hF;have g4 := f4 (by simp [haf])
     have e27 := rd HA.out 27 (by kernel_rfl) g4
     refine ⟨?_⟩;go_simp;refine hK (upd U 28 (.pointer (some ⟨gE,oE + i * 3 + 1,none⟩))) _ _ ?_ ?_
     · rw [HA.out];kernel_rfl
     · exact ⟨fb,fk,fs,oX,oY,oR,f0,f1,f2,f3,f4,(fun _ => rfl),f6,f7,f8,f9,f10,f11,f13,s12,m11⟩
    refine StepsU.run rfl ?_ ?_
    ·
     intro L U wr hF hlk haf A K hA hK;have HA : Hid (A = putAll _ _ U) := hA;clear hA;simp [Aft,Region.binds] at haf;obtain ⟨fb,fk,fs,oX,oY,oR,f0,f1,f2,f3,f4,f5,f6,f7,f8,f9,f10,f11,f13,s12,m11⟩ := hF;have g5 := f5 (by simp [haf])
     have kA1 := (fb.cell (p := ⟨gE,oE + i * 3 + 1,none⟩) (World.block_lt_of_cell? w _ k2)).trans k2;have kA2 := (fb.cell (p := ⟨gE,oE + i * 3 + 2,none⟩) (World.block_lt_of_cell? w _ k3)).trans k3;have e28 := rd HA.out 28 (by kernel_rfl) g5
     refine ⟨?_⟩;go_simp;refine hK (upd U 29 (.agg #[.bool sE,.slice aE mE cE])) _ _ ?_ ?_
     · rw [HA.out];kernel_rfl
     · exact ⟨fb,fk,fs,oX,oY,oR,f0,f1,f2,f3,f4,f5,(fun _ => rfl),f7,f8,f9,f10,f11,f13,s12,m11⟩
    refine StepsU.run rfl ?_ ?_
    ·
     intro L U wr hF hlk haf A K hA hK;have HA : Hid (A = putAll _ _ U) := hA;clear hA;simp [Aft,Region.binds] at haf;obtain ⟨fb,fk,fs,oX,oY,oR,f0,f1,f2,f3,f4,f5,f6,f7,f8,f9,f10,f11,f13,s12,m11⟩ := hF;have g0 := f0 (by simp [haf])
     have e23 := rd HA.out 23 (by kernel_rfl) g0
     have g6 := f6 (by simp [haf])
     have e29 := rd HA.out 29 (by kernel_rfl) g6
     refine ⟨?_⟩;go_simp;refine (lscale_any _ _ b s z9 _ (hY.keepP fk).val (k4.below fb)).mono ?_;rintro e w1 ⟨v,c,rfl,hM,hb⟩;go_simp;refine hK (upd U 30 (.tuple #[v,.int .i64 c])) _ _ ?_ ?_
     · rw [HA.out];kernel_rfl
     · exact ⟨(fb.step hb (Nat.le_refl _)),(fk.trans (KeepP.below hb)),(Nat.le_trans fs hb.size),(oX.stay hb),(oY.stay hb),(oR.stay hb),f0,f1,f2,f3,f4,f5,f6,(fun _ => (by rcases hM with ⟨h1,_⟩ | ⟨h1,h2,rfl,h3⟩ | ⟨h1,h2,rfl,h3⟩;exact absurd h1 HC0.out;exact absurd h2 HOK.out;exact ⟨_,_,rfl,h3,rfl⟩)),(mvP (mp_t2 mp_trm mp_is) (KeepP.below hb) f8),(mvP mp_trm (KeepP.below hb) f9),f10,(fun h => (f11 h).below hb),f13,s12,m11⟩
    refine StepsU.run rfl ?_ ?_
    ·
     intro L U wr hF hlk haf A K hA hK;have HA : Hid (A = putAll _ _ U) := hA;clear hA;simp [Aft,Region.binds] at haf;obtain ⟨fb,fk,fs,oX,oY,oR,f0,f1,f2,f3,f4,f5,f6,f7,f8,f9,f10,f11,f13,s12,m11⟩ := hF;have g7 := f7 (by simp [haf])
     have e30 := rd HA.out 30 (by kernel_rfl) rfl
     refine ⟨?_⟩;go_simp;refine hK (upd U 22 (U 30)) _ _ ?_ ?_
     · rw [HA.out];kernel_rfl
     · exact ⟨fb,fk,fs,oX,oY,oR,f0,f1,f2,f3,f4,f5,f6,f7,(fun _ => g7),f9,f10,f11,f13,s12,m11⟩
    refine StepsU.run rfl ?_ ?_
    ·
     intro L U wr hF hlk haf A K hA hK;have HA : Hid (A = putAll _ _ U) := hA;clear hA;simp [Aft,Region.binds] at haf;obtain ⟨fb,fk,fs,oX,oY,oR,f0,f1,f2,f3,f4,f5,f6,f7,f8,f9,f10,f11,f13,s12,m11⟩ := hF;have g8 := f8 (by simp [haf])
     obtain ⟨t0,t1,hT,k0,k1⟩ := g8;have e22 := rd HA.out 22 (by kernel_rfl) hT
     refine ⟨?_⟩;go_simp;have hs12 : L 12 = false := by cases h : L 12 with | false => rfl | true => rw [s12 h] at hlk;cases hlk
     refine hK (upd U 31 t0) _ _ ?_ ?_
     · rw [HA.out];kernel_rfl
     · exact ⟨fb,fk,fs,oX,oY,oR,f0,f1,f2,f3,f4,f5,f6,f7,f8,(fun _ => k0),f10,(fun h => flip_v (P := fun v => NEWU _ _ _ _ v) hs12 (f11 h)),f13,(fun _ => rfl),m11⟩
    refine StepsU.run rfl ?_ ?_
    ·
     intro L U wr hF hlk haf A K hA hK;have HA : Hid (A = putAll _ _ U) := hA;clear hA;simp [Aft,Region.binds] at haf;obtain ⟨fb,fk,fs,oX,oY,oR,f0,f1,f2,f3,f4,f5,f6,f7,f8,f9,f10,f11,f13,s12,m11⟩ := hF;have g8 := f8 (by simp [haf])
     obtain ⟨t0,t1,hT,k0,k1⟩ := g8;have e22 := rd HA.out 22 (by kernel_rfl) hT
     refine ⟨?_⟩;go_simp;refine hK (upd U 32 t1) _ _ ?_ ?_
     · rw [HA.out];kernel_rfl
     · exact ⟨fb,fk,fs,oX,oY,oR,f0,f1,f2,f3,f4,f5,f6,f7,f8,f9,(fun _ => k1),f11,f13,s12,m11⟩
    refine StepsU.run rfl ?_ ?_
    ·
     intro L U wr hF hlk haf A K hA hK;have HA : Hid (A = putAll _ _ U) := hA;clear hA;simp [Aft,Region.binds] at haf;obtain ⟨fb,fk,fs,oX,oY,oR,f0,f1,f2,f3,f4,f5,f6,f7,f8,f9,f10,f11,f13,s12,m11⟩ := hF;have hst : L 12 = false := by cases h : L 12 with | false => rfl | true => rw [m11 h] at hlk;cases hlk
     refine ⟨?_⟩;go_simp;have hb := below_new wr (.cells #[.slice none 0 0,.bool false,.slice none 0 0] 33 (0,0));refine hK (upd U 10 (.pointer (some ⟨wr.heap.size,0,none⟩))) _ _ ?_ ?_
     · rw [HA.out];kernel_rfl
     · exact ⟨(fb.step hb (Nat.le_refl _)),(fk.trans (KeepP.below hb)),(Nat.le_trans fs hb.size),(oX.stay hb),(oY.stay hb),(oR.stay hb),f0,f1,f2,f3,f4,f5,f6,(mvP (mp_t2 mp_trm mp_is) (KeepP.below hb) f7),(mvP (mp_t2 mp_trm mp_is) (KeepP.below hb) f8),(mvP mp_trm (KeepP.below hb) f9),f10,(fun _ => newU_zero (by simp [hst]) (NEWU.mk fs (nuT _ _ _ _ _ _ _))),f13,s12,(fun _ => rfl)⟩
    refine StepsU.run rfl ?_ ?_
    ·
     intro L U wr hF hlk haf A K hA hK;have HA : Hid (A = putAll _ _ U) := hA;clear hA;simp [Aft,Region.binds] at haf;obtain ⟨fb,fk,fs,oX,oY,oR,f0,f1,f2,f3,f4,f5,f6,f7,f8,f9,f10,f11,f13,s12,m11⟩ := hF;have g9 := f9 (by simp [haf])
     obtain ⟨yp,yq,yr,yx,ya,yn,yc,hsrc⟩ := TermR.shape g9;have e31 := rd HA.out 31 (by kernel_rfl) hsrc
     have g11 := f11 (by simp [haf])
     rw [hlk,cond_false] at g11;obtain ⟨b,cs,hp,hBb,hcs,hblk,hN⟩ := g11;injection hcs with hcs;subst hcs;have e10 := rd HA.out 10 (by kernel_rfl) hp
     have q0 := hblk.frozen 0;have q1 := hblk.frozen 1;have q2 := hblk.frozen 2;have c0 := hblk.cell 0;have c1 := hblk.cell 1;have c2 := hblk.cell 2;simp at c0;simp at c1;simp at c2;have hlt := hblk.lt;refine ⟨?_⟩;go_simp;refine hK U _ _ ?_ ?_
     · exact HA.out
     · exact ⟨(below_stores (Nat.le_trans (by exact hbW.size) hBb) [.slice yp yq yr,.bool yx,.slice ya yn yc] 0 fb),(fk.trans (keepP_stores (by decide) (by decide) [.slice yp yq yr,.bool yx,.slice ya yn yc] 0 hblk (nuT _ _ _ _ _ _ _) (nuT _ _ _ _ _ _ _))),(by simp;exact fs),(oX.otherS (Nat.ne_of_gt (Nat.lt_of_lt_of_le ltX hBb)) 0 [.slice yp yq yr,.bool yx,.slice ya yn yc]),(oY.otherS (Nat.ne_of_gt (Nat.lt_of_lt_of_le ltY hBb)) 0 [.slice yp yq yr,.bool yx,.slice ya yn yc]),(oR.otherS (Nat.ne_of_gt (Nat.lt_of_lt_of_le ltR hBb)) 0 [.slice yp yq yr,.bool yx,.slice ya yn yc]),f0,f1,f2,f3,f4,f5,f6,(mvP (mp_t2 mp_trm mp_is) (keepP_stores (by decide) (by decide) [.slice yp yq yr,.bool yx,.slice ya yn yc] 0 hblk (nuT _ _ _ _ _ _ _) (nuT _ _ _ _ _ _ _)) f7),(mvP (mp_t2 mp_trm mp_is) (keepP_stores (by decide) (by decide) [.slice yp yq yr,.bool yx,.slice ya yn yc] 0 hblk (nuT _ _ _ _ _ _ _) (nuT _ _ _ _ _ _ _)) f8),(mvP mp_trm (keepP_stores (by decide) (by decide) [.slice yp yq yr,.bool yx,.slice ya yn yc] 0 hblk (nuT _ _ _ _ _ _ _) (nuT _ _ _ _ _ _ _)) f9),f10,(fun _ => by simp only [cond_true,Bool.true_or,beq_self_eq_true];exact storedU_new hp hsrc (NEWU.overS hBb hblk [.slice yp yq yr,.bool yx,.slice ya yn yc] rfl (nuT _ _ _ _ _ _ _))),f13,(fun _ => by simp [haf]),(fun _ => by simp [haf])⟩
    refine StepsU.run rfl ?_ StepsU.nil
    ·
     intro L U wr hF hlk haf A K hA hK;have HA : Hid (A = putAll _ _ U) := hA;clear hA;simp [Aft,Region.binds] at haf;obtain ⟨fb,fk,fs,oX,oY,oR,f0,f1,f2,f3,f4,f5,f6,f7,f8,f9,f10,f11,f13,s12,m11⟩ := hF;have g10 := f10 (by simp [haf])
     have e32 := rd HA.out 32 (by kernel_rfl) rfl
     refine ⟨?_⟩;go_simp;refine hK (upd U 11 (U 32)) _ _ ?_ ?_
     · rw [HA.out];kernel_rfl
     · exact ⟨fb,fk,fs,oX,oY,oR,f0,f1,f2,f3,f4,f5,f6,f7,f8,f9,f10,f11,(fun _ => g10),s12,m11⟩
   clear hbw oX oY oR;intro L U2 V2 hall hF;obtain ⟨hbw,fk,fs,oX,oY,oR,f0,f1,f2,f3,f4,f5,f6,f7,f8,f9,f10,f11,f13,s12,m11⟩ := hF;clear s12 m11;have g0 := f0 (hall 0 (by decide))
   have g1 := f1 (hall 1 (by decide))
   have g2 := f2 (hall 2 (by decide))
   have g3 := f3 (hall 3 (by decide))
   have g4 := f4 (hall 4 (by decide))
   have g5 := f5 (hall 5 (by decide))
   have g6 := f6 (hall 6 (by decide))
   have g7 := f7 (hall 7 (by decide))
   have g8 := f8 (hall 8 (by decide))
   have g9 := f9 (hall 9 (by decide))
   have g10 := f10 (hall 10 (by decide))
   have g11 := f11 (hall 11 (by decide))
   rw [hall 12 (by decide),cond_true] at g11
   have g13 := f13 (hall 13 (by decide))
   clear hall f0 f1 f2 f3 f4 f5 f6 f7 f8 f9 f10 f11 f13;replace hX := hX.keepP fk;replace hY := hY.keepP fk;obtain ⟨bT,csT,hpT,lbT,hcsT,oT,-⟩ := g11;obtain ⟨pT,qT,rT,xT,aT,nT,cT,hvT⟩ := TermR.shape g9;have hT : TermR _ _ _ _ := g9;rw [hvT] at hT hcsT;injection hcsT with hcsT;subst hcsT;clear hvT;have ltT := oT.lt;have neXT : w.heap.size ≠ bT := Nat.ne_of_lt (Nat.lt_of_lt_of_le ltX lbT);have neYT : w.heap.size + 1 ≠ bT := Nat.ne_of_lt (Nat.lt_of_lt_of_le ltY lbT);have neRT : w.heap.size + 1 + 1 ≠ bT := Nat.ne_of_lt (Nat.lt_of_lt_of_le ltR lbT);have lwT : w.heap.size ≤ bT := Nat.le_trans hbW.size lbT;replace ltX := oX.lt;replace ltY := oY.lt;replace ltR := oR.lt;clear lbT;try clear g0
   try clear g1
   try clear g2
   try clear g3
   try clear g4
   try clear g5
   try clear g6
   try clear g7
   try clear g8
   try clear g9
   try clear g10
   clear hbW;simp only [setM_some,setM_none,setM_nil];rw [hpT];clear hpT;clear fk fs;have e11 : U2 11 = _ := g13;rw [e11];clear g13 e11;obtain ⟨Rc0,Rc1,Rc2⟩ := oR.three;obtain ⟨Rk0,Rk1,Rk2⟩ := oR.frozen3;try simp only []
   try go_at_K
   repeat (first | go_values | go_skip | go_guarded | go_step | go_upon)
   refine bodyPost_ret (v := .tuple #[.agg #[.slice none 0 0,.bool false,.slice none 0 0],.int .i64 11]) (by simp [results,Tryz.results25,go_sem,Rc0,Rc1,Rc2]) rfl ?_
   obtain ⟨K1,B1,_⟩ := resT (by decide) (by decide) oR hbw lwR none 0 0 false none 0 0
   exact ⟨_,_,rfl,Or.inr ⟨fun h => HOK.out (by have := (h HTH.out).1;rw [H9.out.2.2.1] at this;exact this),rfl,(TP.zero _).val⟩,B1⟩
 ·
  have hd : decide (∃ p ∈ a,(p.1 : Int) = v) = false := decide_eq_false hth;have HTH : Hid (¬ there a v) := hth;clear hth;obtain ⟨Xc0,Xc1,Xc2⟩ := oX.three;obtain ⟨Xk0,Xk1,Xk2⟩ := oX.frozen3;go_wp2_with fail
  refine (lcopied_any _ a r _ hX.val).mono ?_;rintro e w2 ⟨v5,rfl,hV,hb⟩;clear Xc0 Xc1 Xc2 Xk0 Xk1 Xk2;replace oX := oX.stay hb;replace ltX := oX.lt;replace oY := oY.stay hb;replace ltY := oY.lt;replace oR := oR.stay hb;replace ltR := oR.lt;replace hX := hX.below hb;replace hY := hY.below hb;replace hbw := hbw.step hb (Nat.le_refl _);clear hb;obtain ⟨p5,q5,r5,x5,a5,n5,c5,rfl,hV⟩ := hV;obtain ⟨Rc0,Rc1,Rc2⟩ := oR.three;obtain ⟨Rk0,Rk1,Rk2⟩ := oR.frozen3;try simp only []
  try go_at_K
  repeat (first | go_values | go_skip | go_guarded | go_step | go_upon)
  refine bodyPost_ret (v := .tuple #[.agg #[.slice p5 q5 r5,.bool x5,.slice a5 n5 c5],.int .i64 0]) (by simp [results,Tryz.results25,go_sem,Rc0,Rc1,Rc2]) rfl ?_
  obtain ⟨K1,B1,_⟩ := resT (by decide) (by decide) oR hbw lwR p5 q5 r5 x5 a5 n5 c5
  have hp1 : putP a v b = a := if_neg (fun h9 => HTH.out (thereB_iff.1 h9))
  have hp2 : putR a r v s = r := if_neg (fun h9 => HTH.out (thereB_iff.1 h9))
  rw [hp1,hp2];exact ⟨_,_,rfl,Or.inl ⟨fun h => absurd h HTH.out,rfl,(hV.keepP K1).val⟩,B1⟩
def Arr (w : World) (ao : Option Addr) (zs : List Int) : Prop :=
  zs = [] ∨ ∃ g o, ao = some ⟨g, o, none⟩ ∧ ∀ i, i < zs.length → ∃ s a n c, w.cell? ⟨g, o + i * 2, none⟩ = some (.bool s) ∧ w.cell? ⟨g, o + i * 2 + 1, none⟩ = some (.slice a n c) ∧ AInt w (.agg #[.bool s, .slice a n c]) (zs.getD i 0)
def Els (w : World) (xs : List Value) (zs : List Int) : Prop :=
  ∀ i, i < zs.length → ∃ s a n c, xs[i * 2]? = some (.bool s) ∧ xs[i * 2 + 1]? = some (.slice a n c) ∧ AInt w (.agg #[.bool s, .slice a n c]) (zs.getD i 0)
theorem Els.nil (w : World) : Els w [] [] := fun i hi => by simp at hi
theorem Els.keep {w w' : World} {xs : List Value} {zs : List Int} (h : Els w xs zs) (hk : KeepI w w') : Els w' xs zs := by
 intro i hi;obtain ⟨s,a,n,c,h1,h2,h3⟩ := h i hi;exact ⟨s,a,n,c,h1,h2,h3.keepI hk⟩
theorem Els.push {w : World} {xs : List Value} {zs : List Int} (h : Els w xs zs) (hl : xs.length = zs.length * 2) {s : Bool} {a : Option Addr} {n c : Nat} {z : Int} (hz : AInt w (.agg #[.bool s,.slice a n c]) z) : Els w (xs ++ [.bool s,.slice a n c]) (zs ++ [z]) := by
 intro i hi;rw [List.length_append,List.length_singleton] at hi;rcases Nat.lt_or_ge i zs.length with k | k
 ·
  obtain ⟨s',a',n',c',h1,h2,h3⟩ := h i k;refine ⟨s',a',n',c',?_,?_,?_⟩
  · rw [List.getElem?_append_left (by omega)];exact h1
  · rw [List.getElem?_append_left (by omega)];exact h2
  · rw [List.getD_eq_getElem?_getD,List.getElem?_append_left k,← List.getD_eq_getElem?_getD];exact h3
 ·
  have e : i = zs.length := by omega
  subst e;refine ⟨s,a,n,c,?_,?_,?_⟩
  · rw [List.getElem?_append_right (by omega),hl,Nat.sub_self];rfl
  · rw [List.getElem?_append_right (by omega),hl,show zs.length * 2 + 1 - zs.length * 2 = 1 by omega];rfl
  · rw [List.getD_eq_getElem?_getD,List.getElem?_append_right (Nat.le_refl _),Nat.sub_self];exact hz
theorem Lst.arr {e : TypeId} {base : Nat} {w : World} {v : Value} {n : Nat} {xs : List Value} {zs : List Int} (h : Lst e base w v n xs) (he : Els w xs zs) (hl : zs.length = n) :
  (v = .slice none 0 0 ∧ n = 0) ∨ ∃ g cap,v = .slice (some ⟨g,0,none⟩) n cap ∧ n ≤ cap ∧ cap ≤ maxLen ∧ Arr w (some ⟨g,0,none⟩) zs := by
 rcases h.2 with h0 | ⟨g,cap,cur,rfl,h3,h4,h5,h6,_⟩
 · exact Or.inl h0
 ·
  refine Or.inr ⟨g,cap,rfl,h5,h6,?_⟩;rcases h.cells with k | ⟨g',cap',e1,_,_,_,_,h7⟩
  · exact Or.inl (List.eq_nil_of_length_eq_zero (hl.trans k))
  ·
   cases e1
   refine Or.inr ⟨g,0,rfl,fun i hi => ?_⟩
   obtain ⟨s,a,m,c,k1,k2,k3⟩ := he i hi;exact ⟨s,a,m,c,by rw [Nat.zero_add];exact h7 _ _ k1,by rw [Nat.zero_add];exact h7 _ _ k2,k3⟩
theorem less_step {P A Y X bo x y d bo' : Nat} (h : A + Y = X + P * bo) (hs : d + y + bo = x + 10 * bo') : (A + P * d) + (Y + P * y) = (X + P * x) + P * 10 * bo' := by
 have e := congrArg (P * ·) hs;simp only [Nat.mul_add] at e;rw [Nat.mul_assoc P 10 bo'];omega
set_option maxHeartbeats 4000000 in
theorem rless_any (ao bo' : Option Addr) (n m cap cap' : Nat) (xs ys : List Nat) (w : World) (hn : xs.length = n) (hm : ys.length = m) (h1 : n ≤ 10000) (h2 : m ≤ n) (hs : Seg .i64 w ao xs) (ht : Seg .i64 w bo' ys) (hdx : Digs 10 xs) (hdy : Digs 10 ys) (hle : val 10 ys ≤ val 10 xs) :
  Calls Tryz.prog 98 #[.slice ao n cap,.slice bo' m cap'] w fun e w' => ∃ v,e = .returned v ∧ ∃ zs,Own .i64 3 w.heap.size w' v zs ∧ Digs 10 zs ∧ val 10 zs = val 10 xs - val 10 ys ∧ zs.length = n ∧ Below w.heap.size w w' := by
 have HN : Hid (xs.length = n) := hn;have HM : Hid (ys.length = m) := hm;have HLE : Hid (val 10 ys ≤ val 10 xs) := hle;clear hn hm hle;go_enter Tryz.func98,Tryz.ntmps98;go_wp2;go_loopw [5,6,7] (fun v c i wr => ∃ k bo : Nat,∃ zs,k ≤ n ∧ i = .int .i64 k ∧ c = .int .i64 bo ∧ bo ≤ 1 ∧ Hid (zs.length = k) ∧ Digs 10 zs ∧ Own .i64 3 w.heap.size wr v zs ∧ Hid (val 10 zs + val 10 (ys.take k) = val 10 (xs.take k) + 10 ^ k * bo) ∧ Below w.heap.size w wr ∧ w.heap.size ≤ wr.heap.size) (fun _ _ i _ => n - (intOf i).toNat)
 case atStart => exact ⟨0,0,[],Nat.zero_le _,rfl,rfl,by omega,(rfl : _ = _),Digs.nil _,Own.nil _ _ _ _,(by simp [val] : _ = _),Below.refl _ _,Nat.le_refl _⟩
 case round =>
  obtain ⟨k,bo,zs,hk,rfl,rfl,hc,HZ,hzd,hown,HV,hbel,hsz⟩ := hrel;have hs' := hs.below hbel;have ht' := ht.below hbel;have HZL : Hid (zs.length ≤ 100000) := by show _ ≤ _;rw [HZ.out];omega
  by_cases ha : k < n
  ·
   obtain ⟨x,hx⟩ : ∃ x,x = xs.getD k 0 := ⟨_,rfl⟩;obtain ⟨y,hy⟩ : ∃ y,y = ys.getD k 0 := ⟨_,rfl⟩;have hx10 : x < 10 := hx ▸ hdx.getD (by decide) k
   have hy10 : y < 10 := hy ▸ hdy.getD (by decide) k
   have HX : Hid (x = xs.getD k 0) := hx;have HY : Hid (y = ys.getD k 0) := hy;clear hx hy;obtain ⟨b,off,rfl,hc1⟩ := hs'.open k (by have := HN.out;omega)
   have c1 := hc1 k (by have := HN.out;omega)
   rw [← HX.out] at c1;clear hc1 hs';by_cases hb : k < m
   ·
    obtain ⟨b2,off2,rfl,hc2⟩ := ht'.open k (by have := HM.out;omega)
    have c2 := hc2 k (by have := HM.out;omega)
    rw [← HY.out] at c2;clear hc2 ht';by_cases hng : x < bo + y
    ·
     have g : decide ((x : Int) - (bo : Int) - (y : Int) < 0) = true := by simp;omega
     go_wp2_with (at_builtin;refine wpList_append_num rfl (.tmp 35) (.tmp 37) 37 rfl w.heap.size 3 .i64 8 Tryz.underlying37 Tryz.info3 (by decide) _ _ rfl hown _ (x + 10 - bo - y) (by omega) rfl HZL.out hsz ?_;intro v' w3 hown3 hblk3 hbel3)
     go_roundw
     case rel =>
      refine ⟨k + 1,1,zs ++ [(x + 10 - bo - y)],by omega,by go_num,rfl,by omega,?_,hzd.append (Digs.cons (by omega) (Digs.nil _)),hown3,?_,hbel.trans hbel3,by have := hbel3.size;omega⟩
      ·
       show _ = _
       rw [List.length_append,HZ.out];rfl
      ·
       show _ = _
       rw [val_snoc,HZ.out,val_take_succ',val_take_succ',← HX.out,← HY.out,Nat.pow_succ];exact less_step HV.out (by omega)
     case measure => simp [intOf];omega
    ·
     have g : decide ((x : Int) - (bo : Int) - (y : Int) < 0) = false := by simp;omega
     go_wp2_with (at_builtin;refine wpList_append_num rfl (.tmp 35) (.tmp 37) 37 rfl w.heap.size 3 .i64 8 Tryz.underlying37 Tryz.info3 (by decide) _ _ rfl hown _ (x - bo - y) (by omega) rfl HZL.out hsz ?_;intro v' w3 hown3 hblk3 hbel3)
     go_roundw
     case rel =>
      refine ⟨k + 1,0,zs ++ [(x - bo - y)],by omega,by go_num,rfl,by omega,?_,hzd.append (Digs.cons (by omega) (Digs.nil _)),hown3,?_,hbel.trans hbel3,by have := hbel3.size;omega⟩
      ·
       show _ = _
       rw [List.length_append,HZ.out];rfl
      ·
       show _ = _
       rw [val_snoc,HZ.out,val_take_succ',val_take_succ',← HX.out,← HY.out,Nat.pow_succ];exact less_step HV.out (by omega)
     case measure => simp [intOf];omega
   ·
    have HY0 : Hid (y = 0) := by
     show _ = _
     rw [HY.out,List.getD_eq_getElem?_getD,List.getElem?_eq_none (by have := HM.out;omega)];rfl
    clear ht';by_cases hng : x < bo
    ·
     have g : decide ((x : Int) - (bo : Int) < 0) = true := by simp;omega
     go_wp2_with (at_builtin;refine wpList_append_num rfl (.tmp 35) (.tmp 37) 37 rfl w.heap.size 3 .i64 8 Tryz.underlying37 Tryz.info3 (by decide) _ _ rfl hown _ (x + 10 - bo) (by omega) rfl HZL.out hsz ?_;intro v' w3 hown3 hblk3 hbel3)
     go_roundw
     case rel =>
      refine ⟨k + 1,1,zs ++ [(x + 10 - bo)],by omega,by go_num,rfl,by omega,?_,hzd.append (Digs.cons (by omega) (Digs.nil _)),hown3,?_,hbel.trans hbel3,by have := hbel3.size;omega⟩
      ·
       show _ = _
       rw [List.length_append,HZ.out];rfl
      ·
       show _ = _
       rw [val_snoc,HZ.out,val_take_succ',val_take_succ',← HX.out,← HY.out,Nat.pow_succ];exact less_step HV.out (by have := HY0.out;omega)
     case measure => simp [intOf];omega
    ·
     have g : decide ((x : Int) - (bo : Int) < 0) = false := by simp;omega
     go_wp2_with (at_builtin;refine wpList_append_num rfl (.tmp 35) (.tmp 37) 37 rfl w.heap.size 3 .i64 8 Tryz.underlying37 Tryz.info3 (by decide) _ _ rfl hown _ (x - bo) (by omega) rfl HZL.out hsz ?_;intro v' w3 hown3 hblk3 hbel3)
     go_roundw
     case rel =>
      refine ⟨k + 1,0,zs ++ [(x - bo)],by omega,by go_num,rfl,by omega,?_,hzd.append (Digs.cons (by omega) (Digs.nil _)),hown3,?_,hbel.trans hbel3,by have := hbel3.size;omega⟩
      ·
       show _ = _
       rw [List.length_append,HZ.out];rfl
      ·
       show _ = _
       rw [val_snoc,HZ.out,val_take_succ',val_take_succ',← HX.out,← HY.out,Nat.pow_succ];exact less_step HV.out (by have := HY0.out;omega)
     case measure => simp [intOf];omega
  ·
   have hkn : k = n := by omega
   subst hkn;go_wp2;go_ret
   have h5 := HV.out;rw [List.take_of_length_le (by have := HM.out;omega),List.take_of_length_le (by have := HN.out;omega)] at h5
   have h6 := val_lt hzd;rw [HZ.out] at h6;have hb0 : bo = 0 := by
    rcases Nat.eq_zero_or_pos bo with e | e
    · exact e
    ·
     have e1 : bo = 1 := by omega
     subst e1;have := HLE.out;omega
   subst hb0;exact ⟨_,rfl,zs,hown,hzd,by have := HLE.out;omega,HZ.out,hbel⟩
end Go.Proofs.YteefniagebcagaaGreatDoor
