/- Contract of suretyref03's Add; they prove no statement of the seat. -/
import Derived.Test.YteefniagebcagaaGreatDoorJoin26Tells
namespace Go.Proofs.YteefniagebcagaaGreatDoor
open Go.RowKit
set_option linter.unusedVariables false

theorem with_add (aX : Option Addr) (nX cX : Nat) (a b : List (Nat × Int)) (k pv : Nat) (xC : Bool) (aC : Option Addr) (nC cC : Nat) (pz : Int) (w : World) (fa : Fine a) (fb : Fine b) (hk : k < b.length) (hp : b.getD k (0, 0) = (pv, pz)) (ha : QArr w aX (addP a (b.take k))) (hl : (addP a (b.take k)).length = nX) (hC : RNum w (.agg #[.bool xC, .slice aC nC cC]) pz 900) :
    Calls Tryz.prog 59 #[.slice aX nX cX, .int .i64 (pv : Nat), .agg #[.bool xC, .slice aC nC cC]] w fun e w' => ∃ u, e = .returned (.tuple #[u, .bool (decide ((coef a pv + pz).natAbs < lim))]) ∧ QTS (addP a (b.take (k + 1))) u w' ∧ Below w.heap.size w w' := by
  have hf := fb.at hk hp
  refine (with_r aX nX cX (addP a (b.take k)) pv xC aC nC cC pz w ha hl (acc_rise fa fb k) (acc_nz fa fb k) (by rw [← hl]; have := acc_len fa fb k; omega) (hC.short hf.2.1) hf.2.1 (by rw [acc_coef fa fb hk hp]; exact fine_coef fa pv)).mono ?_
  rintro e w' ⟨u, b9, rfl, h1, rfl, hb⟩
  rw [acc_coef fa fb hk hp]
  rw [acc_step fa fb hk hp] at h1
  exact ⟨u, rfl, h1, hb⟩
/-- What a call that can be refused tells: the term, or nothing and the code. -/
def QRes (ok : Prop) (ps : List (Nat × Int)) (r : Int) (v : Value) (c : Int) (w : World) : Prop := (ok ∧ c = 0 ∧ RTermR w v ps r) ∨ (¬ ok ∧ c = 11 ∧ RTermR w v [] 0)

set_option maxRecDepth 20000 in
set_option maxHeartbeats 16000000 in
theorem radd_any (vA vB : Value) (a b : List (Nat × Int)) (r t : Int) (w : World) (hA : RTermR w vA a r) (hB : RTermR w vB b t) :
    Calls Tryz.prog 15 #[vA, vB] w fun e w' => ∃ v c, e = .returned (.tuple #[v, .int .i64 c]) ∧ QRes (tAddOk a b r t) (addP a b) (r + t) v c w' ∧ Below w.heap.size w w' := by
  obtain ⟨pA, qA, rA, xA, aA, nA, cA, rfl, hA⟩ := hA
  obtain ⟨pB, qB, rB, xB, aB, nB, cB, rfl, hB⟩ := hB
  have hb0 := hB.arr
  have oA := (((Blk.new w 41 #[.slice pA qA rA, .bool xA, .slice aA nA cA]).alloc (.cells #[.slice pB qB rB, .bool xB, .slice aB nB cB] 41 (0, 0))).alloc (.cells #[.slice none 0 0, .bool false, .slice none 0 0] 41 (0, 0)))
  have oB := ((Blk.new (w.alloc (.cells #[.slice pA qA rA, .bool xA, .slice aA nA cA] 41 (0, 0))) 41 #[.slice pB qB rB, .bool xB, .slice aB nB cB]).alloc (.cells #[.slice none 0 0, .bool false, .slice none 0 0] 41 (0, 0)))
  have oR := (Blk.new ((w.alloc (.cells #[.slice pA qA rA, .bool xA, .slice aA nA cA] 41 (0, 0))).alloc (.cells #[.slice pB qB rB, .bool xB, .slice aB nB cB] 41 (0, 0))) 41 #[.slice none 0 0, .bool false, .slice none 0 0])
  simp only [World.size_alloc] at oB oR
  have hbw : Below w.heap.size w (((w.alloc (.cells #[.slice pA qA rA, .bool xA, .slice aA nA cA] 41 (0, 0))).alloc (.cells #[.slice pB qB rB, .bool xB, .slice aB nB cB] 41 (0, 0))).alloc (.cells #[.slice none 0 0, .bool false, .slice none 0 0] 41 (0, 0))) := by go_grown
  replace hA := hA.below hbw
  replace hB := hB.below hbw
  have ltA := oA.lt
  have lwA : w.heap.size ≤ w.heap.size := by omega
  have ltB := oB.lt
  have lwB : w.heap.size ≤ w.heap.size + 1 := by omega
  have ltR := oR.lt
  have lwR : w.heap.size ≤ w.heap.size + 1 + 1 := by omega
  go_enter Tryz.func15, Tryz.ntmps15
  have HB : Hid (QArr w pB b) := hb0
  have HLB : Hid (b.length = qB) := hB.len
  have hlen := hB.n_le
  have HFA : Hid (Fine a) := hA.fine
  have HFB : Hid (Fine b) := hB.fine
  clear hb0
  go_wp2
  generalize (((w.alloc (.cells #[.slice pA qA rA, .bool xA, .slice aA nA cA] 41 (0, 0))).alloc (.cells #[.slice pB qB rB, .bool xB, .slice aB nB cB] 41 (0, 0))).alloc (.cells #[.slice none 0 0, .bool false, .slice none 0 0] 41 (0, 0))) = W0 at hbw oA oB oR ltA ltB ltR hA hB ⊢
  have hbW := hbw
  refine wp_region_M (by kernel_rfl) [6, 11, 12, 13, 14, 15, 16, 17, 18, 19, 20] [none, none, none, none, none, none, some 6, none, none, none, none, some 11, some 12, some 13, some 14, some 15, some 16, some 17, some 18, some 19, some 20] (fun U => by kernel_rfl) (fun L U wr => Below w.heap.size w wr ∧ KeepQ W0 wr ∧ W0.heap.size ≤ wr.heap.size ∧ Blk 41 wr (w.heap.size) #[.slice pA qA rA, .bool xA, .slice aA nA cA] ∧ Blk 41 wr (w.heap.size + 1) #[.slice pB qB rB, .bool xB, .slice aB nB cB] ∧ Blk 41 wr (w.heap.size + 1 + 1) #[.slice none 0 0, .bool false, .slice none 0 0] ∧ (L 0 = true → L 3 = false → ARR 0 70 #[] (U 11) wr) ∧ (L 1 = true → IS (.pointer (some ⟨w.heap.size, 0, none⟩)) (U 12) wr) ∧ (L 2 = true → IS (.slice pA qA rA) (U 13) wr) ∧ (L 3 = true → QTS a (U 14) wr) ∧ (L 4 = true → IS (.pointer (some ⟨w.heap.size, 1, none⟩)) (U 15) wr) ∧ (L 5 = true → IS (.agg #[.bool xA, .slice aA nA cA]) (U 16) wr) ∧ (L 6 = true → IS (.pointer (some ⟨w.heap.size + 1, 1, none⟩)) (U 17) wr) ∧ (L 7 = true → IS (.agg #[.bool xB, .slice aB nB cB]) (U 18) wr) ∧ (L 8 = true → RNM (r + t) 801 (U 19) wr) ∧ (L 9 = true → QRS a (r + t) (U 20) wr) ∧ (L 10 = true → NEWU 41 W0.heap.size wr (U 6) (bif L 11 then U 20 else .agg #[.slice none 0 0, .bool false, .slice none 0 0])) ∧ (L 11 = true → L 9 = true) ∧ (L 3 = true → L 0 = true) ∧ (L 11 = true → L 10 = true)) (by kernel_rfl) ?_ ?_ ?_
  · exact fun U => ⟨hbw.drew, KeepQ.below (Below.refl _ _).drew, Nat.le_refl _, oA.drew, oB.drew, oR.drew, (fun h => by cases h), (fun h => by cases h), (fun h => by cases h), (fun h => by cases h), (fun h => by cases h), (fun h => by cases h), (fun h => by cases h), (fun h => by cases h), (fun h => by cases h), (fun h => by cases h), (fun h => by cases h), (fun h => by cases h), (fun h => by cases h), (fun h => by cases h)⟩
  · refine StepsU.run rfl ?_ ?_
    · intro L U wr hF hlk haf A K hA hK
      have HA : Hid (A = putAll _ _ U) := hA
      clear hA
      simp [Aft, Region.binds] at haf
      obtain ⟨fb, fk, fs, oA, oB, oR, f0, f1, f2, f3, f4, f5, f6, f7, f8, f9, f10, s11, b0, m10⟩ := hF
      refine ⟨?_⟩
      go_simp
      have hb := below_new wr (.cells #[] 70 (0, 0))
      refine hK (upd U 11 (.slice (some ⟨wr.heap.size, 0, none⟩) 0 0)) _ _ ?_ ?_
      · rw [HA.out]; kernel_rfl
      · exact ⟨(fb.step hb (Nat.le_refl _)), (fk.trans (KeepQ.below hb)), (Nat.le_trans fs hb.size), (oA.stay hb), (oB.stay hb), (oR.stay hb), (fun _ _ => ⟨wr.heap.size, rfl, Blk.new wr 70 #[]⟩), (mvQ mq_is (KeepQ.below hb) f1), (mvQ mq_is (KeepQ.below hb) f2), (mvQ mq_qts (KeepQ.below hb) f3), (mvQ mq_is (KeepQ.below hb) f4), (mvQ mq_is (KeepQ.below hb) f5), (mvQ mq_is (KeepQ.below hb) f6), (mvQ mq_is (KeepQ.below hb) f7), (mvQ mq_rnm (KeepQ.below hb) f8), (mvQ mq_qrs (KeepQ.below hb) f9), (fun h => (f10 h).below hb), s11, (fun _ => rfl), m10⟩
    refine StepsU.run rfl ?_ ?_
    · intro L U wr hF hlk haf A K hA hK
      have HA : Hid (A = putAll _ _ U) := hA
      clear hA
      simp [Aft, Region.binds] at haf
      obtain ⟨fb, fk, fs, oA, oB, oR, f0, f1, f2, f3, f4, f5, f6, f7, f8, f9, f10, s11, b0, m10⟩ := hF
      have e2 : A.tmps[2]? = some (.pointer (some ⟨w.heap.size, 0, none⟩)) := by rw [HA.out]; kernel_rfl
      refine ⟨?_⟩
      go_simp
      refine hK (upd U 12 (.pointer (some ⟨w.heap.size, 0, none⟩))) _ _ ?_ ?_
      · rw [HA.out]; kernel_rfl
      · exact ⟨fb, fk, fs, oA, oB, oR, f0, (fun _ => rfl), f2, f3, f4, f5, f6, f7, f8, f9, f10, s11, b0, m10⟩
    refine StepsU.run rfl ?_ ?_
    · intro L U wr hF hlk haf A K hA hK
      have HA : Hid (A = putAll _ _ U) := hA
      clear hA
      simp [Aft, Region.binds] at haf
      obtain ⟨fb, fk, fs, oA, oB, oR, f0, f1, f2, f3, f4, f5, f6, f7, f8, f9, f10, s11, b0, m10⟩ := hF
      have g1 := f1 (by simp [haf])
      have e12 := rd HA.out 12 (by kernel_rfl) g1
      have c0 := oA.cell 0
      simp at c0
      refine ⟨?_⟩
      go_simp
      refine hK (upd U 13 (.slice pA qA rA)) _ _ ?_ ?_
      · rw [HA.out]; kernel_rfl
      · exact ⟨fb, fk, fs, oA, oB, oR, f0, f1, (fun _ => rfl), f3, f4, f5, f6, f7, f8, f9, f10, s11, b0, m10⟩
    refine StepsU.run rfl ?_ ?_
    · intro L U wr hF hlk haf A K hA hK
      have HA : Hid (A = putAll _ _ U) := hA
      clear hA
      simp [Aft, Region.binds] at haf
      obtain ⟨fb, fk, fs, oA, oB, oR, f0, f1, f2, f3, f4, f5, f6, f7, f8, f9, f10, s11, b0, m10⟩ := hF
      have g2 := f2 (by simp [haf])
      obtain ⟨gb, hgb, hBb⟩ := f0 (by simp [haf]) hlk
      have e13 := rd HA.out 13 (by kernel_rfl) g2
      have e11 := rd HA.out 11 (by kernel_rfl) hgb
      refine ⟨?_⟩
      refine wp_append_clone (.tmp 11) (.tmp 13) rfl gb (by simp [Act.eval, e11]) hBb _ _ _ _ (by simp [Act.eval, e13]) (RTP.qts (hA.keepQ fk)) (by have := hA.n_le; omega) ?_
      intro v' w1 hr hb
      refine hK (upd U 14 v') _ _ ?_ ?_
      · rw [HA.out]; kernel_rfl
      · exact ⟨(fb.step hb (Nat.le_refl _)), (fk.trans (KeepQ.below hb)), (Nat.le_trans fs hb.size), (oA.stay hb), (oB.stay hb), (oR.stay hb), (fun _ h => by cases h), (mvQ mq_is (KeepQ.below hb) f1), (mvQ mq_is (KeepQ.below hb) f2), (fun _ => hr), (mvQ mq_is (KeepQ.below hb) f4), (mvQ mq_is (KeepQ.below hb) f5), (mvQ mq_is (KeepQ.below hb) f6), (mvQ mq_is (KeepQ.below hb) f7), (mvQ mq_rnm (KeepQ.below hb) f8), (mvQ mq_qrs (KeepQ.below hb) f9), (fun h => (f10 h).below hb), s11, (fun _ => by simp [haf]), m10⟩
    refine StepsU.run rfl ?_ ?_
    · intro L U wr hF hlk haf A K hA hK
      have HA : Hid (A = putAll _ _ U) := hA
      clear hA
      simp [Aft, Region.binds] at haf
      obtain ⟨fb, fk, fs, oA, oB, oR, f0, f1, f2, f3, f4, f5, f6, f7, f8, f9, f10, s11, b0, m10⟩ := hF
      have e2 : A.tmps[2]? = some (.pointer (some ⟨w.heap.size, 0, none⟩)) := by rw [HA.out]; kernel_rfl
      refine ⟨?_⟩
      go_simp
      refine hK (upd U 15 (.pointer (some ⟨w.heap.size, 1, none⟩))) _ _ ?_ ?_
      · rw [HA.out]; kernel_rfl
      · exact ⟨fb, fk, fs, oA, oB, oR, f0, f1, f2, f3, (fun _ => rfl), f5, f6, f7, f8, f9, f10, s11, b0, m10⟩
    refine StepsU.run rfl ?_ ?_
    · intro L U wr hF hlk haf A K hA hK
      have HA : Hid (A = putAll _ _ U) := hA
      clear hA
      simp [Aft, Region.binds] at haf
      obtain ⟨fb, fk, fs, oA, oB, oR, f0, f1, f2, f3, f4, f5, f6, f7, f8, f9, f10, s11, b0, m10⟩ := hF
      have g4 := f4 (by simp [haf])
      have e15 := rd HA.out 15 (by kernel_rfl) g4
      have c1 := oA.cell 1
      have c2 := oA.cell 2
      simp at c1
      simp at c2
      refine ⟨?_⟩
      go_simp
      refine hK (upd U 16 (.agg #[.bool xA, .slice aA nA cA])) _ _ ?_ ?_
      · rw [HA.out]; kernel_rfl
      · exact ⟨fb, fk, fs, oA, oB, oR, f0, f1, f2, f3, f4, (fun _ => rfl), f6, f7, f8, f9, f10, s11, b0, m10⟩
    refine StepsU.run rfl ?_ ?_
    · intro L U wr hF hlk haf A K hA hK
      have HA : Hid (A = putAll _ _ U) := hA
      clear hA
      simp [Aft, Region.binds] at haf
      obtain ⟨fb, fk, fs, oA, oB, oR, f0, f1, f2, f3, f4, f5, f6, f7, f8, f9, f10, s11, b0, m10⟩ := hF
      have e3 : A.tmps[3]? = some (.pointer (some ⟨w.heap.size + 1, 0, none⟩)) := by rw [HA.out]; kernel_rfl
      refine ⟨?_⟩
      go_simp
      refine hK (upd U 17 (.pointer (some ⟨w.heap.size + 1, 1, none⟩))) _ _ ?_ ?_
      · rw [HA.out]; kernel_rfl
      · exact ⟨fb, fk, fs, oA, oB, oR, f0, f1, f2, f3, f4, f5, (fun _ => rfl), f7, f8, f9, f10, s11, b0, m10⟩
    refine StepsU.run rfl ?_ ?_
    · intro L U wr hF hlk haf A K hA hK
      have HA : Hid (A = putAll _ _ U) := hA
      clear hA
      simp [Aft, Region.binds] at haf
      obtain ⟨fb, fk, fs, oA, oB, oR, f0, f1, f2, f3, f4, f5, f6, f7, f8, f9, f10, s11, b0, m10⟩ := hF
      have g6 := f6 (by simp [haf])
      have e17 := rd HA.out 17 (by kernel_rfl) g6
      have c1 := oB.cell 1
      have c2 := oB.cell 2
      simp at c1
      simp at c2
      refine ⟨?_⟩
      go_simp
      refine hK (upd U 18 (.agg #[.bool xB, .slice aB nB cB])) _ _ ?_ ?_
      · rw [HA.out]; kernel_rfl
      · exact ⟨fb, fk, fs, oA, oB, oR, f0, f1, f2, f3, f4, f5, f6, (fun _ => rfl), f8, f9, f10, s11, b0, m10⟩
    refine StepsU.run rfl ?_ ?_
    · intro L U wr hF hlk haf A K hA hK
      have HA : Hid (A = putAll _ _ U) := hA
      clear hA
      simp [Aft, Region.binds] at haf
      obtain ⟨fb, fk, fs, oA, oB, oR, f0, f1, f2, f3, f4, f5, f6, f7, f8, f9, f10, s11, b0, m10⟩ := hF
      have g5 := f5 (by simp [haf])
      have e16 := rd HA.out 16 (by kernel_rfl) g5
      have g7 := f7 (by simp [haf])
      have e18 := rd HA.out 18 (by kernel_rfl) g7
      refine ⟨?_⟩
      go_simp
      refine (rAdd_any _ _ r t (r + t) 400 400 _ (hA.rest.keepQ fk) (hB.rest.keepQ fk) (by decide) rfl).mono ?_
      rintro e w1 ⟨u1, u2, u3, u4, rfl, hr, hb⟩
      go_simp
      refine hK (upd U 19 (.agg #[.bool u1, .slice u2 u3 u4])) _ _ ?_ ?_
      · rw [HA.out]; kernel_rfl
      · exact ⟨(fb.step hb (Nat.le_refl _)), (fk.trans (KeepQ.below hb)), (Nat.le_trans fs hb.size), (oA.stay hb), (oB.stay hb), (oR.stay hb), (fun h h2 => (f0 h h2).below hb), (mvQ mq_is (KeepQ.below hb) f1), (mvQ mq_is (KeepQ.below hb) f2), (mvQ mq_qts (KeepQ.below hb) f3), (mvQ mq_is (KeepQ.below hb) f4), (mvQ mq_is (KeepQ.below hb) f5), (mvQ mq_is (KeepQ.below hb) f6), (mvQ mq_is (KeepQ.below hb) f7), (fun _ => hr), (mvQ mq_qrs (KeepQ.below hb) f9), (fun h => (f10 h).below hb), s11, b0, m10⟩
    refine StepsU.run rfl ?_ ?_
    · intro L U wr hF hlk haf A K hA hK
      have HA : Hid (A = putAll _ _ U) := hA
      clear hA
      simp [Aft, Region.binds] at haf
      obtain ⟨fb, fk, fs, oA, oB, oR, f0, f1, f2, f3, f4, f5, f6, f7, f8, f9, f10, s11, b0, m10⟩ := hF
      have g3 := f3 (by simp [haf])
      have g8 := f8 (by simp [haf])
      obtain ⟨y1, y2, y3, hv, hq1, hq2, hq3, hq4, hq5⟩ := g3
      obtain ⟨y4, y5, y6, y7, hv2⟩ := RNum.shape g8
      have hT2 : RNum _ _ _ _ := g8
      rw [hv2] at hT2
      have e14 := rd HA.out 14 (by kernel_rfl) hv
      have e19 := rd HA.out 19 (by kernel_rfl) hv2
      refine ⟨?_⟩
      go_simp
      have hs11 : L 11 = false := by cases h : L 11 with | false => rfl | true => rw [s11 h] at hlk; cases hlk
      refine hK (upd U 20 (.agg #[.slice y1 y2 y3, .bool y4, .slice y5 y6 y7])) _ _ ?_ ?_
      · rw [HA.out]; kernel_rfl
      · exact ⟨fb, fk, fs, oA, oB, oR, f0, f1, f2, f3, f4, f5, f6, f7, f8, (fun _ => ⟨_, _, _, _, _, _, _, rfl, ⟨y1, y2, y3, rfl, hq1, hq2, hq3, hq4, hq5⟩, RNum.up hT2 (by decide)⟩), (fun h => flip_v (P := fun v => NEWU _ _ _ _ v) hs11 (f10 h)), (fun _ => rfl), b0, m10⟩
    refine StepsU.run rfl ?_ ?_
    · intro L U wr hF hlk haf A K hA hK
      have HA : Hid (A = putAll _ _ U) := hA
      clear hA
      simp [Aft, Region.binds] at haf
      obtain ⟨fb, fk, fs, oA, oB, oR, f0, f1, f2, f3, f4, f5, f6, f7, f8, f9, f10, s11, b0, m10⟩ := hF
      have hst : L 11 = false := by cases h : L 11 with | false => rfl | true => rw [m10 h] at hlk; cases hlk
      refine ⟨?_⟩
      go_simp
      have hb := below_new wr (.cells #[.slice none 0 0, .bool false, .slice none 0 0] 41 (0, 0))
      refine hK (upd U 6 (.pointer (some ⟨wr.heap.size, 0, none⟩))) _ _ ?_ ?_
      · rw [HA.out]; kernel_rfl
      · exact ⟨(fb.step hb (Nat.le_refl _)), (fk.trans (KeepQ.below hb)), (Nat.le_trans fs hb.size), (oA.stay hb), (oB.stay hb), (oR.stay hb), (fun h h2 => (f0 h h2).below hb), (mvQ mq_is (KeepQ.below hb) f1), (mvQ mq_is (KeepQ.below hb) f2), (mvQ mq_qts (KeepQ.below hb) f3), (mvQ mq_is (KeepQ.below hb) f4), (mvQ mq_is (KeepQ.below hb) f5), (mvQ mq_is (KeepQ.below hb) f6), (mvQ mq_is (KeepQ.below hb) f7), (mvQ mq_rnm (KeepQ.below hb) f8), (mvQ mq_qrs (KeepQ.below hb) f9), (fun _ => newU_zero (by simp [hst]) (NEWU.mk fs (nuT _ _ _ _ _ _ _))), s11, b0, (fun _ => rfl)⟩
    refine StepsU.run rfl ?_ StepsU.nil
    · intro L U wr hF hlk haf A K hA hK
      have HA : Hid (A = putAll _ _ U) := hA
      clear hA
      simp [Aft, Region.binds] at haf
      obtain ⟨fb, fk, fs, oA, oB, oR, f0, f1, f2, f3, f4, f5, f6, f7, f8, f9, f10, s11, b0, m10⟩ := hF
      have g9 := f9 (by simp [haf])
      obtain ⟨yp, yq, yr, yx, ya, yn, yc, hsrc⟩ := QRSR.shape g9
      have e20 := rd HA.out 20 (by kernel_rfl) hsrc
      have g10 := f10 (by simp [haf])
      rw [hlk, cond_false] at g10
      obtain ⟨b, cs, hp, hBb, hcs, hblk, hN⟩ := g10
      injection hcs with hcs
      subst hcs
      have e6 := rd HA.out 6 (by kernel_rfl) hp
      have q0 := hblk.frozen 0
      have q1 := hblk.frozen 1
      have q2 := hblk.frozen 2
      have c0 := hblk.cell 0
      have c1 := hblk.cell 1
      have c2 := hblk.cell 2
      simp at c0
      simp at c1
      simp at c2
      have hlt := hblk.lt
      refine ⟨?_⟩
      go_simp
      refine hK U _ _ ?_ ?_
      · exact HA.out
      · exact ⟨(below_stores (Nat.le_trans (by exact hbW.size) hBb) [.slice yp yq yr, .bool yx, .slice ya yn yc] 0 fb), (fk.trans (keepQ_stores (by decide) (by decide) [.slice yp yq yr, .bool yx, .slice ya yn yc] 0 hblk (nuT _ _ _ _ _ _ _) (nuT _ _ _ _ _ _ _))), (by simp; exact fs), (oA.otherS (Nat.ne_of_gt (Nat.lt_of_lt_of_le ltA hBb)) 0 [.slice yp yq yr, .bool yx, .slice ya yn yc]), (oB.otherS (Nat.ne_of_gt (Nat.lt_of_lt_of_le ltB hBb)) 0 [.slice yp yq yr, .bool yx, .slice ya yn yc]), (oR.otherS (Nat.ne_of_gt (Nat.lt_of_lt_of_le ltR hBb)) 0 [.slice yp yq yr, .bool yx, .slice ya yn yc]), (fun _ h => by simp [haf] at h), (mvQ mq_is (keepQ_stores (by decide) (by decide) [.slice yp yq yr, .bool yx, .slice ya yn yc] 0 hblk (nuT _ _ _ _ _ _ _) (nuT _ _ _ _ _ _ _)) f1), (mvQ mq_is (keepQ_stores (by decide) (by decide) [.slice yp yq yr, .bool yx, .slice ya yn yc] 0 hblk (nuT _ _ _ _ _ _ _) (nuT _ _ _ _ _ _ _)) f2), (mvQ mq_qts (keepQ_stores (by decide) (by decide) [.slice yp yq yr, .bool yx, .slice ya yn yc] 0 hblk (nuT _ _ _ _ _ _ _) (nuT _ _ _ _ _ _ _)) f3), (mvQ mq_is (keepQ_stores (by decide) (by decide) [.slice yp yq yr, .bool yx, .slice ya yn yc] 0 hblk (nuT _ _ _ _ _ _ _) (nuT _ _ _ _ _ _ _)) f4), (mvQ mq_is (keepQ_stores (by decide) (by decide) [.slice yp yq yr, .bool yx, .slice ya yn yc] 0 hblk (nuT _ _ _ _ _ _ _) (nuT _ _ _ _ _ _ _)) f5), (mvQ mq_is (keepQ_stores (by decide) (by decide) [.slice yp yq yr, .bool yx, .slice ya yn yc] 0 hblk (nuT _ _ _ _ _ _ _) (nuT _ _ _ _ _ _ _)) f6), (mvQ mq_is (keepQ_stores (by decide) (by decide) [.slice yp yq yr, .bool yx, .slice ya yn yc] 0 hblk (nuT _ _ _ _ _ _ _) (nuT _ _ _ _ _ _ _)) f7), (mvQ mq_rnm (keepQ_stores (by decide) (by decide) [.slice yp yq yr, .bool yx, .slice ya yn yc] 0 hblk (nuT _ _ _ _ _ _ _) (nuT _ _ _ _ _ _ _)) f8), (mvQ mq_qrs (keepQ_stores (by decide) (by decide) [.slice yp yq yr, .bool yx, .slice ya yn yc] 0 hblk (nuT _ _ _ _ _ _ _) (nuT _ _ _ _ _ _ _)) f9), (fun _ => by simp only [cond_true, Bool.true_or, beq_self_eq_true]; exact storedU_new hp hsrc (NEWU.overS hBb hblk [.slice yp yq yr, .bool yx, .slice ya yn yc] rfl (nuT _ _ _ _ _ _ _))), (fun _ => by simp [haf]), b0, (fun _ => by simp [haf])⟩
  clear hbw oA oB oR
  intro L U1 V1 hall hF
  obtain ⟨hbw, fk, fs, oA, oB, oR, f0, f1, f2, f3, f4, f5, f6, f7, f8, f9, f10, s11, b0, m10⟩ := hF
  clear s11 b0 m10
  have g1 := f1 (hall 1 (by decide))
  have g2 := f2 (hall 2 (by decide))
  have g3 := f3 (hall 3 (by decide))
  have g4 := f4 (hall 4 (by decide))
  have g5 := f5 (hall 5 (by decide))
  have g6 := f6 (hall 6 (by decide))
  have g7 := f7 (hall 7 (by decide))
  have g8 := f8 (hall 8 (by decide))
  have g9 := f9 (hall 9 (by decide))
  have g10 := f10 (hall 10 (by decide))
  rw [hall 11 (by decide), cond_true] at g10
  clear hall f0 f1 f2 f3 f4 f5 f6 f7 f8 f9 f10
  replace hA := hA.keepQ fk
  replace hB := hB.keepQ fk
  obtain ⟨bO, csO, hpO, lbO, hcsO, oO, -⟩ := g10
  obtain ⟨pO, qO, rO, xO, aO, nO, cO, hvO⟩ := QRSR.shape g9
  have hO : QRSR _ _ _ _ := g9
  rw [hvO] at hO hcsO
  injection hcsO with hcsO
  subst hcsO
  clear hvO
  have ltO := oO.lt
  have neAO : w.heap.size ≠ bO := Nat.ne_of_lt (Nat.lt_of_lt_of_le ltA lbO)
  have neBO : w.heap.size + 1 ≠ bO := Nat.ne_of_lt (Nat.lt_of_lt_of_le ltB lbO)
  have neRO : w.heap.size + 1 + 1 ≠ bO := Nat.ne_of_lt (Nat.lt_of_lt_of_le ltR lbO)
  have lwO : w.heap.size ≤ bO := Nat.le_trans hbW.size lbO
  replace ltA := oA.lt
  replace ltB := oB.lt
  replace ltR := oR.lt
  clear lbO
  try clear g1
  try clear g2
  try clear g3
  try clear g4
  try clear g5
  try clear g6
  try clear g7
  try clear g8
  try clear g9
  clear hbW
  simp only [setM_some, setM_none, setM_nil]
  rw [hpO]
  clear hpO
  clear fk fs
  obtain ⟨hQ, hN⟩ := hO.parts
  clear hO
  obtain ⟨Oc0, Oc1, Oc2⟩ := oO.three
  obtain ⟨Ok0, Ok1, Ok2⟩ := oO.frozen3
  go_wp2_with fail
  refine (toobig_r _ (r + t) 900 (!decide ((r + t).natAbs < lim)) _ hN (by decide) (by rw [← decide_not, decide_eq_decide]; omega)).mono ?_
  rintro e w2 ⟨rfl, hb⟩
  clear Oc0 Oc1 Oc2 Ok0 Ok1 Ok2
  replace oA := oA.stay hb
  replace ltA := oA.lt
  replace oB := oB.stay hb
  replace ltB := oB.lt
  replace oR := oR.stay hb
  replace ltR := oR.lt
  replace oO := oO.stay hb
  replace ltO := oO.lt
  replace hA := hA.below hb
  replace hB := hB.below hb
  replace hQ := hQ.below hb
  replace hN := hN.below hb
  replace hbw := hbw.step hb (Nat.le_refl _)
  clear hb
  have hnn : (!(!decide ((r + t).natAbs < lim))) = decide ((r + t).natAbs < lim) := by simp
  clear hA hB
  obtain ⟨Bc0, Bc1, Bc2⟩ := oB.three
  obtain ⟨Bk0, Bk1, Bk2⟩ := oB.frozen3
  go_wp2
  go_loopw [7, 8] (fun u7 i wl => ∃ (k : Nat) (ok : Bool) (u0 : Value), k ≤ qB ∧ u7 = .bool ok ∧ i = .int .i64 k ∧ Blk 41 wl (w.heap.size + 1) #[.slice pB qB rB, .bool xB, .slice aB nB cB] ∧ Blk 41 wl (w.heap.size + 1 + 1) #[.slice none 0 0, .bool false, .slice none 0 0] ∧ Blk 41 wl bO #[u0, .bool xO, .slice aO nO cO] ∧ QTS (addP a (b.take k)) u0 wl ∧ RNum wl (.agg #[.bool xO, .slice aO nO cO]) (r + t) 900 ∧ Hid (ok = true ↔ fitK a b r t k) ∧ Below w.heap.size w wl) (fun _ i _ => qB - (intOf i).toNat)
  case atStart => exact ⟨0, _, _, Nat.zero_le _, rfl, rfl, oB, oR, oO, by rw [List.take_zero, addP_nil_right]; exact hQ, hN, (by show _ ↔ _; simp [fitK]), hbw⟩
  case round =>
    rename World => wl
    clear oA oB oR oO hbw hQ hN ltA ltB ltR ltO Bc0 Bc1 Bc2 Bk0 Bk1 Bk2 hnn
    obtain ⟨k, ok, u0, hk, h7, h8, oB, oR, oO, hQ, hN, HI, hbw⟩ := hrel
    subst h7
    subst h8
    have ltB := oB.lt
    have ltR := oR.lt
    have ltO := oO.lt
    obtain ⟨pU, qU, rU, rfl, hq1, hq2, hq3, hq4, hq5⟩ := hQ
    have hQ : QTS (addP a (b.take k)) (.slice pU qU rU) wl := ⟨_, _, _, rfl, hq1, hq2, hq3, hq4, hq5⟩
    have HQL : Hid ((addP a (b.take k)).length = qU) := hq1
    clear hq1 hq2 hq3 hq4
    by_cases h0 : k < qB
    · obtain ⟨gE, oE, sE, aE, mE, cE, had, k1, k2, k3, k4⟩ := HB.out.at k (by rw [HLB.out]; exact h0)
      subst had
      obtain ⟨pv, hpv⟩ : ∃ x9, x9 = (b.getD k (0, 0)).1 := ⟨_, rfl⟩
      obtain ⟨pz, hpz⟩ : ∃ x9, x9 = (b.getD k (0, 0)).2 := ⟨_, rfl⟩
      rw [← hpv] at k1
      rw [← hpz] at k4
      have HPV : Hid (b.getD k (0, 0) = (pv, pz)) := by show _ = _; rw [hpv, hpz]
      clear hpv hpz
      have HPF : Hid (pz ≠ 0 ∧ pz.natAbs < lim ∧ pv < 4096) := HFB.out.at (by rw [HLB.out]; exact h0) HPV.out
      obtain ⟨Bc0, Bc1, Bc2⟩ := oB.three
      obtain ⟨Bk0, Bk1, Bk2⟩ := oB.frozen3
      go_wp2
      clear Bc0 Bc1 Bc2 Bk0 Bk1 Bk2
      have hbW := hbw
      refine wp_region_M (by kernel_rfl) [9, 10, 32, 33, 34, 35, 36, 37, 38, 39, 40, 41, 42, 43, 44, 45, 46, 47, 48, 49] [none, none, none, none, none, none, none, none, none, some 9, some 10, none, none, none, none, none, none, none, none, none, none, none, none, none, none, none, none, none, none, none, none, none, some 32, some 33, some 34, some 35, some 36, some 37, some 38, some 39, some 40, some 41, some 42, some 43, some 44, some 45, some 46, some 47, some 48, some 49] (fun U => by kernel_rfl) (fun L U wr => Below w.heap.size w wr ∧ KeepB wl wr ∧ wl.heap.size ≤ wr.heap.size ∧ Blk 41 wr (w.heap.size + 1) #[.slice (some ⟨gE, oE, none⟩) qB rB, .bool xB, .slice aB nB cB] ∧ Blk 41 wr (w.heap.size + 1 + 1) #[.slice none 0 0, .bool false, .slice none 0 0] ∧ Blk 41 wr (bO) #[.slice pU qU rU, .bool xO, .slice aO nO cO] ∧ (L 0 = true → IS (.pointer (some ⟨bO, 0, none⟩)) (U 33) wr) ∧ (L 1 = true → IS (.slice pU qU rU) (U 34) wr) ∧ (L 2 = true → IS (.pointer (some ⟨w.heap.size + 1, 0, none⟩)) (U 35) wr) ∧ (L 3 = true → IS (.slice (some ⟨gE, oE, none⟩) qB rB) (U 36) wr) ∧ (L 4 = true → IS (.int .i64 k) (U 37) wr) ∧ (L 5 = true → IS (.pointer (some ⟨gE, oE + k * 3, none⟩)) (U 38) wr) ∧ (L 6 = true → IS (.pointer (some ⟨gE, oE + k * 3, none⟩)) (U 39) wr) ∧ (L 7 = true → IS (.int .i64 (pv : Nat)) (U 40) wr) ∧ (L 8 = true → IS (.pointer (some ⟨w.heap.size + 1, 0, none⟩)) (U 41) wr) ∧ (L 9 = true → IS (.slice (some ⟨gE, oE, none⟩) qB rB) (U 42) wr) ∧ (L 10 = true → IS (.int .i64 k) (U 43) wr) ∧ (L 11 = true → IS (.pointer (some ⟨gE, oE + k * 3, none⟩)) (U 44) wr) ∧ (L 12 = true → IS (.pointer (some ⟨gE, oE + k * 3 + 1, none⟩)) (U 45) wr) ∧ (L 13 = true → IS (.agg #[.bool sE, .slice aE mE cE]) (U 46) wr) ∧ (L 14 = true → T2 (QTS (addP a (b.take (k + 1)))) (IS (.bool (decide ((coef a pv + pz).natAbs < lim)))) (U 47) wr) ∧ (L 15 = true → T2 (QTS (addP a (b.take (k + 1)))) (IS (.bool (decide ((coef a pv + pz).natAbs < lim)))) (U 32) wr) ∧ (L 16 = true → QTS (addP a (b.take (k + 1))) (U 48) wr) ∧ (L 17 = true → IS (.bool (decide ((coef a pv + pz).natAbs < lim))) (U 49) wr) ∧ (L 18 = true → QTS (addP a (b.take (k + 1))) (U 9) wr) ∧ (L 19 = true → IS (.bool (decide ((coef a pv + pz).natAbs < lim))) (U 10) wr)) (by kernel_rfl) ?_ ?_ ?_
      · exact fun U => ⟨hbw.drew, KeepB.below (Below.refl _ _).drew, Nat.le_refl _, oB.drew, oR.drew, oO.drew, (fun h => by cases h), (fun h => by cases h), (fun h => by cases h), (fun h => by cases h), (fun h => by cases h), (fun h => by cases h), (fun h => by cases h), (fun h => by cases h), (fun h => by cases h), (fun h => by cases h), (fun h => by cases h), (fun h => by cases h), (fun h => by cases h), (fun h => by cases h), (fun h => by cases h), (fun h => by cases h), (fun h => by cases h), (fun h => by cases h), (fun h => by cases h), (fun h => by cases h)⟩
      · refine StepsU.run rfl ?_ ?_
        · intro L U wr hF hlk haf A K hA hK
          have HA : Hid (A = putAll _ _ U) := hA
          clear hA
          simp [Aft, Region.binds] at haf
          obtain ⟨fb, fk, fs, oB, oR, oO, f0, f1, f2, f3, f4, f5, f6, f7, f8, f9, f10, f11, f12, f13, f14, f15, f16, f17, f18, f19⟩ := hF
          have e6 : A.tmps[6]? = some (.pointer (some ⟨bO, 0, none⟩)) := by rw [HA.out]; kernel_rfl
          refine ⟨?_⟩
          go_simp
          refine hK (upd U 33 (.pointer (some ⟨bO, 0, none⟩))) _ _ ?_ ?_
          · rw [HA.out]; kernel_rfl
          · exact ⟨fb, fk, fs, oB, oR, oO, (fun _ => rfl), f1, f2, f3, f4, f5, f6, f7, f8, f9, f10, f11, f12, f13, f14, f15, f16, f17, f18, f19⟩
        refine StepsU.run rfl ?_ ?_
        · intro L U wr hF hlk haf A K hA hK
          have HA : Hid (A = putAll _ _ U) := hA
          clear hA
          simp [Aft, Region.binds] at haf
          obtain ⟨fb, fk, fs, oB, oR, oO, f0, f1, f2, f3, f4, f5, f6, f7, f8, f9, f10, f11, f12, f13, f14, f15, f16, f17, f18, f19⟩ := hF
          have g0 := f0 (by simp [haf])
          have e33 := rd HA.out 33 (by kernel_rfl) g0
          have c0 := oO.cell 0
          simp at c0
          refine ⟨?_⟩
          go_simp
          refine hK (upd U 34 (.slice pU qU rU)) _ _ ?_ ?_
          · rw [HA.out]; kernel_rfl
          · exact ⟨fb, fk, fs, oB, oR, oO, f0, (fun _ => rfl), f2, f3, f4, f5, f6, f7, f8, f9, f10, f11, f12, f13, f14, f15, f16, f17, f18, f19⟩
        refine StepsU.run rfl ?_ ?_
        · intro L U wr hF hlk haf A K hA hK
          have HA : Hid (A = putAll _ _ U) := hA
          clear hA
          simp [Aft, Region.binds] at haf
          obtain ⟨fb, fk, fs, oB, oR, oO, f0, f1, f2, f3, f4, f5, f6, f7, f8, f9, f10, f11, f12, f13, f14, f15, f16, f17, f18, f19⟩ := hF
          have e3 : A.tmps[3]? = some (.pointer (some ⟨w.heap.size + 1, 0, none⟩)) := by rw [HA.out]; kernel_rfl
          refine ⟨?_⟩
          go_simp
          refine hK (upd U 35 (.pointer (some ⟨w.heap.size + 1, 0, none⟩))) _ _ ?_ ?_
          · rw [HA.out]; kernel_rfl
          · exact ⟨fb, fk, fs, oB, oR, oO, f0, f1, (fun _ => rfl), f3, f4, f5, f6, f7, f8, f9, f10, f11, f12, f13, f14, f15, f16, f17, f18, f19⟩
        refine StepsU.run rfl ?_ ?_
        · intro L U wr hF hlk haf A K hA hK
          have HA : Hid (A = putAll _ _ U) := hA
          clear hA
          simp [Aft, Region.binds] at haf
          obtain ⟨fb, fk, fs, oB, oR, oO, f0, f1, f2, f3, f4, f5, f6, f7, f8, f9, f10, f11, f12, f13, f14, f15, f16, f17, f18, f19⟩ := hF
          have g2 := f2 (by simp [haf])
          have e35 := rd HA.out 35 (by kernel_rfl) g2
          have c0 := oB.cell 0
          simp at c0
          refine ⟨?_⟩
          go_simp
          refine hK (upd U 36 (.slice (some ⟨gE, oE, none⟩) qB rB)) _ _ ?_ ?_
          · rw [HA.out]; kernel_rfl
          · exact ⟨fb, fk, fs, oB, oR, oO, f0, f1, f2, (fun _ => rfl), f4, f5, f6, f7, f8, f9, f10, f11, f12, f13, f14, f15, f16, f17, f18, f19⟩
        refine StepsU.run rfl ?_ ?_
        · intro L U wr hF hlk haf A K hA hK
          have HA : Hid (A = putAll _ _ U) := hA
          clear hA
          simp [Aft, Region.binds] at haf
          obtain ⟨fb, fk, fs, oB, oR, oO, f0, f1, f2, f3, f4, f5, f6, f7, f8, f9, f10, f11, f12, f13, f14, f15, f16, f17, f18, f19⟩ := hF
          have e8 : A.tmps[8]? = some (.int .i64 k) := by rw [HA.out]; kernel_rfl
          refine ⟨?_⟩
          go_simp
          refine hK (upd U 37 (.int .i64 k)) _ _ ?_ ?_
          · rw [HA.out]; kernel_rfl
          · exact ⟨fb, fk, fs, oB, oR, oO, f0, f1, f2, f3, (fun _ => rfl), f5, f6, f7, f8, f9, f10, f11, f12, f13, f14, f15, f16, f17, f18, f19⟩
        refine StepsU.run rfl ?_ ?_
        · intro L U wr hF hlk haf A K hA hK
          have HA : Hid (A = putAll _ _ U) := hA
          clear hA
          simp [Aft, Region.binds] at haf
          obtain ⟨fb, fk, fs, oB, oR, oO, f0, f1, f2, f3, f4, f5, f6, f7, f8, f9, f10, f11, f12, f13, f14, f15, f16, f17, f18, f19⟩ := hF
          have g3 := f3 (by simp [haf])
          have g4 := f4 (by simp [haf])
          have e36 := rd HA.out 36 (by kernel_rfl) g3
          have e37 := rd HA.out 37 (by kernel_rfl) g4
          refine ⟨?_⟩
          go_simp
          refine hK (upd U 38 (.pointer (some ⟨gE, oE + k * 3, none⟩))) _ _ ?_ ?_
          · rw [HA.out]; kernel_rfl
          · exact ⟨fb, fk, fs, oB, oR, oO, f0, f1, f2, f3, f4, (fun _ => rfl), f6, f7, f8, f9, f10, f11, f12, f13, f14, f15, f16, f17, f18, f19⟩
        refine StepsU.run rfl ?_ ?_
        · intro L U wr hF hlk haf A K hA hK
          have HA : Hid (A = putAll _ _ U) := hA
          clear hA
          simp [Aft, Region.binds] at haf
          obtain ⟨fb, fk, fs, oB, oR, oO, f0, f1, f2, f3, f4, f5, f6, f7, f8, f9, f10, f11, f12, f13, f14, f15, f16, f17, f18, f19⟩ := hF
          have g5 := f5 (by simp [haf])
          have e38 := rd HA.out 38 (by kernel_rfl) g5
          refine ⟨?_⟩
          go_simp
          refine hK (upd U 39 (.pointer (some ⟨gE, oE + k * 3, none⟩))) _ _ ?_ ?_
          · rw [HA.out]; kernel_rfl
          · exact ⟨fb, fk, fs, oB, oR, oO, f0, f1, f2, f3, f4, f5, (fun _ => rfl), f7, f8, f9, f10, f11, f12, f13, f14, f15, f16, f17, f18, f19⟩
        refine StepsU.run rfl ?_ ?_
        · intro L U wr hF hlk haf A K hA hK
          have HA : Hid (A = putAll _ _ U) := hA
          clear hA
          simp [Aft, Region.binds] at haf
          obtain ⟨fb, fk, fs, oB, oR, oO, f0, f1, f2, f3, f4, f5, f6, f7, f8, f9, f10, f11, f12, f13, f14, f15, f16, f17, f18, f19⟩ := hF
          have g6 := f6 (by simp [haf])
          have kA0 := (fb.cell (p := ⟨gE, oE + k * 3, none⟩) (World.block_lt_of_cell? w _ k1)).trans k1
          have e39 := rd HA.out 39 (by kernel_rfl) g6
          refine ⟨?_⟩
          go_simp
          refine hK (upd U 40 (.int .i64 (pv : Nat))) _ _ ?_ ?_
          · rw [HA.out]; kernel_rfl
          · exact ⟨fb, fk, fs, oB, oR, oO, f0, f1, f2, f3, f4, f5, f6, (fun _ => rfl), f8, f9, f10, f11, f12, f13, f14, f15, f16, f17, f18, f19⟩
        refine StepsU.run rfl ?_ ?_
        · intro L U wr hF hlk haf A K hA hK
          have HA : Hid (A = putAll _ _ U) := hA
          clear hA
          simp [Aft, Region.binds] at haf
          obtain ⟨fb, fk, fs, oB, oR, oO, f0, f1, f2, f3, f4, f5, f6, f7, f8, f9, f10, f11, f12, f13, f14, f15, f16, f17, f18, f19⟩ := hF
          have e3 : A.tmps[3]? = some (.pointer (some ⟨w.heap.size + 1, 0, none⟩)) := by rw [HA.out]; kernel_rfl
          refine ⟨?_⟩
          go_simp
          refine hK (upd U 41 (.pointer (some ⟨w.heap.size + 1, 0, none⟩))) _ _ ?_ ?_
          · rw [HA.out]; kernel_rfl
          · exact ⟨fb, fk, fs, oB, oR, oO, f0, f1, f2, f3, f4, f5, f6, f7, (fun _ => rfl), f9, f10, f11, f12, f13, f14, f15, f16, f17, f18, f19⟩
        refine StepsU.run rfl ?_ ?_
        · intro L U wr hF hlk haf A K hA hK
          have HA : Hid (A = putAll _ _ U) := hA
          clear hA
          simp [Aft, Region.binds] at haf
          obtain ⟨fb, fk, fs, oB, oR, oO, f0, f1, f2, f3, f4, f5, f6, f7, f8, f9, f10, f11, f12, f13, f14, f15, f16, f17, f18, f19⟩ := hF
          have g8 := f8 (by simp [haf])
          have e41 := rd HA.out 41 (by kernel_rfl) g8
          have c0 := oB.cell 0
          simp at c0
          refine ⟨?_⟩
          go_simp
          refine hK (upd U 42 (.slice (some ⟨gE, oE, none⟩) qB rB)) _ _ ?_ ?_
          · rw [HA.out]; kernel_rfl
          · exact ⟨fb, fk, fs, oB, oR, oO, f0, f1, f2, f3, f4, f5, f6, f7, f8, (fun _ => rfl), f10, f11, f12, f13, f14, f15, f16, f17, f18, f19⟩
        refine StepsU.run rfl ?_ ?_
        · intro L U wr hF hlk haf A K hA hK
          have HA : Hid (A = putAll _ _ U) := hA
          clear hA
          simp [Aft, Region.binds] at haf
          obtain ⟨fb, fk, fs, oB, oR, oO, f0, f1, f2, f3, f4, f5, f6, f7, f8, f9, f10, f11, f12, f13, f14, f15, f16, f17, f18, f19⟩ := hF
          have e8 : A.tmps[8]? = some (.int .i64 k) := by rw [HA.out]; kernel_rfl
          refine ⟨?_⟩
          go_simp
          refine hK (upd U 43 (.int .i64 k)) _ _ ?_ ?_
          · rw [HA.out]; kernel_rfl
          · exact ⟨fb, fk, fs, oB, oR, oO, f0, f1, f2, f3, f4, f5, f6, f7, f8, f9, (fun _ => rfl), f11, f12, f13, f14, f15, f16, f17, f18, f19⟩
        refine StepsU.run rfl ?_ ?_
        · intro L U wr hF hlk haf A K hA hK
          have HA : Hid (A = putAll _ _ U) := hA
          clear hA
          simp [Aft, Region.binds] at haf
          obtain ⟨fb, fk, fs, oB, oR, oO, f0, f1, f2, f3, f4, f5, f6, f7, f8, f9, f10, f11, f12, f13, f14, f15, f16, f17, f18, f19⟩ := hF
          have g9 := f9 (by simp [haf])
          have g10 := f10 (by simp [haf])
          have e42 := rd HA.out 42 (by kernel_rfl) g9
          have e43 := rd HA.out 43 (by kernel_rfl) g10
          refine ⟨?_⟩
          go_simp
          refine hK (upd U 44 (.pointer (some ⟨gE, oE + k * 3, none⟩))) _ _ ?_ ?_
          · rw [HA.out]; kernel_rfl
          · exact ⟨fb, fk, fs, oB, oR, oO, f0, f1, f2, f3, f4, f5, f6, f7, f8, f9, f10, (fun _ => rfl), f12, f13, f14, f15, f16, f17, f18, f19⟩
        refine StepsU.run rfl ?_ ?_
        · intro L U wr hF hlk haf A K hA hK
          have HA : Hid (A = putAll _ _ U) := hA
          clear hA
          simp [Aft, Region.binds] at haf
          obtain ⟨fb, fk, fs, oB, oR, oO, f0, f1, f2, f3, f4, f5, f6, f7, f8, f9, f10, f11, f12, f13, f14, f15, f16, f17, f18, f19⟩ := hF
          have g11 := f11 (by simp [haf])
          have e44 := rd HA.out 44 (by kernel_rfl) g11
          refine ⟨?_⟩
          go_simp
          refine hK (upd U 45 (.pointer (some ⟨gE, oE + k * 3 + 1, none⟩))) _ _ ?_ ?_
          · rw [HA.out]; kernel_rfl
          · exact ⟨fb, fk, fs, oB, oR, oO, f0, f1, f2, f3, f4, f5, f6, f7, f8, f9, f10, f11, (fun _ => rfl), f13, f14, f15, f16, f17, f18, f19⟩
        refine StepsU.run rfl ?_ ?_
        · intro L U wr hF hlk haf A K hA hK
          have HA : Hid (A = putAll _ _ U) := hA
          clear hA
          simp [Aft, Region.binds] at haf
          obtain ⟨fb, fk, fs, oB, oR, oO, f0, f1, f2, f3, f4, f5, f6, f7, f8, f9, f10, f11, f12, f13, f14, f15, f16, f17, f18, f19⟩ := hF
          have g12 := f12 (by simp [haf])
          have kA1 := (fb.cell (p := ⟨gE, oE + k * 3 + 1, none⟩) (World.block_lt_of_cell? w _ k2)).trans k2
          have kA2 := (fb.cell (p := ⟨gE, oE + k * 3 + 2, none⟩) (World.block_lt_of_cell? w _ k3)).trans k3
          have e45 := rd HA.out 45 (by kernel_rfl) g12
          refine ⟨?_⟩
          go_simp
          refine hK (upd U 46 (.agg #[.bool sE, .slice aE mE cE])) _ _ ?_ ?_
          · rw [HA.out]; kernel_rfl
          · exact ⟨fb, fk, fs, oB, oR, oO, f0, f1, f2, f3, f4, f5, f6, f7, f8, f9, f10, f11, f12, (fun _ => rfl), f14, f15, f16, f17, f18, f19⟩
        refine StepsU.run rfl ?_ ?_
        · intro L U wr hF hlk haf A K hA hK
          have HA : Hid (A = putAll _ _ U) := hA
          clear hA
          simp [Aft, Region.binds] at haf
          obtain ⟨fb, fk, fs, oB, oR, oO, f0, f1, f2, f3, f4, f5, f6, f7, f8, f9, f10, f11, f12, f13, f14, f15, f16, f17, f18, f19⟩ := hF
          have g1 := f1 (by simp [haf])
          have e34 := rd HA.out 34 (by kernel_rfl) g1
          have g7 := f7 (by simp [haf])
          have e40 := rd HA.out 40 (by kernel_rfl) g7
          have g13 := f13 (by simp [haf])
          have e46 := rd HA.out 46 (by kernel_rfl) g13
          refine ⟨?_⟩
          go_simp
          refine (with_add pU qU rU a b k pv sE aE mE cE pz _ HFA.out HFB.out (by rw [HLB.out]; exact h0) HPV.out (hq5.below fk.b) HQL.out (k4.below fb)).mono ?_
          rintro e w1 ⟨u, rfl, hr, hb⟩
          go_simp
          refine hK (upd U 47 (.tuple #[u, .bool (decide ((coef a pv + pz).natAbs < lim))])) _ _ ?_ ?_
          · rw [HA.out]; kernel_rfl
          · exact ⟨(fb.step hb (Nat.le_refl _)), (fk.trans (KeepB.below hb)), (Nat.le_trans fs hb.size), (oB.stay hb), (oR.stay hb), (oO.stay hb), (mvB mb_is (KeepB.below hb) f0), (mvB mb_is (KeepB.below hb) f1), (mvB mb_is (KeepB.below hb) f2), (mvB mb_is (KeepB.below hb) f3), (mvB mb_is (KeepB.below hb) f4), (mvB mb_is (KeepB.below hb) f5), (mvB mb_is (KeepB.below hb) f6), (mvB mb_is (KeepB.below hb) f7), (mvB mb_is (KeepB.below hb) f8), (mvB mb_is (KeepB.below hb) f9), (mvB mb_is (KeepB.below hb) f10), (mvB mb_is (KeepB.below hb) f11), (mvB mb_is (KeepB.below hb) f12), (mvB mb_is (KeepB.below hb) f13), (fun _ => ⟨_, _, rfl, hr, rfl⟩), (mvB (mb_t2 mb_qts mb_is) (KeepB.below hb) f15), (mvB mb_qts (KeepB.below hb) f16), (mvB mb_is (KeepB.below hb) f17), (mvB mb_qts (KeepB.below hb) f18), (mvB mb_is (KeepB.below hb) f19)⟩
        refine StepsU.run rfl ?_ ?_
        · intro L U wr hF hlk haf A K hA hK
          have HA : Hid (A = putAll _ _ U) := hA
          clear hA
          simp [Aft, Region.binds] at haf
          obtain ⟨fb, fk, fs, oB, oR, oO, f0, f1, f2, f3, f4, f5, f6, f7, f8, f9, f10, f11, f12, f13, f14, f15, f16, f17, f18, f19⟩ := hF
          have g14 := f14 (by simp [haf])
          have e47 := rd HA.out 47 (by kernel_rfl) rfl
          refine ⟨?_⟩
          go_simp
          refine hK (upd U 32 (U 47)) _ _ ?_ ?_
          · rw [HA.out]; kernel_rfl
          · exact ⟨fb, fk, fs, oB, oR, oO, f0, f1, f2, f3, f4, f5, f6, f7, f8, f9, f10, f11, f12, f13, f14, (fun _ => g14), f16, f17, f18, f19⟩
        refine StepsU.run rfl ?_ ?_
        · intro L U wr hF hlk haf A K hA hK
          have HA : Hid (A = putAll _ _ U) := hA
          clear hA
          simp [Aft, Region.binds] at haf
          obtain ⟨fb, fk, fs, oB, oR, oO, f0, f1, f2, f3, f4, f5, f6, f7, f8, f9, f10, f11, f12, f13, f14, f15, f16, f17, f18, f19⟩ := hF
          have g15 := f15 (by simp [haf])
          obtain ⟨t0, t1, hT, k0, k1⟩ := g15
          have e32 := rd HA.out 32 (by kernel_rfl) hT
          refine ⟨?_⟩
          go_simp
          refine hK (upd U 48 t0) _ _ ?_ ?_
          · rw [HA.out]; kernel_rfl
          · exact ⟨fb, fk, fs, oB, oR, oO, f0, f1, f2, f3, f4, f5, f6, f7, f8, f9, f10, f11, f12, f13, f14, f15, (fun _ => k0), f17, f18, f19⟩
        refine StepsU.run rfl ?_ ?_
        · intro L U wr hF hlk haf A K hA hK
          have HA : Hid (A = putAll _ _ U) := hA
          clear hA
          simp [Aft, Region.binds] at haf
          obtain ⟨fb, fk, fs, oB, oR, oO, f0, f1, f2, f3, f4, f5, f6, f7, f8, f9, f10, f11, f12, f13, f14, f15, f16, f17, f18, f19⟩ := hF
          have g15 := f15 (by simp [haf])
          obtain ⟨t0, t1, hT, k0, k1⟩ := g15
          have e32 := rd HA.out 32 (by kernel_rfl) hT
          refine ⟨?_⟩
          go_simp
          refine hK (upd U 49 t1) _ _ ?_ ?_
          · rw [HA.out]; kernel_rfl
          · exact ⟨fb, fk, fs, oB, oR, oO, f0, f1, f2, f3, f4, f5, f6, f7, f8, f9, f10, f11, f12, f13, f14, f15, f16, (fun _ => k1), f18, f19⟩
        refine StepsU.run rfl ?_ ?_
        · intro L U wr hF hlk haf A K hA hK
          have HA : Hid (A = putAll _ _ U) := hA
          clear hA
          simp [Aft, Region.binds] at haf
          obtain ⟨fb, fk, fs, oB, oR, oO, f0, f1, f2, f3, f4, f5, f6, f7, f8, f9, f10, f11, f12, f13, f14, f15, f16, f17, f18, f19⟩ := hF
          have g16 := f16 (by simp [haf])
          have e48 := rd HA.out 48 (by kernel_rfl) rfl
          refine ⟨?_⟩
          go_simp
          refine hK (upd U 9 (U 48)) _ _ ?_ ?_
          · rw [HA.out]; kernel_rfl
          · exact ⟨fb, fk, fs, oB, oR, oO, f0, f1, f2, f3, f4, f5, f6, f7, f8, f9, f10, f11, f12, f13, f14, f15, f16, f17, (fun _ => g16), f19⟩
        refine StepsU.run rfl ?_ StepsU.nil
        · intro L U wr hF hlk haf A K hA hK
          have HA : Hid (A = putAll _ _ U) := hA
          clear hA
          simp [Aft, Region.binds] at haf
          obtain ⟨fb, fk, fs, oB, oR, oO, f0, f1, f2, f3, f4, f5, f6, f7, f8, f9, f10, f11, f12, f13, f14, f15, f16, f17, f18, f19⟩ := hF
          have g17 := f17 (by simp [haf])
          have e49 := rd HA.out 49 (by kernel_rfl) rfl
          refine ⟨?_⟩
          go_simp
          refine hK (upd U 10 (U 49)) _ _ ?_ ?_
          · rw [HA.out]; kernel_rfl
          · exact ⟨fb, fk, fs, oB, oR, oO, f0, f1, f2, f3, f4, f5, f6, f7, f8, f9, f10, f11, f12, f13, f14, f15, f16, f17, f18, (fun _ => g17)⟩
      clear hbw oB oR oO
      intro L U3 V3 hall hF
      obtain ⟨hbw, fk, fs, oB, oR, oO, f0, f1, f2, f3, f4, f5, f6, f7, f8, f9, f10, f11, f12, f13, f14, f15, f16, f17, f18, f19⟩ := hF
      have g0 := f0 (hall 0 (by decide))
      have g1 := f1 (hall 1 (by decide))
      have g2 := f2 (hall 2 (by decide))
      have g3 := f3 (hall 3 (by decide))
      have g4 := f4 (hall 4 (by decide))
      have g5 := f5 (hall 5 (by decide))
      have g6 := f6 (hall 6 (by decide))
      have g7 := f7 (hall 7 (by decide))
      have g8 := f8 (hall 8 (by decide))
      have g9 := f9 (hall 9 (by decide))
      have g10 := f10 (hall 10 (by decide))
      have g11 := f11 (hall 11 (by decide))
      have g12 := f12 (hall 12 (by decide))
      have g13 := f13 (hall 13 (by decide))
      have g14 := f14 (hall 14 (by decide))
      have g15 := f15 (hall 15 (by decide))
      have g16 := f16 (hall 16 (by decide))
      have g17 := f17 (hall 17 (by decide))
      have g18 := f18 (hall 18 (by decide))
      have g19 := f19 (hall 19 (by decide))
      clear hall f0 f1 f2 f3 f4 f5 f6 f7 f8 f9 f10 f11 f12 f13 f14 f15 f16 f17 f18 f19
      replace hQ := hQ.below fk.b
      replace hN := hN.below fk.b
      replace hq5 := hq5.below fk.b
      replace ltB := oB.lt
      replace ltR := oR.lt
      replace ltO := oO.lt
      try clear g0
      try clear g1
      try clear g2
      try clear g3
      try clear g4
      try clear g5
      try clear g6
      try clear g7
      try clear g8
      try clear g9
      try clear g10
      try clear g11
      try clear g12
      try clear g13
      try clear g14
      try clear g15
      try clear g16
      try clear g17
      clear hbW
      simp only [setM_some, setM_none, setM_nil]
      clear fk fs
      obtain ⟨pV, qV, rV, e9, hq1, hq2, hq3, hq4, hq6⟩ := g18
      have HE9 : U3 9 = .slice pV qV rV := e9
      have HE10 : U3 10 = _ := g19
      rw [HE9, HE10]
      clear g19 HE9 HE10 e9 hQ hq5 k1 k2 k3 k4
      have hQ : QTS (addP a (b.take (k + 1))) (.slice pV qV rV) V3 := ⟨_, _, _, rfl, hq1, hq2, hq3, hq4, hq6⟩
      clear hq1 hq2 hq3 hq4 hq6
      have hK := keepQ_stores (by decide) (by decide) [.slice pV qV rV] 0 oO (nuT _ _ _ _ _ _ _) (by intro u hu; simp at hu; subst hu; exact noU_slice _ _ _)
      have hB9 := below_stores lwO [.slice pV qV rV] 0 hbw
      have oO2 : Blk 41 (stores V3 bO 0 [.slice pV qV rV]) bO #[.slice pV qV rV, .bool xO, .slice aO nO cO] := oO.set 0 _
      have oB2 := oB.otherS (Ne.symm neBO) 0 [.slice pV qV rV]
      have oR2 := oR.otherS (Ne.symm neRO) 0 [.slice pV qV rV]
      have hQ2 := mq_qts _ _ _ hK hQ
      have hN2 := hN.keepQ hK
      obtain ⟨Oc0, Oc1, Oc2⟩ := oO.three
      obtain ⟨Ok0, Ok1, Ok2⟩ := oO.frozen3
      have HST := fitK_step (a := a) (r := r) (s := t) (by rw [HLB.out]; exact h0) HPV.out
      by_cases hf : (coef a pv + pz).natAbs < lim
      · have HF : Hid ((coef a pv + pz).natAbs < lim) := hf
        have hfd : decide ((coef a pv + pz).natAbs < lim) = true := decide_eq_true hf
        rw [hfd]
        clear hf hfd
        cases ok
        · go_wp2
          go_roundw
          case rel =>
            refine ⟨k + 1, false, _, by omega, rfl, by go_num, oB2, oR2, oO2, hQ2, hN2, ?_, hB9⟩
            show _ ↔ _
            have h := HI.out
            rw [HST]
            exact ⟨(fun k => by cases k), fun k => absurd (h.2 k.1) (by decide)⟩
          case measure => simp [intOf]; omega
        · go_wp2
          go_roundw
          case rel =>
            refine ⟨k + 1, true, _, by omega, rfl, by go_num, oB2, oR2, oO2, hQ2, hN2, ?_, hB9⟩
            show _ ↔ _
            have h := HI.out
            rw [HST]
            exact ⟨fun _ => ⟨h.1 rfl, HF.out⟩, fun _ => rfl⟩
          case measure => simp [intOf]; omega
      · have HF : Hid (¬ (coef a pv + pz).natAbs < lim) := hf
        have hfd : decide ((coef a pv + pz).natAbs < lim) = false := decide_eq_false hf
        rw [hfd]
        clear hf hfd
        cases ok
        · go_wp2
          go_roundw
          case rel =>
            refine ⟨k + 1, false, _, by omega, rfl, by go_num, oB2, oR2, oO2, hQ2, hN2, ?_, hB9⟩
            show _ ↔ _
            have h := HI.out
            rw [HST]
            exact ⟨(fun k => by cases k), fun k => absurd k.2 HF.out⟩
          case measure => simp [intOf]; omega
        · go_wp2
          go_roundw
          case rel =>
            refine ⟨k + 1, false, _, by omega, rfl, by go_num, oB2, oR2, oO2, hQ2, hN2, ?_, hB9⟩
            show _ ↔ _
            have h := HI.out
            rw [HST]
            exact ⟨(fun k => by cases k), fun k => absurd k.2 HF.out⟩
          case measure => simp [intOf]; omega
    · have hkq : k = b.length := by rw [HLB.out]; omega
      rw [hkq, fitK_end HFA.out HFB.out] at HI
      rw [hkq, List.take_of_length_le (Nat.le_refl _)] at hQ
      clear hkq
      cases ok
      · have HNO : Hid (¬ tAddOk a b r t) := fun k => by have := HI.out.2 k; cases this
        obtain ⟨Rc0, Rc1, Rc2⟩ := oR.three
        obtain ⟨Rk0, Rk1, Rk2⟩ := oR.frozen3
        obtain ⟨Bc0, Bc1, Bc2⟩ := oB.three
        obtain ⟨Bk0, Bk1, Bk2⟩ := oB.frozen3
        try simp only []
        try go_at_K
        repeat (first | go_values | go_skip | go_guarded | go_step | go_upon)
        refine bodyPost_ret (v := .tuple #[.agg #[.slice none 0 0, .bool false, .slice none 0 0], .int .i64 11]) (by simp [results, Tryz.results15, go_sem, Rc0, Rc1, Rc2]) rfl ?_
        obtain ⟨K1, B1, _⟩ := resTq (by decide) (by decide) oR hbw lwR none 0 0 false none 0 0
        exact ⟨_, _, rfl, Or.inr ⟨HNO.out, rfl, (RTP.zero _).val⟩, B1⟩
      · have HOK : Hid (tAddOk a b r t) := HI.out.1 rfl
        obtain ⟨Rc0, Rc1, Rc2⟩ := oR.three
        obtain ⟨Rk0, Rk1, Rk2⟩ := oR.frozen3
        obtain ⟨Bc0, Bc1, Bc2⟩ := oB.three
        obtain ⟨Bk0, Bk1, Bk2⟩ := oB.frozen3
        obtain ⟨Oc0, Oc1, Oc2⟩ := oO.three
        obtain ⟨Ok0, Ok1, Ok2⟩ := oO.frozen3
        try simp only []
        try go_at_K
        repeat (first | go_values | go_skip | go_guarded | go_step | go_upon)
        refine bodyPost_ret (v := .tuple #[.agg #[.slice pU qU rU, .bool xO, .slice aO nO cO], .int .i64 0]) (by simp [results, Tryz.results15, go_sem, Rc0, Rc1, Rc2]) rfl ?_
        obtain ⟨K1, B1, _⟩ := resTq (by decide) (by decide) oR hbw lwR pU qU rU xO aO nO cO
        have hT : QRSR _ (.agg #[.slice pU qU rU, .bool xO, .slice aO nO cO]) _ _ := ⟨_, _, _, _, _, _, _, rfl, mq_qts _ _ _ K1 hQ, hN.keepQ K1⟩
        exact ⟨_, _, rfl, Or.inl ⟨HOK.out, rfl, hT.term (addP_fine HFA.out HFB.out HOK.out.2) HOK.out.1⟩, B1⟩

end Go.Proofs.YteefniagebcagaaGreatDoor
