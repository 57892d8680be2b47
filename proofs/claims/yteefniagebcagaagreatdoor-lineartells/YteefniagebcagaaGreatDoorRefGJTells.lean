/- Contract of suretyref03's Common; they prove no statement of the seat. -/
import Derived.Test.YteefniagebcagaaGreatDoorRefDJTells
import Derived.Test.YteefniagebcagaaGreatDoorRGcdJTells
namespace Go.Proofs.YteefniagebcagaaGreatDoor
open Go.RowKit
set_option linter.unusedVariables false

set_option maxRecDepth 20000 in
set_option maxHeartbeats 8000000 in
theorem rcommon_any (aX : Option Addr) (nX cX : Nat) (a : List (Nat × Int)) (w : World) (ha : QArr w aX a) (hl : a.length = nX) (hf : Fine a) :
    Calls Tryz.prog 36 #[.slice aX nX cX] w fun e w' => ∃ x m n c, e = .returned (.agg #[.bool x, .slice m n c]) ∧ RNum w' (.agg #[.bool x, .slice m n c]) (cm a) 400 ∧ Below w.heap.size w w' := by
  have oR := ((Blk.new w 39 #[.bool false, .slice none 0 0]).alloc (.cells #[.bool false, .slice none 0 0] 39 (0, 0)))
  have oG := (Blk.new (w.alloc (.cells #[.bool false, .slice none 0 0] 39 (0, 0))) 39 #[.bool false, .slice none 0 0])
  simp only [World.size_alloc] at oG
  have hbw : Below w.heap.size w ((w.alloc (.cells #[.bool false, .slice none 0 0] 39 (0, 0))).alloc (.cells #[.bool false, .slice none 0 0] 39 (0, 0))) := by go_grown
  have ltR := oR.lt
  have lwR : w.heap.size ≤ w.heap.size := by omega
  have ltG := oG.lt
  have lwG : w.heap.size ≤ w.heap.size + 1 := by omega
  have HX : Hid (QArr w aX a) := ha
  have HLN : Hid (a.length = nX) := hl
  have HFA : Hid (Fine a) := hf
  have hlen : nX ≤ 4096 := by rw [← hl]; exact hf.len
  clear ha hl hf
  go_enter Tryz.func36, Tryz.ntmps36
  go_wp2
  go_loopw [4] (fun i wl => ∃ (k : Nat) (xG : Bool) (aG : Option Addr) (nG cG : Nat), k ≤ nX ∧ i = .int .i64 k ∧ Blk 39 wl w.heap.size #[.bool false, .slice none 0 0] ∧ Blk 39 wl (w.heap.size + 1) #[.bool xG, .slice aG nG cG] ∧ RNum wl (.agg #[.bool xG, .slice aG nG cG]) (cm (a.take k)) 400 ∧ Below w.heap.size w wl) (fun i _ => nX - (intOf i).toNat)
  case atStart => exact ⟨0, false, none, 0, 0, Nat.zero_le _, rfl, oR, oG, RNum.zeroN _ _, hbw⟩
  case round =>
    rename World => wl
    clear oR oG hbw ltR ltG
    obtain ⟨k, xG, aG, nG, cG, hk, hi9, oR, oG, hG, hbw⟩ := hrel
    subst hi9
    have ltR := oR.lt
    have ltG := oG.lt
    by_cases h0 : k < nX
    · obtain ⟨gE, oE, sE, aE, mE, cE, had, k1, k2, k3, k4⟩ := HX.out.at k (by rw [HLN.out]; exact h0)
      subst had
      obtain ⟨pv, hpv⟩ : ∃ x9, x9 = (a.getD k (0, 0)).1 := ⟨_, rfl⟩
      obtain ⟨pz, hpz⟩ : ∃ x9, x9 = (a.getD k (0, 0)).2 := ⟨_, rfl⟩
      rw [← hpv] at k1
      rw [← hpz] at k4
      have HPV : Hid (a.getD k (0, 0) = (pv, pz)) := by show _ = _; rw [hpv, hpz]
      clear hpv hpz
      have HPF : Hid (pz ≠ 0 ∧ pz.natAbs < lim ∧ pv < 4096) := HFA.out.at (by rw [HLN.out]; exact h0) HPV.out
      have HCT : Hid (((Int.gcd (cm (a.take k)) pz : Nat) : Int) = cm (a.take (k + 1))) := cm_take (by rw [HLN.out]; exact h0) HPV.out
      go_wp2
      generalize hg9 : cm (a.take k) = gz at hG HCT
      have hG0 := hG
      clear hg9
      have geG : w.heap.size ≤ w.heap.size + 1 := lwG
      have neGR : w.heap.size + 1 ≠ w.heap.size := by omega
      have hbW := hbw
      refine wp_region_M (by kernel_rfl) [12, 13, 14, 15, 16, 17, 18] [none, none, none, none, none, none, none, none, none, none, none, none, some 12, some 13, some 14, some 15, some 16, some 17, some 18] (fun U => by kernel_rfl) (fun L U wr => Below w.heap.size w wr ∧ KeepQ wl wr ∧ wl.heap.size ≤ wr.heap.size ∧ Blk 39 wr (w.heap.size) #[.bool false, .slice none 0 0] ∧ BlkV 39 wr (w.heap.size + 1) (bif L 7 then U 18 else .agg #[.bool xG, .slice aG nG cG]) ∧ (L 0 = true → IS (.agg #[.bool xG, .slice aG nG cG]) (U 12) wr) ∧ (L 1 = true → IS (.slice (some ⟨gE, oE, none⟩) nX cX) (U 13) wr) ∧ (L 2 = true → IS (.int .i64 k) (U 14) wr) ∧ (L 3 = true → IS (.pointer (some ⟨gE, oE + k * 3, none⟩)) (U 15) wr) ∧ (L 4 = true → IS (.pointer (some ⟨gE, oE + k * 3 + 1, none⟩)) (U 16) wr) ∧ (L 5 = true → IS (.agg #[.bool sE, .slice aE mE cE]) (U 17) wr) ∧ (L 6 = true → RNM (cm (a.take (k + 1))) 400 (U 18) wr) ∧ (L 7 = true → L 6 = true) ∧ (L 6 = true → L 0 = true)) (by kernel_rfl) ?_ ?_ ?_
      · exact fun U => ⟨hbw.drew, KeepQ.below (Below.refl _ _).drew, Nat.le_refl _, oR.drew, ⟨_, rfl, oG.drew⟩, (fun h => by cases h), (fun h => by cases h), (fun h => by cases h), (fun h => by cases h), (fun h => by cases h), (fun h => by cases h), (fun h => by cases h), (fun h => by cases h), (fun h => by cases h)⟩
      · refine StepsU.run rfl ?_ ?_
        · intro L U wr hF hlk haf A K hA hK
          have HA : Hid (A = putAll _ _ U) := hA
          clear hA
          simp [Aft, Region.binds] at haf
          obtain ⟨fb, fk, fs, oR, rG, f0, f1, f2, f3, f4, f5, f6, s7, q6_0⟩ := hF
          have hst9 : L 7 = false := by cases h : L 7 with | false => rfl | true => rw [q6_0 (s7 h)] at hlk; cases hlk
          have r9 := rG
          rw [hst9, cond_false] at r9
          obtain ⟨cs9, hcs9, o9⟩ := r9
          injection hcs9 with hcs9
          subst hcs9
          have e3 : A.tmps[3]? = some (.pointer (some ⟨w.heap.size + 1, 0, none⟩)) := by rw [HA.out]; kernel_rfl
          have c0 := Blk.cell o9 0
          have c1 := Blk.cell o9 1
          simp at c0
          simp at c1
          refine ⟨?_⟩
          go_simp
          refine hK (upd U 12 (.agg #[.bool xG, .slice aG nG cG])) _ _ ?_ ?_
          · rw [HA.out]; kernel_rfl
          · exact ⟨fb, fk, fs, oR, rG, (fun _ => rfl), f1, f2, f3, f4, f5, f6, s7, (fun _ => rfl)⟩
        refine StepsU.run rfl ?_ ?_
        · intro L U wr hF hlk haf A K hA hK
          have HA : Hid (A = putAll _ _ U) := hA
          clear hA
          simp [Aft, Region.binds] at haf
          obtain ⟨fb, fk, fs, oR, rG, f0, f1, f2, f3, f4, f5, f6, s7, q6_0⟩ := hF
          have e0 : A.tmps[0]? = some (.slice (some ⟨gE, oE, none⟩) nX cX) := by rw [HA.out]; kernel_rfl
          refine ⟨?_⟩
          go_simp
          refine hK (upd U 13 (.slice (some ⟨gE, oE, none⟩) nX cX)) _ _ ?_ ?_
          · rw [HA.out]; kernel_rfl
          · exact ⟨fb, fk, fs, oR, rG, f0, (fun _ => rfl), f2, f3, f4, f5, f6, s7, q6_0⟩
        refine StepsU.run rfl ?_ ?_
        · intro L U wr hF hlk haf A K hA hK
          have HA : Hid (A = putAll _ _ U) := hA
          clear hA
          simp [Aft, Region.binds] at haf
          obtain ⟨fb, fk, fs, oR, rG, f0, f1, f2, f3, f4, f5, f6, s7, q6_0⟩ := hF
          have e4 : A.tmps[4]? = some (.int .i64 k) := by rw [HA.out]; kernel_rfl
          refine ⟨?_⟩
          go_simp
          refine hK (upd U 14 (.int .i64 k)) _ _ ?_ ?_
          · rw [HA.out]; kernel_rfl
          · exact ⟨fb, fk, fs, oR, rG, f0, f1, (fun _ => rfl), f3, f4, f5, f6, s7, q6_0⟩
        refine StepsU.run rfl ?_ ?_
        · intro L U wr hF hlk haf A K hA hK
          have HA : Hid (A = putAll _ _ U) := hA
          clear hA
          simp [Aft, Region.binds] at haf
          obtain ⟨fb, fk, fs, oR, rG, f0, f1, f2, f3, f4, f5, f6, s7, q6_0⟩ := hF
          have g1 := f1 (by simp [haf])
          have g2 := f2 (by simp [haf])
          have e13 := rd HA.out 13 (by kernel_rfl) g1
          have e14 := rd HA.out 14 (by kernel_rfl) g2
          refine ⟨?_⟩
          go_simp
          refine hK (upd U 15 (.pointer (some ⟨gE, oE + k * 3, none⟩))) _ _ ?_ ?_
          · rw [HA.out]; kernel_rfl
          · exact ⟨fb, fk, fs, oR, rG, f0, f1, f2, (fun _ => rfl), f4, f5, f6, s7, q6_0⟩
        refine StepsU.run rfl ?_ ?_
        · intro L U wr hF hlk haf A K hA hK
          have HA : Hid (A = putAll _ _ U) := hA
          clear hA
          simp [Aft, Region.binds] at haf
          obtain ⟨fb, fk, fs, oR, rG, f0, f1, f2, f3, f4, f5, f6, s7, q6_0⟩ := hF
          have g3 := f3 (by simp [haf])
          have e15 := rd HA.out 15 (by kernel_rfl) g3
          refine ⟨?_⟩
          go_simp
          refine hK (upd U 16 (.pointer (some ⟨gE, oE + k * 3 + 1, none⟩))) _ _ ?_ ?_
          · rw [HA.out]; kernel_rfl
          · exact ⟨fb, fk, fs, oR, rG, f0, f1, f2, f3, (fun _ => rfl), f5, f6, s7, q6_0⟩
        refine StepsU.run rfl ?_ ?_
        · intro L U wr hF hlk haf A K hA hK
          have HA : Hid (A = putAll _ _ U) := hA
          clear hA
          simp [Aft, Region.binds] at haf
          obtain ⟨fb, fk, fs, oR, rG, f0, f1, f2, f3, f4, f5, f6, s7, q6_0⟩ := hF
          have g4 := f4 (by simp [haf])
          have kA1 := (fb.cell (p := ⟨gE, oE + k * 3 + 1, none⟩) (World.block_lt_of_cell? w _ k2)).trans k2
          have kA2 := (fb.cell (p := ⟨gE, oE + k * 3 + 2, none⟩) (World.block_lt_of_cell? w _ k3)).trans k3
          have e16 := rd HA.out 16 (by kernel_rfl) g4
          refine ⟨?_⟩
          go_simp
          refine hK (upd U 17 (.agg #[.bool sE, .slice aE mE cE])) _ _ ?_ ?_
          · rw [HA.out]; kernel_rfl
          · exact ⟨fb, fk, fs, oR, rG, f0, f1, f2, f3, f4, (fun _ => rfl), f6, s7, q6_0⟩
        refine StepsU.run rfl ?_ ?_
        · intro L U wr hF hlk haf A K hA hK
          have HA : Hid (A = putAll _ _ U) := hA
          clear hA
          simp [Aft, Region.binds] at haf
          obtain ⟨fb, fk, fs, oR, rG, f0, f1, f2, f3, f4, f5, f6, s7, q6_0⟩ := hF
          have g0 := f0 (by simp [haf])
          have e12 := rd HA.out 12 (by kernel_rfl) g0
          have g5 := f5 (by simp [haf])
          have e17 := rd HA.out 17 (by kernel_rfl) g5
          refine ⟨?_⟩
          go_simp
          refine (rGcd_any _ _ gz pz (cm (a.take (k + 1))) _ (hG0.keepQ fk) ((k4.short HPF.out.2.1).below fb) HCT.out).mono ?_
          rintro e w1 ⟨u1, u2, u3, u4, rfl, hr, hb⟩
          go_simp
          have hs7 : L 7 = false := by cases h : L 7 with | false => rfl | true => rw [s7 h] at hlk; cases hlk
          refine hK (upd U 18 (.agg #[.bool u1, .slice u2 u3 u4])) _ _ ?_ ?_
          · rw [HA.out]; kernel_rfl
          · exact ⟨(fb.step hb (Nat.le_refl _)), (fk.trans (KeepQ.below hb)), (Nat.le_trans fs hb.size), (oR.stay hb), (flip_v (P := fun v => BlkV _ _ _ v) hs7 (rG.stay hb)), (mvQ mq_is (KeepQ.below hb) f0), (mvQ mq_is (KeepQ.below hb) f1), (mvQ mq_is (KeepQ.below hb) f2), (mvQ mq_is (KeepQ.below hb) f3), (mvQ mq_is (KeepQ.below hb) f4), (mvQ mq_is (KeepQ.below hb) f5), (fun _ => hr), (fun _ => rfl), (fun _ => by simp [haf])⟩
        refine StepsU.run rfl ?_ StepsU.nil
        · intro L U wr hF hlk haf A K hA hK
          have HA : Hid (A = putAll _ _ U) := hA
          clear hA
          simp [Aft, Region.binds] at haf
          obtain ⟨fb, fk, fs, oR, rG, f0, f1, f2, f3, f4, f5, f6, s7, q6_0⟩ := hF
          have g6 := f6 (by simp [haf])
          obtain ⟨yx, ya, yn, yc, hsrc⟩ := RNum.shape g6
          have e18 := rd HA.out 18 (by kernel_rfl) hsrc
          have e3 : A.tmps[3]? = some (.pointer (some ⟨w.heap.size + 1, 0, none⟩)) := by rw [HA.out]; kernel_rfl
          have rV := rG
          rw [hlk, cond_false] at rV
          obtain ⟨cs, hcs, hblk⟩ := rV
          injection hcs with hcs
          subst hcs
          have q0 := hblk.frozen 0
          have q1 := hblk.frozen 1
          have c0 := hblk.cell 0
          have c1 := hblk.cell 1
          simp at c0
          simp at c1
          have hlt := hblk.lt
          refine ⟨?_⟩
          go_simp
          refine hK U _ _ ?_ ?_
          · exact HA.out
          · exact ⟨(below_stores geG [.bool yx, .slice ya yn yc] 0 fb), (fk.trans (keepQ_stores (by decide) (by decide) [.bool yx, .slice ya yn yc] 0 hblk (nuI _ _ _ _) (nuI _ _ _ _))), (by simp; exact fs), (oR.otherS neGR 0 [.bool yx, .slice ya yn yc]), (by simp only [cond_true, Bool.true_or, beq_self_eq_true]; exact ⟨_, hsrc, hblk.overS [.bool yx, .slice ya yn yc] 0 rfl⟩), (mvQ mq_is (keepQ_stores (by decide) (by decide) [.bool yx, .slice ya yn yc] 0 hblk (nuI _ _ _ _) (nuI _ _ _ _)) f0), (mvQ mq_is (keepQ_stores (by decide) (by decide) [.bool yx, .slice ya yn yc] 0 hblk (nuI _ _ _ _) (nuI _ _ _ _)) f1), (mvQ mq_is (keepQ_stores (by decide) (by decide) [.bool yx, .slice ya yn yc] 0 hblk (nuI _ _ _ _) (nuI _ _ _ _)) f2), (mvQ mq_is (keepQ_stores (by decide) (by decide) [.bool yx, .slice ya yn yc] 0 hblk (nuI _ _ _ _) (nuI _ _ _ _)) f3), (mvQ mq_is (keepQ_stores (by decide) (by decide) [.bool yx, .slice ya yn yc] 0 hblk (nuI _ _ _ _) (nuI _ _ _ _)) f4), (mvQ mq_is (keepQ_stores (by decide) (by decide) [.bool yx, .slice ya yn yc] 0 hblk (nuI _ _ _ _) (nuI _ _ _ _)) f5), (mvQ mq_rnm (keepQ_stores (by decide) (by decide) [.bool yx, .slice ya yn yc] 0 hblk (nuI _ _ _ _) (nuI _ _ _ _)) f6), (fun _ => by simp [haf]), q6_0⟩
      clear hbw oR oG
      intro L U1 V1 hall hF
      obtain ⟨hbw, fk, fs, oR, rG, f0, f1, f2, f3, f4, f5, f6, s7, q6_0⟩ := hF
      clear s7 q6_0
      have g0 := f0 (hall 0 (by decide))
      have g1 := f1 (hall 1 (by decide))
      have g2 := f2 (hall 2 (by decide))
      have g3 := f3 (hall 3 (by decide))
      have g4 := f4 (hall 4 (by decide))
      have g5 := f5 (hall 5 (by decide))
      have g6 := f6 (hall 6 (by decide))
      rw [hall 7 (by decide), cond_true] at rG
      clear hall f0 f1 f2 f3 f4 f5 f6
      replace hG := hG.keepQ fk
      obtain ⟨csG, hcsG, oG⟩ := rG
      obtain ⟨xG, aG, nG, cG, hvG⟩ := RNum.shape g6
      have hG : RNum _ _ _ _ := g6
      rw [hvG] at hG hcsG
      injection hcsG with hcsG
      subst hcsG
      clear hvG
      replace ltG := oG.lt
      replace ltR := oR.lt
      try clear g0
      try clear g1
      try clear g2
      try clear g3
      try clear g4
      try clear g5
      try clear g6
      clear hbW
      simp only [setM_some, setM_none, setM_nil]
      clear fk fs
      go_wp2
      go_roundw
      case rel => exact ⟨k + 1, _, _, _, _, by omega, by go_num, oR, oG, hG, hbw⟩
      case measure => simp [intOf]; omega
    · have hkq : k = a.length := by rw [HLN.out]; omega
      rw [hkq, List.take_of_length_le (Nat.le_refl _)] at hG
      clear hkq
      obtain ⟨Rc0, Rc1, Rk0, Rk1⟩ := oR.two
      obtain ⟨Gc0, Gc1, Gk0, Gk1⟩ := oG.two
      try simp only []
      try go_at_K
      repeat (first | go_values | go_skip | go_guarded | go_step | go_upon)
      refine bodyPost_ret (v := .agg #[.bool xG, .slice aG nG cG]) (by simp [results, Tryz.results36, go_sem, Rc0, Rc1]) rfl ?_
      obtain ⟨K1, B1, _⟩ := resNq (by decide) (by decide) oR hbw lwR xG aG nG cG
      exact ⟨xG, aG, nG, cG, rfl, hG.keepQ K1, B1⟩

end Go.Proofs.YteefniagebcagaaGreatDoor
