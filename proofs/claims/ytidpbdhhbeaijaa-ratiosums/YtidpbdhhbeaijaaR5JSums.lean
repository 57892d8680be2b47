/- Contract of suretyref02.Sum; it proves no statement of the seat. -/
import Derived.Test.YtidpbdhhbeaijaaR3JSums
import Derived.Test.YtidpbdhhbeaijaaQ9JSums
namespace Go.Proofs.Ytidpbdhhbeaijaa
open Go.RowKit
/-- The cells from 'ao' on are the document's rationals. -/
def ArrQR (w : World) (ao : Option Addr) (zs : List Rat) : Prop :=
  zs = [] ∨ ∃ g o, ao = some ⟨g, o, none⟩ ∧ ∀ k, k < zs.length → ∃ xX aX nX cX yX eX mX fX, (w.cell? ⟨g, o + k * 4, none⟩ = some (.bool xX) ∧ w.cell? ⟨g, o + k * 4 + 1, none⟩ = some (.slice aX nX cX) ∧ w.cell? ⟨g, o + k * 4 + 2, none⟩ = some (.bool yX) ∧ w.cell? ⟨g, o + k * 4 + 3, none⟩ = some (.slice eX mX fX)) ∧ QRP w xX aX nX cX yX eX mX fX (zs.getD k 0) 400

set_option maxRecDepth 20000 in
set_option maxHeartbeats 8000000 in
theorem rqsum_any (ao : Option Addr) (n cap : Nat) (zs : List Rat) (w : World) (hn : zs.length = n) (h2 : n ≤ 1000) (hs : ArrQR w ao zs) :
    Calls Try.prog 39 #[.slice ao n cap] w fun e w' => ∃ s1 s2 s3 s4 s5 s6 s7 s8, e = .returned (.tuple #[.agg #[.bool s1, .slice s2 s3 s4, .bool s5, .slice s6 s7 s8], .int .i64 (qsumE zs)]) ∧ QRP w' s1 s2 s3 s4 s5 s6 s7 s8 (qsumZ zs) (400) ∧ Below w.heap.size w w' := by
  have HN : Hid (zs.length = n) := hn
  clear hn
  have oR := (Blk.new w 35 #[.bool false, .slice none 0 0, .bool false, .slice none 0 0]).alloc (.cells #[.bool false, .slice none 0 0, .bool false, .slice none 0 0] 35 (0, 0))
  have oS := Blk.new (w.alloc (.cells #[.bool false, .slice none 0 0, .bool false, .slice none 0 0] 35 (0, 0))) 35 #[.bool false, .slice none 0 0, .bool false, .slice none 0 0]
  simp only [World.size_alloc] at oS
  have hbw : Below w.heap.size w ((w.alloc (.cells #[.bool false, .slice none 0 0, .bool false, .slice none 0 0] 35 (0, 0))).alloc (.cells #[.bool false, .slice none 0 0, .bool false, .slice none 0 0] 35 (0, 0))) := by go_grown
  go_enter Try.func39, Try.ntmps39
  go_wp2
  go_loopw [5] (fun i wr => ∃ k : Nat, ∃ (p : Rat) (xS : Bool) (aS : Option Addr) (nS cS : Nat) (yS : Bool) (eS : Option Addr) (mS fS : Nat), k ≤ n ∧ i = .int .i64 k ∧ Hid (qsums 0 zs = qsums p (zs.drop k)) ∧ Blk 35 wr w.heap.size #[.bool false, .slice none 0 0, .bool false, .slice none 0 0] ∧ Blk 35 wr (w.heap.size + 1) #[.bool xS, .slice aS nS cS, .bool yS, .slice eS mS fS] ∧ QRP wr xS aS nS cS yS eS mS fS p 400 ∧ Below w.heap.size w wr) (fun i _ => n - (intOf i).toNat)
  case atStart => exact ⟨0, 0, false, none, 0, 0, false, none, 0, 0, Nat.zero_le _, rfl, rfl, oR, oS, QRP.zero, hbw⟩
  case round =>
    clear oR oS hbw
    obtain ⟨k, p, xS, aS, nS, cS, yS, eS, mS, fS, hk, rfl, HS, oR, oS, hS, hbw⟩ := hrel
    by_cases h0 : k < n
    · have hkz : k < zs.length := by rw [HN.out]; exact h0
      rcases hs with hnil | ⟨g, o, rfl, hc⟩
      · subst hnil; simp at hkz
      obtain ⟨xX, aX, nX, cX, yX, eX, mX, fX, ⟨c0, c1, c2, c3⟩, hX⟩ := hc k hkz
      have HEL : Hid (∀ wr : World, Below w.heap.size w wr → wr.cell? ⟨g, o + k * 4, none⟩ = some (.bool xX) ∧ wr.cell? ⟨g, o + k * 4 + 1, none⟩ = some (.slice aX nX cX) ∧ wr.cell? ⟨g, o + k * 4 + 2, none⟩ = some (.bool yX) ∧ wr.cell? ⟨g, o + k * 4 + 3, none⟩ = some (.slice eX mX fX)) := fun wr hb => ⟨(hb.cell (p := ⟨g, o + k * 4, none⟩) (World.block_lt_of_cell? w _ c0)).trans c0, (hb.cell (p := ⟨g, o + k * 4 + 1, none⟩) (World.block_lt_of_cell? w _ c1)).trans c1, (hb.cell (p := ⟨g, o + k * 4 + 2, none⟩) (World.block_lt_of_cell? w _ c2)).trans c2, (hb.cell (p := ⟨g, o + k * 4 + 3, none⟩) (World.block_lt_of_cell? w _ c3)).trans c3⟩
      obtain ⟨x, hxd⟩ : ∃ x, x = zs.getD k 0 := ⟨_, rfl⟩
      rw [← hxd] at hX
      have HX : Hid (x = zs.getD k 0) := hxd
      have HST : Hid (qsums p (zs.drop k) = if addC p (zs.getD k 0) = 0 then qsums (addZ p (zs.getD k 0)) (zs.drop (k + 1)) else none) := qsums_step hkz p
      clear hc hxd hkz c0 c1 c2 c3
      generalize wr = W1 at oR oS hS hbw ⊢
      have ltR := oR.lt
      have ltS := oS.lt
      have i0 : (0 : Int) ≤ (k : Int) := by omega
      have i1 : (k : Int) < (n : Int) := by omega
      go_wp2
      refine wp_region_M (by kernel_rfl) [6, 7, 15, 16, 17, 18, 19, 20, 21, 22, 23] [none, none, none, none, none, none, some 6, some 7, none, none, none, none, none, none, none, some 15, some 16, some 17, some 18, some 19, some 20, some 21, some 22, some 23] (fun U => by kernel_rfl) (fun L U wr => Below w.heap.size w wr ∧ KeepI W1 wr ∧ W1.heap.size ≤ wr.heap.size ∧ Blk 35 wr (w.heap.size) #[.bool false, .slice none 0 0, .bool false, .slice none 0 0] ∧ Blk 35 wr (w.heap.size + 1) #[.bool xS, .slice aS nS cS, .bool yS, .slice eS mS fS] ∧ (L 0 = true → IS (.agg #[.bool xS, .slice aS nS cS, .bool yS, .slice eS mS fS]) (U 16) wr) ∧ (L 1 = true → IS (.slice (some ⟨g, o, none⟩) n cap) (U 17) wr) ∧ (L 2 = true → IS (.int .i64 k) (U 18) wr) ∧ (L 3 = true → IS (.pointer (some ⟨g, o + k * 4, none⟩)) (U 19) wr) ∧ (L 4 = true → IS (.agg #[.bool xX, .slice aX nX cX, .bool yX, .slice eX mX fX]) (U 20) wr) ∧ (L 5 = true → T2 (RRT (addZ p x) 400) (IS (.int .i64 (addC p x))) (U 21) wr) ∧ (L 6 = true → T2 (RRT (addZ p x) 400) (IS (.int .i64 (addC p x))) (U 15) wr) ∧ (L 7 = true → RRT (addZ p x) 400 (U 22) wr) ∧ (L 8 = true → IS (.int .i64 (addC p x)) (U 23) wr) ∧ (L 9 = true → NEW 35 W1.heap.size wr (U 6) (bif L 10 then U 22 else .agg #[.bool false, .slice none 0 0, .bool false, .slice none 0 0])) ∧ (L 11 = true → IS (.int .i64 (addC p x)) (U 7) wr) ∧ (L 10 = true → L 7 = true) ∧ (L 10 = true → L 9 = true)) (by kernel_rfl) ?_ ?_ ?_
      · exact fun U => ⟨hbw.drew, KeepI.below (Below.refl _ _).drew, Nat.le_refl _, oR.drew, oS.drew, (fun h => by cases h), (fun h => by cases h), (fun h => by cases h), (fun h => by cases h), (fun h => by cases h), (fun h => by cases h), (fun h => by cases h), (fun h => by cases h), (fun h => by cases h), (fun h => by cases h), (fun h => by cases h), (fun h => by cases h), (fun h => by cases h)⟩
      · refine StepsU.run rfl ?_ ?_
        · intro L U wr hF hlk haf A K hA hK
          have HA : Hid (A = putAll _ _ U) := hA
          clear hA
          simp [Aft, Region.binds] at haf
          obtain ⟨fb, fk, fs, oR, oS, f0, f1, f2, f3, f4, f5, f6, f7, f8, f9, f11, s10, m9⟩ := hF
          have e4 : A.tmps[4]? = some (.pointer (some ⟨w.heap.size + 1, 0, none⟩)) := by rw [HA.out]; kernel_rfl
          obtain ⟨c0, c1, c2, c3⟩ := oS.four
          refine ⟨?_⟩
          go_simp
          refine hK (upd U 16 (.agg #[.bool xS, .slice aS nS cS, .bool yS, .slice eS mS fS])) _ _ ?_ ?_
          · rw [HA.out]; kernel_rfl
          · exact ⟨fb, fk, fs, oR, oS, (fun _ => rfl), f1, f2, f3, f4, f5, f6, f7, f8, f9, f11, s10, m9⟩
        refine StepsU.run rfl ?_ ?_
        · intro L U wr hF hlk haf A K hA hK
          have HA : Hid (A = putAll _ _ U) := hA
          clear hA
          simp [Aft, Region.binds] at haf
          obtain ⟨fb, fk, fs, oR, oS, f0, f1, f2, f3, f4, f5, f6, f7, f8, f9, f11, s10, m9⟩ := hF
          have e0 : A.tmps[0]? = some (.slice (some ⟨g, o, none⟩) n cap) := by rw [HA.out]; kernel_rfl
          refine ⟨?_⟩
          go_simp
          refine hK (upd U 17 (.slice (some ⟨g, o, none⟩) n cap)) _ _ ?_ ?_
          · rw [HA.out]; kernel_rfl
          · exact ⟨fb, fk, fs, oR, oS, f0, (fun _ => rfl), f2, f3, f4, f5, f6, f7, f8, f9, f11, s10, m9⟩
        refine StepsU.run rfl ?_ ?_
        · intro L U wr hF hlk haf A K hA hK
          have HA : Hid (A = putAll _ _ U) := hA
          clear hA
          simp [Aft, Region.binds] at haf
          obtain ⟨fb, fk, fs, oR, oS, f0, f1, f2, f3, f4, f5, f6, f7, f8, f9, f11, s10, m9⟩ := hF
          have e5 : A.tmps[5]? = some (.int .i64 k) := by rw [HA.out]; kernel_rfl
          refine ⟨?_⟩
          go_simp
          refine hK (upd U 18 (.int .i64 k)) _ _ ?_ ?_
          · rw [HA.out]; kernel_rfl
          · exact ⟨fb, fk, fs, oR, oS, f0, f1, (fun _ => rfl), f3, f4, f5, f6, f7, f8, f9, f11, s10, m9⟩
        refine StepsU.run rfl ?_ ?_
        · intro L U wr hF hlk haf A K hA hK
          have HA : Hid (A = putAll _ _ U) := hA
          clear hA
          simp [Aft, Region.binds] at haf
          obtain ⟨fb, fk, fs, oR, oS, f0, f1, f2, f3, f4, f5, f6, f7, f8, f9, f11, s10, m9⟩ := hF
          have g1 := f1 (by simp [haf])
          have g2 := f2 (by simp [haf])
          have e17 := rd HA.out 17 (by kernel_rfl) g1
          have e18 := rd HA.out 18 (by kernel_rfl) g2
          refine ⟨?_⟩
          go_simp
          refine hK (upd U 19 (.pointer (some ⟨g, o + k * 4, none⟩))) _ _ ?_ ?_
          · rw [HA.out]; kernel_rfl
          · exact ⟨fb, fk, fs, oR, oS, f0, f1, f2, (fun _ => rfl), f4, f5, f6, f7, f8, f9, f11, s10, m9⟩
        refine StepsU.run rfl ?_ ?_
        · intro L U wr hF hlk haf A K hA hK
          have HA : Hid (A = putAll _ _ U) := hA
          clear hA
          simp [Aft, Region.binds] at haf
          obtain ⟨fb, fk, fs, oR, oS, f0, f1, f2, f3, f4, f5, f6, f7, f8, f9, f11, s10, m9⟩ := hF
          have g3 := f3 (by simp [haf])
          obtain ⟨c0, c1, c2, c3⟩ := HEL.out wr fb
          have e19 := rd HA.out 19 (by kernel_rfl) g3
          refine ⟨?_⟩
          go_simp
          refine hK (upd U 20 (.agg #[.bool xX, .slice aX nX cX, .bool yX, .slice eX mX fX])) _ _ ?_ ?_
          · rw [HA.out]; kernel_rfl
          · exact ⟨fb, fk, fs, oR, oS, f0, f1, f2, f3, (fun _ => rfl), f5, f6, f7, f8, f9, f11, s10, m9⟩
        refine StepsU.run rfl ?_ ?_
        · intro L U wr hF hlk haf A K hA hK
          have HA : Hid (A = putAll _ _ U) := hA
          clear hA
          simp [Aft, Region.binds] at haf
          obtain ⟨fb, fk, fs, oR, oS, f0, f1, f2, f3, f4, f5, f6, f7, f8, f9, f11, s10, m9⟩ := hF
          have g0 := f0 (by simp [haf])
          have e16 := rd HA.out 16 (by kernel_rfl) g0
          have g4 := f4 (by simp [haf])
          have e20 := rd HA.out 20 (by kernel_rfl) g4
          refine ⟨?_⟩
          go_simp
          refine (rqadd_any _ _ p x _ (hS.val.keepI fk) (hX.below fb).val).mono ?_
          rintro e w1 ⟨z1, z2, z3, z4, z5, z6, z7, z8, rfl, hr, hb⟩
          go_simp
          refine hK (upd U 21 (.tuple #[.agg #[.bool z1, .slice z2 z3 z4, .bool z5, .slice z6 z7 z8], .int .i64 (addC p x)])) _ _ ?_ ?_
          · rw [HA.out]; kernel_rfl
          · exact ⟨(fb.step hb (Nat.le_refl _)), (fk.trans (KeepI.below hb)), (Nat.le_trans fs hb.size), (oR.stay hb), (oS.stay hb), (mv mo_is (KeepI.below hb) f0), (mv mo_is (KeepI.below hb) f1), (mv mo_is (KeepI.below hb) f2), (mv mo_is (KeepI.below hb) f3), (mv mo_is (KeepI.below hb) f4), (fun _ => ⟨_, _, rfl, hr.val, rfl⟩), (mv (mo_t2 mo_rrt mo_is) (KeepI.below hb) f6), (mv mo_rrt (KeepI.below hb) f7), (mv mo_is (KeepI.below hb) f8), (fun h => (f9 h).below hb), (mv mo_is (KeepI.below hb) f11), s10, m9⟩
        refine StepsU.run rfl ?_ ?_
        · intro L U wr hF hlk haf A K hA hK
          have HA : Hid (A = putAll _ _ U) := hA
          clear hA
          simp [Aft, Region.binds] at haf
          obtain ⟨fb, fk, fs, oR, oS, f0, f1, f2, f3, f4, f5, f6, f7, f8, f9, f11, s10, m9⟩ := hF
          have g5 := f5 (by simp [haf])
          have e21 := rd HA.out 21 (by kernel_rfl) rfl
          refine ⟨?_⟩
          go_simp
          refine hK (upd U 15 (U 21)) _ _ ?_ ?_
          · rw [HA.out]; kernel_rfl
          · exact ⟨fb, fk, fs, oR, oS, f0, f1, f2, f3, f4, f5, (fun _ => g5), f7, f8, f9, f11, s10, m9⟩
        refine StepsU.run rfl ?_ ?_
        · intro L U wr hF hlk haf A K hA hK
          have HA : Hid (A = putAll _ _ U) := hA
          clear hA
          simp [Aft, Region.binds] at haf
          obtain ⟨fb, fk, fs, oR, oS, f0, f1, f2, f3, f4, f5, f6, f7, f8, f9, f11, s10, m9⟩ := hF
          have g6 := f6 (by simp [haf])
          obtain ⟨t0, t1, hT, k0, k1⟩ := g6
          have e15 := rd HA.out 15 (by kernel_rfl) hT
          refine ⟨?_⟩
          go_simp
          have hs10 : L 10 = false := by cases h : L 10 with | false => rfl | true => rw [s10 h] at hlk; cases hlk
          refine hK (upd U 22 t0) _ _ ?_ ?_
          · rw [HA.out]; kernel_rfl
          · exact ⟨fb, fk, fs, oR, oS, f0, f1, f2, f3, f4, f5, f6, (fun _ => k0), f8, (fun h => flip_v (P := fun v => NEW _ _ _ _ v) hs10 (f9 h)), f11, (fun _ => rfl), m9⟩
        refine StepsU.run rfl ?_ ?_
        · intro L U wr hF hlk haf A K hA hK
          have HA : Hid (A = putAll _ _ U) := hA
          clear hA
          simp [Aft, Region.binds] at haf
          obtain ⟨fb, fk, fs, oR, oS, f0, f1, f2, f3, f4, f5, f6, f7, f8, f9, f11, s10, m9⟩ := hF
          have g6 := f6 (by simp [haf])
          obtain ⟨t0, t1, hT, k0, k1⟩ := g6
          have e15 := rd HA.out 15 (by kernel_rfl) hT
          refine ⟨?_⟩
          go_simp
          refine hK (upd U 23 t1) _ _ ?_ ?_
          · rw [HA.out]; kernel_rfl
          · exact ⟨fb, fk, fs, oR, oS, f0, f1, f2, f3, f4, f5, f6, f7, (fun _ => k1), f9, f11, s10, m9⟩
        refine StepsU.run rfl ?_ ?_
        · intro L U wr hF hlk haf A K hA hK
          have HA : Hid (A = putAll _ _ U) := hA
          clear hA
          simp [Aft, Region.binds] at haf
          obtain ⟨fb, fk, fs, oR, oS, f0, f1, f2, f3, f4, f5, f6, f7, f8, f9, f11, s10, m9⟩ := hF
          have hst : L 10 = false := by cases h : L 10 with | false => rfl | true => rw [m9 h] at hlk; cases hlk
          refine ⟨?_⟩
          go_simp
          have hb := below_new wr (.cells #[.bool false, .slice none 0 0, .bool false, .slice none 0 0] 35 (0, 0))
          refine hK (upd U 6 (.pointer (some ⟨wr.heap.size, 0, none⟩))) _ _ ?_ ?_
          · rw [HA.out]; kernel_rfl
          · exact ⟨(fb.step hb (Nat.le_refl _)), (fk.trans (KeepI.below hb)), (Nat.le_trans fs hb.size), (oR.stay hb), (oS.stay hb), (mv mo_is (KeepI.below hb) f0), (mv mo_is (KeepI.below hb) f1), (mv mo_is (KeepI.below hb) f2), (mv mo_is (KeepI.below hb) f3), (mv mo_is (KeepI.below hb) f4), (mv (mo_t2 mo_rrt mo_is) (KeepI.below hb) f5), (mv (mo_t2 mo_rrt mo_is) (KeepI.below hb) f6), (mv mo_rrt (KeepI.below hb) f7), (mv mo_is (KeepI.below hb) f8), (fun _ => new_zero hst (NEW.mk fs (noI4 _ _ _ _ _ _ _ _))), (mv mo_is (KeepI.below hb) f11), s10, (fun _ => rfl)⟩
        refine StepsU.run rfl ?_ ?_
        · intro L U wr hF hlk haf A K hA hK
          have HA : Hid (A = putAll _ _ U) := hA
          clear hA
          simp [Aft, Region.binds] at haf
          obtain ⟨fb, fk, fs, oR, oS, f0, f1, f2, f3, f4, f5, f6, f7, f8, f9, f11, s10, m9⟩ := hF
          have g7 := f7 (by simp [haf])
          obtain ⟨px, pa, pn, pc, qx, qa, qn, qc, hsrc, -⟩ := g7
          have e22 := rd HA.out 22 (by kernel_rfl) hsrc
          have gA := f9 (by simp [haf])
          simp only [hlk, cond_false] at gA
          obtain ⟨b, cs, hp, hBb, hcs, hblk, -⟩ := gA
          injection hcs with hcs
          subst hcs
          have e6 := rd HA.out 6 (by kernel_rfl) hp
          obtain ⟨c0, c1, c2, c3⟩ := hblk.four
          obtain ⟨q0, q1, q2, q3⟩ := hblk.frozen4
          refine ⟨?_⟩
          go_simp
          have hk := keepI_four (noI_slice _ _ _) (noI_slice _ _ _) hblk px pa pn pc qx qa qn qc
          refine hK U _ _ ?_ ?_
          · exact HA.out
          · exact ⟨(below_store4 fb (Nat.le_trans hbw.size hBb) _ _ _ _), (fk.trans hk), (by simpa using fs), (oR.other4 (Nat.ne_of_gt (Nat.lt_of_lt_of_le ltR hBb)) _ _ _ _), (oS.other4 (Nat.ne_of_gt (Nat.lt_of_lt_of_le ltS hBb)) _ _ _ _), (mv mo_is hk f0), (mv mo_is hk f1), (mv mo_is hk f2), (mv mo_is hk f3), (mv mo_is hk f4), (mv (mo_t2 mo_rrt mo_is) hk f5), (mv (mo_t2 mo_rrt mo_is) hk f6), (mv mo_rrt hk f7), (mv mo_is hk f8), (fun _ => stored_new hp hsrc (NEW.over4 hBb hblk px pa pn pc qx qa qn qc)), (mv mo_is hk f11), (fun _ => by simp [haf]), (fun _ => by simp [haf])⟩
        refine StepsU.run rfl ?_ StepsU.nil
        · intro L U wr hF hlk haf A K hA hK
          have HA : Hid (A = putAll _ _ U) := hA
          clear hA
          simp [Aft, Region.binds] at haf
          obtain ⟨fb, fk, fs, oR, oS, f0, f1, f2, f3, f4, f5, f6, f7, f8, f9, f11, s10, m9⟩ := hF
          have g8 := f8 (by simp [haf])
          have e23 := rd HA.out 23 (by kernel_rfl) rfl
          refine ⟨?_⟩
          go_simp
          refine hK (upd U 7 (U 23)) _ _ ?_ ?_
          · rw [HA.out]; kernel_rfl
          · exact ⟨fb, fk, fs, oR, oS, f0, f1, f2, f3, f4, f5, f6, f7, f8, f9, (fun _ => g8), s10, m9⟩
      intro L U6 V6 hall hF
      have hbw0 := hbw
      clear hbw
      obtain ⟨hbw, fk, fs, oR, oS, f0, f1, f2, f3, f4, f5, f6, f7, f8, f9, f11, s10, m9⟩ := hF
      clear s10 m9
      have g0 := f0 (hall 0 (by decide))
      have g1 := f1 (hall 1 (by decide))
      have g2 := f2 (hall 2 (by decide))
      have g3 := f3 (hall 3 (by decide))
      have g4 := f4 (hall 4 (by decide))
      have g5 := f5 (hall 5 (by decide))
      have g6 := f6 (hall 6 (by decide))
      have g7 := f7 (hall 7 (by decide))
      have g8 := f8 (hall 8 (by decide))
      have g9 := f9 (hall 9 (by decide))
      rw [hall 10 (by decide), cond_true] at g9
      have g11 := f11 (hall 11 (by decide))
      clear hall f0 f1 f2 f3 f4 f5 f6 f7 f8 f9 f11
      replace hS := hS.keepI fk
      obtain ⟨bP, csP, hpP, lbP, hcsP, oP, -⟩ := g9
      obtain ⟨xP, aP, nP, cP, yP, eP, mP, fP, hvP, hP⟩ := g7
      rw [hvP] at hcsP
      injection hcsP with hcsP
      subst hcsP
      have ltP := oP.lt
      have neRP : w.heap.size ≠ bP := Nat.ne_of_lt (Nat.lt_of_lt_of_le ltR lbP)
      have neSP : w.heap.size + 1 ≠ bP := Nat.ne_of_lt (Nat.lt_of_lt_of_le ltS lbP)
      have lwP : w.heap.size ≤ bP := Nat.le_trans hbw0.size lbP
      clear lbP
      replace ltR := Nat.lt_of_lt_of_le ltR fs
      replace ltS := Nat.lt_of_lt_of_le ltS fs
      clear g0
      clear g1
      clear g2
      clear g3
      clear g4
      clear g5
      clear g6
      clear g8
      clear hbw0
      simp only [setM_some, setM_none, setM_nil]
      rw [hpP]
      clear hpP hvP
      clear fk fs
      have eC : U6 7 = _ := g11
      clear g11
      rw [eC]
      clear eC
      rcases addC_or p x with hc0 | hc0
      · have HC : Hid (addC p x = 0) := hc0
        obtain ⟨Pc0, Pc1, Pc2, Pc3⟩ := oP.four
        obtain ⟨Pq0, Pq1, Pq2, Pq3⟩ := oP.frozen4
        obtain ⟨Sc0, Sc1, Sc2, Sc3⟩ := oS.four
        obtain ⟨Sq0, Sq1, Sq2, Sq3⟩ := oS.frozen4
        have kS := keepI_four (noI_slice _ _ _) (noI_slice _ _ _) oS xP aP nP cP yP eP mP fP
        have oS3 := oS.over4 (.bool xP) (.slice aP nP cP) (.bool yP) (.slice eP mP fP)
        have oR3 := oR.other4 (show w.heap.size + 1 ≠ w.heap.size by omega) (.bool xP) (.slice aP nP cP) (.bool yP) (.slice eP mP fP)
        have hB3 := below_store4 hbw (show w.heap.size ≤ w.heap.size + 1 by omega) (.bool xP) (.slice aP nP cP) (.bool yP) (.slice eP mP fP)
        have hP3 := hP.keepI kS
        go_wp2
        go_roundw
        case rel =>
          refine ⟨k + 1, addZ p x, xP, aP, nP, cP, yP, eP, mP, fP, by omega, by go_num, ?_, oR3, oS3, hP3, hB3⟩
          show _ = _
          rw [HS.out, HST.out, ← HX.out, if_pos HC.out]
        case measure => simp [intOf]; omega
      · have HC : Hid (addC p x = 11) := hc0
        obtain ⟨Rc0, Rc1, Rc2, Rc3⟩ := oR.four
        obtain ⟨Rq0, Rq1, Rq2, Rq3⟩ := oR.frozen4
        go_wp2
        refine bodyPost_ret (v := (.tuple #[.agg #[.bool false, .slice none 0 0, .bool false, .slice none 0 0], .int .i64 11])) (by simp [results, Try.results39, go_sem, Rc0, Rc1, Rc2, Rc3, hc0]) rfl ?_
        have h5 : qsums 0 zs = none := by rw [HS.out, HST.out, ← HX.out, if_neg (by rw [HC.out]; decide)]
        refine ⟨false, none, 0, 0, false, none, 0, 0, ?_, ?_, ?_⟩
        · unfold qsumE; rw [h5]; rfl
        · unfold qsumZ; rw [h5]; exact QRP.zero
        · first | exact hbw | exact below_store4 hbw (show w.heap.size ≤ w.heap.size by omega) _ _ _ _
    · obtain ⟨r0, r1, r2, r3⟩ := oR.four
      obtain ⟨rq0, rq1, rq2, rq3⟩ := oR.frozen4
      obtain ⟨s0, s1, s2, s3⟩ := oS.four
      have HD : Hid (zs.drop k = []) := List.drop_eq_nil_of_le (by rw [HN.out]; omega)
      go_wp2
      refine bodyPost_ret (v := .tuple #[.agg #[.bool xS, .slice aS nS cS, .bool yS, .slice eS mS fS], .int .i64 0]) (by simp [results, Try.results39, go_sem, r0, r1, r2, r3]) rfl ?_
      have h5 : qsums 0 zs = some p := by rw [HS.out, HD.out]; rfl
      refine ⟨xS, aS, nS, cS, yS, eS, mS, fS, ?_, ?_, below_store4 hbw (show w.heap.size ≤ w.heap.size by omega) _ _ _ _⟩
      · unfold qsumE; rw [h5]; rfl
      · unfold qsumZ; rw [h5]; exact hS.keepI (keepI_four (noI_slice _ _ _) (noI_slice _ _ _) oR _ _ _ _ _ _ _ _)
end Go.Proofs.Ytidpbdhhbeaijaa

