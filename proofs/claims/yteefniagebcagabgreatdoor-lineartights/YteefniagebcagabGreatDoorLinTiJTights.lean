/- The walk of suretylaw03.LinearTights; they prove no statement of the seat. -/
import Derived.Test.YteefniagebcagabGreatDoorLinZJTights
import Derived.Test.YteefniagebcagabGreatDoorRegBJTights
namespace Go.Proofs.YteefniagebcagabGreatDoor
open Go.RowKit
set_option linter.unusedVariables false

theorem tight_h (v : Value) (a : List (Nat × Int)) (m : Int) (w : World) (hf : Fine a) (hX : RowR w v (tgP a) (tgM a m)) :
    Calls Tryz.prog 27 #[v] w fun e w' => ∃ u, e = .returned u ∧ RowR w' u (tgP a) (tgM a m) ∧ Below w.heap.size w w' := by
  have h := tight_any v (tgP a) (tgM a m) w hX
  rw [tg_tg hf, tgM_tg hf] at h
  exact h

set_option maxRecDepth 20000 in
set_option maxHeartbeats 16000000 in
theorem linearTights_any (aX : Option Addr) (nX cX : Nat) (S : ByteArray) (ms : List (Int × ByteArray)) (w : World) (ht : Tab w) (hm : MArr w aX ms) (hl : ms.length = nX) :
    Calls Tryz.prog 6 #[.agg #[.slice aX nX cX, .string S]] w fun e w' => e = .returned (.bool true) ∧ Below w.heap.size w w' := by
  have oX := (Blk.new w 50 #[.slice aX nX cX, .string S])
  have hbw : Below w.heap.size w (w.alloc (.cells #[.slice aX nX cX, .string S] 50 (0, 0))) := by go_grown
  have ltX := oX.lt
  have lwX : w.heap.size ≤ w.heap.size := by omega
  have HTB : Hid (Tab w) := ht
  have HM : Hid (MArr w aX ms) := hm
  have HLN : Hid (ms.length = nX) := hl
  clear ht hm hl
  go_enter Tryz.func6, Tryz.ntmps6
  go_wp2_with fail
  refine (awake3_any _ (HTB.out.below hbw)).mono ?_
  rintro e w1 ⟨rfl, hb⟩
  replace oX := oX.stay hb
  replace ltX := oX.lt
  replace hbw := hbw.step hb (Nat.le_refl _)
  clear hb
  obtain ⟨Xc0, Xc1, Xk0, Xk1⟩ := oX.two
  go_wp2_with fail
  refine (row_any aX nX cX S ms _ (HM.out.below hbw) HLN.out).mono ?_
  rintro e w2 ⟨aA, nA, cA, rfl, hnA, hMA, hb⟩
  clear Xc0 Xc1 Xk0 Xk1
  replace oX := oX.stay hb
  replace ltX := oX.lt
  replace hbw := hbw.step hb (Nat.le_refl _)
  clear hb
  go_wp2_with fail
  refine (lread_any aA nA cA (cutS S) (rowM ms) _ hMA hnA (fun h => rowM_size h) (by have := cutS_size S; omega)).mono ?_
  rintro e w3 ⟨_, rfl, ⟨pR, qR, rR, xR, aR, nR, cR, yR, dR, lR, fR, rfl, hR, hRm⟩, hb⟩
  replace oX := oX.stay hb
  replace ltX := oX.lt
  replace hMA := hMA.below hb
  replace hbw := hbw.step hb (Nat.le_refl _)
  clear hb
  generalize rdP (rowM ms) (cutS S) = ps at hR
  generalize rdM (rowM ms) (cutS S) = m0 at hRm
  generalize rdE (rowM ms) (cutS S) = co
  clear hMA
  have hn := below_new w3 (.cells #[.slice pR qR rR, .bool xR, .slice aR nR cR, .bool yR, .slice dR lR fR] 42 (0, 0))
  have oR := Blk.new w3 42 #[.slice pR qR rR, .bool xR, .slice aR nR cR, .bool yR, .slice dR lR fR]
  have neXR : w.heap.size ≠ w3.heap.size := by have := ltX; (try simp at this); omega
  have lwR : w.heap.size ≤ w3.heap.size := by have := hbw.size; (try simp at this); omega
  replace oX := oX.stay hn
  replace ltX := oX.lt
  replace hR := hR.below hn
  replace hRm := hRm.below hn
  replace hbw := hbw.step hn (Nat.le_refl _)
  clear hn
  have ltR := oR.lt
  by_cases hc : co = 0
  · subst hc
    have HF : Hid (Fine ps) := hR.fine
    obtain ⟨Rc0, Rc1, Rc2, Rc3, Rc4⟩ := oR.five
    obtain ⟨Rk0, Rk1, Rk2, Rk3, Rk4⟩ := oR.frozen5
    go_wp2_with fail
    refine (tight_any _ ps m0 _ ⟨_, _, _, _, _, _, _, _, _, _, _, rfl, hR, hRm⟩).mono ?_
    rintro e w4 ⟨_, rfl, ⟨pG, qG, rG, xG, aG, nG, cG, yG, dG, lG, fG, rfl, hG, hGm⟩, hb⟩
    clear Rc0 Rc1 Rc2 Rc3 Rc4 Rk0 Rk1 Rk2 Rk3 Rk4
    replace oX := oX.stay hb
    replace ltX := oX.lt
    replace oR := oR.stay hb
    replace ltR := oR.lt
    replace hR := hR.below hb
    replace hRm := hRm.below hb
    replace hbw := hbw.step hb (Nat.le_refl _)
    clear hb
    have hn := below_new w4 (.cells #[.slice pG qG rG, .bool xG, .slice aG nG cG, .bool yG, .slice dG lG fG] 42 (0, 0))
    have oG := Blk.new w4 42 #[.slice pG qG rG, .bool xG, .slice aG nG cG, .bool yG, .slice dG lG fG]
    have neXG : w.heap.size ≠ w4.heap.size := by have := ltX; (try simp at this); omega
    have neRG : w3.heap.size ≠ w4.heap.size := by have := ltR; (try simp at this); omega
    have lwG : w.heap.size ≤ w4.heap.size := by have := hbw.size; (try simp at this); omega
    replace oX := oX.stay hn
    replace ltX := oX.lt
    replace oR := oR.stay hn
    replace ltR := oR.lt
    replace hR := hR.below hn
    replace hRm := hRm.below hn
    replace hG := hG.below hn
    replace hGm := hGm.below hn
    replace hbw := hbw.step hn (Nat.le_refl _)
    clear hn
    have ltG := oG.lt
    obtain ⟨Gc0, Gc1, Gc2, Gc3, Gc4⟩ := oG.five
    obtain ⟨Gk0, Gk1, Gk2, Gk3, Gk4⟩ := oG.frozen5
    go_wp2_with fail
    refine (common_any _ (tgP ps) 0 _ hG.val).mono ?_
    rintro e w5 ⟨xC, aC, nC, cC, rfl, hC, hb⟩
    clear Gc0 Gc1 Gc2 Gc3 Gc4 Gk0 Gk1 Gk2 Gk3 Gk4
    replace oX := oX.stay hb
    replace ltX := oX.lt
    replace oR := oR.stay hb
    replace ltR := oR.lt
    replace oG := oG.stay hb
    replace ltG := oG.lt
    replace hR := hR.below hb
    replace hRm := hRm.below hb
    replace hG := hG.below hb
    replace hGm := hGm.below hb
    replace hbw := hbw.step hb (Nat.le_refl _)
    clear hb
    by_cases hps : ps = []
    · have HPS : Hid (ps = []) := hps
      have HC : Hid (nT (cm (tgP ps)) = ⟨#[48]⟩) := by show _ = _; rw [hps]; exact nT_pos 0 (by decide)
      clear hps
      go_wp2_with fail
      refine (text_l _ _ ⟨#[48]⟩ _ hC HC.out).mono ?_
      rintro e w6 ⟨rfl, hb⟩
      replace oX := oX.stay hb
      replace ltX := oX.lt
      replace oR := oR.stay hb
      replace ltR := oR.lt
      replace oG := oG.stay hb
      replace ltG := oG.lt
      replace hR := hR.below hb
      replace hRm := hRm.below hb
      replace hG := hG.below hb
      replace hGm := hGm.below hb
      replace hC := hC.below hb
      replace hbw := hbw.step hb (Nat.le_refl _)
      clear hb
      have hpn : decide (ps = []) = true := decide_eq_true HPS.out
      go_wp2
      clear ltX oX
      have hbW := hbw
      refine wp_region_M (by kernel_rfl) [2, 23, 24, 25, 26, 27, 28, 29, 30, 31, 32, 33, 34, 35, 36, 37, 38, 39, 40, 41] [none, none, some 2, none, none, none, none, none, none, none, none, none, none, none, none, none, none, none, none, none, none, none, none, some 23, some 24, some 25, some 26, some 27, some 28, some 29, some 30, some 31, some 32, some 33, some 34, some 35, some 36, some 37, some 38, some 39, some 40, some 41] (fun U => by kernel_rfl) (fun L U wr => Below w.heap.size w wr ∧ KeepB w6 wr ∧ w6.heap.size ≤ wr.heap.size ∧ Blk 42 wr (w3.heap.size) #[.slice pR qR rR, .bool xR, .slice aR nR cR, .bool yR, .slice dR lR fR] ∧ Blk 42 wr (w4.heap.size) #[.slice pG qG rG, .bool xG, .slice aG nG cG, .bool yG, .slice dG lG fG] ∧ (L 0 = true → IS (.string ⟨#[48]⟩) (U 23) wr) ∧ (L 1 = true → IS (.bool false) (U 24) wr) ∧ (L 2 = true → IS (.bool false) (U 25) wr) ∧ (L 3 = true → IS (.string ⟨#[48]⟩) (U 26) wr) ∧ (L 4 = true → IS (.bool true) (U 27) wr) ∧ (L 5 = true → IS (.bool true) (U 28) wr) ∧ (L 6 = true → IS (.pointer (some ⟨w3.heap.size, 0, none⟩)) (U 29) wr) ∧ (L 7 = true → IS (.agg #[.slice pR qR rR, .bool xR, .slice aR nR cR]) (U 30) wr) ∧ (L 8 = true → IS (.bool true) (U 31) wr) ∧ (L 9 = true → IS (.bool true) (U 32) wr) ∧ (L 10 = true → IS (.bool true) (U 33) wr) ∧ (L 11 = true → IS (.bool true) (U 34) wr) ∧ (L 12 = true → IS (.agg #[.slice pG qG rG, .bool xG, .slice aG nG cG, .bool yG, .slice dG lG fG]) (U 35) wr) ∧ (L 13 = true → ROW (tgP ps) (tgM ps m0) (U 36) wr) ∧ (L 14 = true → PLN (tgP ps) (tgM ps m0) (U 37) wr) ∧ (L 15 = true → IS (.agg #[.slice pG qG rG, .bool xG, .slice aG nG cG, .bool yG, .slice dG lG fG]) (U 38) wr) ∧ (L 16 = true → PLN (tgP ps) (tgM ps m0) (U 39) wr) ∧ (L 17 = true → IS (.bool true) (U 40) wr) ∧ (L 18 = true → IS (.bool true) (U 41) wr) ∧ (L 19 = true → IS (.bool true) (U 2) wr)) (by kernel_rfl) ?_ ?_ ?_
      · exact fun U => ⟨hbw.drew, KeepB.below (Below.refl _ _).drew, Nat.le_refl _, oR.drew, oG.drew, (fun h => by cases h), (fun h => by cases h), (fun h => by cases h), (fun h => by cases h), (fun h => by cases h), (fun h => by cases h), (fun h => by cases h), (fun h => by cases h), (fun h => by cases h), (fun h => by cases h), (fun h => by cases h), (fun h => by cases h), (fun h => by cases h), (fun h => by cases h), (fun h => by cases h), (fun h => by cases h), (fun h => by cases h), (fun h => by cases h), (fun h => by cases h), (fun h => by cases h)⟩
      · refine StepsU.run rfl ?_ ?_
        · intro L U wr hF hlk haf A K hA hK
          have HA : Hid (A = putAll _ _ U) := hA
          clear hA
          simp [Aft, Region.binds] at haf
          obtain ⟨fb, fk, fs, oR, oG, f0, f1, f2, f3, f4, f5, f6, f7, f8, f9, f10, f11, f12, f13, f14, f15, f16, f17, f18, f19⟩ := hF
          have e6 : A.tmps[6]? = some (.string ⟨#[48]⟩) := by rw [HA.out]; kernel_rfl
          refine ⟨?_⟩
          go_simp
          refine hK (upd U 23 (.string ⟨#[48]⟩)) _ _ ?_ ?_
          · rw [HA.out]; kernel_rfl
          · exact ⟨fb, fk, fs, oR, oG, (fun _ => rfl), f1, f2, f3, f4, f5, f6, f7, f8, f9, f10, f11, f12, f13, f14, f15, f16, f17, f18, f19⟩
        refine StepsU.run rfl ?_ ?_
        · intro L U wr hF hlk haf A K hA hK
          have HA : Hid (A = putAll _ _ U) := hA
          clear hA
          simp [Aft, Region.binds] at haf
          obtain ⟨fb, fk, fs, oR, oG, f0, f1, f2, f3, f4, f5, f6, f7, f8, f9, f10, f11, f12, f13, f14, f15, f16, f17, f18, f19⟩ := hF
          have g0 := f0 (by simp [haf])
          have e23 := rd HA.out 23 (by kernel_rfl) g0
          refine ⟨?_⟩
          go_simp
          refine hK (upd U 24 (.bool false)) _ _ ?_ ?_
          · rw [HA.out]; kernel_rfl
          · exact ⟨fb, fk, fs, oR, oG, f0, (fun _ => rfl), f2, f3, f4, f5, f6, f7, f8, f9, f10, f11, f12, f13, f14, f15, f16, f17, f18, f19⟩
        refine StepsU.run rfl ?_ ?_
        · intro L U wr hF hlk haf A K hA hK
          have HA : Hid (A = putAll _ _ U) := hA
          clear hA
          simp [Aft, Region.binds] at haf
          obtain ⟨fb, fk, fs, oR, oG, f0, f1, f2, f3, f4, f5, f6, f7, f8, f9, f10, f11, f12, f13, f14, f15, f16, f17, f18, f19⟩ := hF
          have g1 := f1 (by simp [haf])
          have e24 := rd HA.out 24 (by kernel_rfl) rfl
          refine ⟨?_⟩
          go_simp
          refine hK (upd U 25 (U 24)) _ _ ?_ ?_
          · rw [HA.out]; kernel_rfl
          · exact ⟨fb, fk, fs, oR, oG, f0, f1, (fun _ => g1), f3, f4, f5, f6, f7, f8, f9, f10, f11, f12, f13, f14, f15, f16, f17, f18, f19⟩
        refine StepsU.cond ?_ ?_
        · intro L U wr hF hlk haf A K hA hK
          have HA : Hid (A = putAll _ _ U) := hA
          clear hA
          simp [Aft, Region.binds] at haf
          obtain ⟨fb, fk, fs, oR, oG, f0, f1, f2, f3, f4, f5, f6, f7, f8, f9, f10, f11, f12, f13, f14, f15, f16, f17, f18, f19⟩ := hF
          have gg := f2 (by simp [haf])
          have ee := rd HA.out 25 (by kernel_rfl) gg
          refine ⟨?_⟩
          rw [if_pos (by simp [Region.wanted, yielded, ee])]
          refine Gate.out ?_
          clear gg ee
          have e6 : A.tmps[6]? = some (.string ⟨#[48]⟩) := by rw [HA.out]; kernel_rfl
          refine ⟨?_⟩
          go_simp
          refine hK (upd U 26 (.string ⟨#[48]⟩)) _ _ ?_ ?_
          · rw [HA.out]; kernel_rfl
          · exact ⟨fb, fk, fs, oR, oG, f0, f1, f2, (fun _ => rfl), f4, f5, f6, f7, f8, f9, f10, f11, f12, f13, f14, f15, f16, f17, f18, f19⟩
        refine StepsU.cond ?_ ?_
        · intro L U wr hF hlk haf A K hA hK
          have HA : Hid (A = putAll _ _ U) := hA
          clear hA
          simp [Aft, Region.binds] at haf
          obtain ⟨fb, fk, fs, oR, oG, f0, f1, f2, f3, f4, f5, f6, f7, f8, f9, f10, f11, f12, f13, f14, f15, f16, f17, f18, f19⟩ := hF
          have gg := f2 (by simp [haf])
          have ee := rd HA.out 25 (by kernel_rfl) gg
          refine ⟨?_⟩
          rw [if_pos (by simp [Region.wanted, yielded, ee])]
          refine Gate.out ?_
          clear gg ee
          have g3 := f3 (by simp [haf])
          have e26 := rd HA.out 26 (by kernel_rfl) g3
          refine ⟨?_⟩
          go_simp
          refine hK (upd U 27 (.bool true)) _ _ ?_ ?_
          · rw [HA.out]; kernel_rfl
          · exact ⟨fb, fk, fs, oR, oG, f0, f1, f2, f3, (fun _ => rfl), f5, f6, f7, f8, f9, f10, f11, f12, f13, f14, f15, f16, f17, f18, f19⟩
        refine StepsU.cond ?_ ?_
        · intro L U wr hF hlk haf A K hA hK
          have HA : Hid (A = putAll _ _ U) := hA
          clear hA
          simp [Aft, Region.binds] at haf
          obtain ⟨fb, fk, fs, oR, oG, f0, f1, f2, f3, f4, f5, f6, f7, f8, f9, f10, f11, f12, f13, f14, f15, f16, f17, f18, f19⟩ := hF
          have gg := f2 (by simp [haf])
          have ee := rd HA.out 25 (by kernel_rfl) gg
          refine ⟨?_⟩
          rw [if_pos (by simp [Region.wanted, yielded, ee])]
          refine Gate.out ?_
          clear gg ee
          have g4 := f4 (by simp [haf])
          have e27 := rd HA.out 27 (by kernel_rfl) rfl
          refine ⟨?_⟩
          go_simp
          refine hK (upd U 28 (U 27)) _ _ ?_ ?_
          · rw [HA.out]; kernel_rfl
          · exact ⟨fb, fk, fs, oR, oG, f0, f1, f2, f3, f4, (fun _ => g4), f6, f7, f8, f9, f10, f11, f12, f13, f14, f15, f16, f17, f18, f19⟩
        refine StepsU.cond ?_ ?_
        · intro L U wr hF hlk haf A K hA hK
          have HA : Hid (A = putAll _ _ U) := hA
          clear hA
          simp [Aft, Region.binds] at haf
          obtain ⟨fb, fk, fs, oR, oG, f0, f1, f2, f3, f4, f5, f6, f7, f8, f9, f10, f11, f12, f13, f14, f15, f16, f17, f18, f19⟩ := hF
          have gg := f5 (by simp [haf])
          have ee := rd HA.out 28 (by kernel_rfl) gg
          refine ⟨?_⟩
          rw [if_pos (by simp [Region.wanted, yielded, ee])]
          refine Gate.out ?_
          clear gg ee
          have e3 : A.tmps[3]? = some (.pointer (some ⟨w3.heap.size, 0, none⟩)) := by rw [HA.out]; kernel_rfl
          refine ⟨?_⟩
          go_simp
          refine hK (upd U 29 (.pointer (some ⟨w3.heap.size, 0, none⟩))) _ _ ?_ ?_
          · rw [HA.out]; kernel_rfl
          · exact ⟨fb, fk, fs, oR, oG, f0, f1, f2, f3, f4, f5, (fun _ => rfl), f7, f8, f9, f10, f11, f12, f13, f14, f15, f16, f17, f18, f19⟩
        refine StepsU.cond ?_ ?_
        · intro L U wr hF hlk haf A K hA hK
          have HA : Hid (A = putAll _ _ U) := hA
          clear hA
          simp [Aft, Region.binds] at haf
          obtain ⟨fb, fk, fs, oR, oG, f0, f1, f2, f3, f4, f5, f6, f7, f8, f9, f10, f11, f12, f13, f14, f15, f16, f17, f18, f19⟩ := hF
          have gg := f5 (by simp [haf])
          have ee := rd HA.out 28 (by kernel_rfl) gg
          refine ⟨?_⟩
          rw [if_pos (by simp [Region.wanted, yielded, ee])]
          refine Gate.out ?_
          clear gg ee
          have g6 := f6 (by simp [haf])
          have e29 := rd HA.out 29 (by kernel_rfl) g6
          have c0 := oR.cell 0
          have c1 := oR.cell 1
          have c2 := oR.cell 2
          simp at c0
          simp at c1
          simp at c2
          refine ⟨?_⟩
          go_simp
          refine hK (upd U 30 (.agg #[.slice pR qR rR, .bool xR, .slice aR nR cR])) _ _ ?_ ?_
          · rw [HA.out]; kernel_rfl
          · exact ⟨fb, fk, fs, oR, oG, f0, f1, f2, f3, f4, f5, f6, (fun _ => rfl), f8, f9, f10, f11, f12, f13, f14, f15, f16, f17, f18, f19⟩
        refine StepsU.cond ?_ ?_
        · intro L U wr hF hlk haf A K hA hK
          have HA : Hid (A = putAll _ _ U) := hA
          clear hA
          simp [Aft, Region.binds] at haf
          obtain ⟨fb, fk, fs, oR, oG, f0, f1, f2, f3, f4, f5, f6, f7, f8, f9, f10, f11, f12, f13, f14, f15, f16, f17, f18, f19⟩ := hF
          have gg := f5 (by simp [haf])
          have ee := rd HA.out 28 (by kernel_rfl) gg
          refine ⟨?_⟩
          rw [if_pos (by simp [Region.wanted, yielded, ee])]
          refine Gate.out ?_
          clear gg ee
          have g7 := f7 (by simp [haf])
          have e30 := rd HA.out 30 (by kernel_rfl) g7
          refine ⟨?_⟩
          go_simp
          refine (isNum_any _ ps 0 _ (hR.below fk.b).val).mono ?_
          rintro e w1 ⟨rfl, hb⟩
          go_simp
          refine hK (upd U 31 (.bool true)) _ _ ?_ ?_
          · rw [HA.out]; kernel_rfl
          · exact ⟨(fb.step hb (Nat.le_refl _)), (fk.trans (KeepB.below hb)), (Nat.le_trans fs hb.size), (oR.stay hb), (oG.stay hb), (mvB mb_is (KeepB.below hb) f0), (mvB mb_is (KeepB.below hb) f1), (mvB mb_is (KeepB.below hb) f2), (mvB mb_is (KeepB.below hb) f3), (mvB mb_is (KeepB.below hb) f4), (mvB mb_is (KeepB.below hb) f5), (mvB mb_is (KeepB.below hb) f6), (mvB mb_is (KeepB.below hb) f7), (fun _ => rfl), (mvB mb_is (KeepB.below hb) f9), (mvB mb_is (KeepB.below hb) f10), (mvB mb_is (KeepB.below hb) f11), (mvB mb_is (KeepB.below hb) f12), (mvB mb_row (KeepB.below hb) f13), (mvB mb_pln (KeepB.below hb) f14), (mvB mb_is (KeepB.below hb) f15), (mvB mb_pln (KeepB.below hb) f16), (mvB mb_is (KeepB.below hb) f17), (mvB mb_is (KeepB.below hb) f18), (mvB mb_is (KeepB.below hb) f19)⟩
        refine StepsU.cond ?_ ?_
        · intro L U wr hF hlk haf A K hA hK
          have HA : Hid (A = putAll _ _ U) := hA
          clear hA
          simp [Aft, Region.binds] at haf
          obtain ⟨fb, fk, fs, oR, oG, f0, f1, f2, f3, f4, f5, f6, f7, f8, f9, f10, f11, f12, f13, f14, f15, f16, f17, f18, f19⟩ := hF
          have gg := f2 (by simp [haf])
          have ee := rd HA.out 25 (by kernel_rfl) gg
          refine ⟨?_⟩
          rw [if_pos (by simp [Region.wanted, yielded, ee])]
          refine Gate.out ?_
          clear gg ee
          have g5 := f5 (by simp [haf])
          have g8 := f8 (by simp [haf])
          have e28 := rd HA.out 28 (by kernel_rfl) g5
          have e31 := rd HA.out 31 (by kernel_rfl) g8
          refine ⟨?_⟩
          go_simp
          refine hK (upd U 32 (.bool true)) _ _ ?_ ?_
          · rw [HA.out]; kernel_rfl
          · exact ⟨fb, fk, fs, oR, oG, f0, f1, f2, f3, f4, f5, f6, f7, f8, (fun _ => rfl), f10, f11, f12, f13, f14, f15, f16, f17, f18, f19⟩
        refine StepsU.run rfl ?_ ?_
        · intro L U wr hF hlk haf A K hA hK
          have HA : Hid (A = putAll _ _ U) := hA
          clear hA
          simp [Aft, Region.binds] at haf
          obtain ⟨fb, fk, fs, oR, oG, f0, f1, f2, f3, f4, f5, f6, f7, f8, f9, f10, f11, f12, f13, f14, f15, f16, f17, f18, f19⟩ := hF
          have g2 := f2 (by simp [haf])
          have g9 := f9 (by simp [haf])
          have e25 := rd HA.out 25 (by kernel_rfl) g2
          have e32 := rd HA.out 32 (by kernel_rfl) g9
          refine ⟨?_⟩
          go_simp
          refine hK (upd U 33 (.bool true)) _ _ ?_ ?_
          · rw [HA.out]; kernel_rfl
          · exact ⟨fb, fk, fs, oR, oG, f0, f1, f2, f3, f4, f5, f6, f7, f8, f9, (fun _ => rfl), f11, f12, f13, f14, f15, f16, f17, f18, f19⟩
        refine StepsU.run rfl ?_ ?_
        · intro L U wr hF hlk haf A K hA hK
          have HA : Hid (A = putAll _ _ U) := hA
          clear hA
          simp [Aft, Region.binds] at haf
          obtain ⟨fb, fk, fs, oR, oG, f0, f1, f2, f3, f4, f5, f6, f7, f8, f9, f10, f11, f12, f13, f14, f15, f16, f17, f18, f19⟩ := hF
          have g10 := f10 (by simp [haf])
          have e33 := rd HA.out 33 (by kernel_rfl) rfl
          refine ⟨?_⟩
          go_simp
          refine hK (upd U 34 (U 33)) _ _ ?_ ?_
          · rw [HA.out]; kernel_rfl
          · exact ⟨fb, fk, fs, oR, oG, f0, f1, f2, f3, f4, f5, f6, f7, f8, f9, f10, (fun _ => g10), f12, f13, f14, f15, f16, f17, f18, f19⟩
        refine StepsU.cond ?_ ?_
        · intro L U wr hF hlk haf A K hA hK
          have HA : Hid (A = putAll _ _ U) := hA
          clear hA
          simp [Aft, Region.binds] at haf
          obtain ⟨fb, fk, fs, oR, oG, f0, f1, f2, f3, f4, f5, f6, f7, f8, f9, f10, f11, f12, f13, f14, f15, f16, f17, f18, f19⟩ := hF
          have gg := f11 (by simp [haf])
          have ee := rd HA.out 34 (by kernel_rfl) gg
          refine ⟨?_⟩
          rw [if_pos (by simp [Region.wanted, yielded, ee])]
          refine Gate.out ?_
          clear gg ee
          have e5 : A.tmps[5]? = some (.pointer (some ⟨w4.heap.size, 0, none⟩)) := by rw [HA.out]; kernel_rfl
          have c0 := oG.cell 0
          have c1 := oG.cell 1
          have c2 := oG.cell 2
          have c3 := oG.cell 3
          have c4 := oG.cell 4
          simp at c0
          simp at c1
          simp at c2
          simp at c3
          simp at c4
          refine ⟨?_⟩
          go_simp
          refine hK (upd U 35 (.agg #[.slice pG qG rG, .bool xG, .slice aG nG cG, .bool yG, .slice dG lG fG])) _ _ ?_ ?_
          · rw [HA.out]; kernel_rfl
          · exact ⟨fb, fk, fs, oR, oG, f0, f1, f2, f3, f4, f5, f6, f7, f8, f9, f10, f11, (fun _ => rfl), f13, f14, f15, f16, f17, f18, f19⟩
        refine StepsU.cond ?_ ?_
        · intro L U wr hF hlk haf A K hA hK
          have HA : Hid (A = putAll _ _ U) := hA
          clear hA
          simp [Aft, Region.binds] at haf
          obtain ⟨fb, fk, fs, oR, oG, f0, f1, f2, f3, f4, f5, f6, f7, f8, f9, f10, f11, f12, f13, f14, f15, f16, f17, f18, f19⟩ := hF
          have gg := f11 (by simp [haf])
          have ee := rd HA.out 34 (by kernel_rfl) gg
          refine ⟨?_⟩
          rw [if_pos (by simp [Region.wanted, yielded, ee])]
          refine Gate.out ?_
          clear gg ee
          have g12 := f12 (by simp [haf])
          have e35 := rd HA.out 35 (by kernel_rfl) g12
          refine ⟨?_⟩
          go_simp
          refine (tight_h _ ps m0 _ HF.out ⟨_, _, _, _, _, _, _, _, _, _, _, rfl, hG.below fk.b, hGm.below fk.b⟩).mono ?_
          rintro e w1 ⟨v, rfl, hr, hb⟩
          go_simp
          refine hK (upd U 36 v) _ _ ?_ ?_
          · rw [HA.out]; kernel_rfl
          · exact ⟨(fb.step hb (Nat.le_refl _)), (fk.trans (KeepB.below hb)), (Nat.le_trans fs hb.size), (oR.stay hb), (oG.stay hb), (mvB mb_is (KeepB.below hb) f0), (mvB mb_is (KeepB.below hb) f1), (mvB mb_is (KeepB.below hb) f2), (mvB mb_is (KeepB.below hb) f3), (mvB mb_is (KeepB.below hb) f4), (mvB mb_is (KeepB.below hb) f5), (mvB mb_is (KeepB.below hb) f6), (mvB mb_is (KeepB.below hb) f7), (mvB mb_is (KeepB.below hb) f8), (mvB mb_is (KeepB.below hb) f9), (mvB mb_is (KeepB.below hb) f10), (mvB mb_is (KeepB.below hb) f11), (mvB mb_is (KeepB.below hb) f12), (fun _ => hr), (mvB mb_pln (KeepB.below hb) f14), (mvB mb_is (KeepB.below hb) f15), (mvB mb_pln (KeepB.below hb) f16), (mvB mb_is (KeepB.below hb) f17), (mvB mb_is (KeepB.below hb) f18), (mvB mb_is (KeepB.below hb) f19)⟩
        refine StepsU.cond ?_ ?_
        · intro L U wr hF hlk haf A K hA hK
          have HA : Hid (A = putAll _ _ U) := hA
          clear hA
          simp [Aft, Region.binds] at haf
          obtain ⟨fb, fk, fs, oR, oG, f0, f1, f2, f3, f4, f5, f6, f7, f8, f9, f10, f11, f12, f13, f14, f15, f16, f17, f18, f19⟩ := hF
          have gg := f11 (by simp [haf])
          have ee := rd HA.out 34 (by kernel_rfl) gg
          refine ⟨?_⟩
          rw [if_pos (by simp [Region.wanted, yielded, ee])]
          refine Gate.out ?_
          clear gg ee
          have g13 := f13 (by simp [haf])
          have e36 := rd HA.out 36 (by kernel_rfl) rfl
          refine ⟨?_⟩
          go_simp
          refine (plain_h _ (tgP ps) (tgM ps m0) _ g13).mono ?_
          rintro e w1 ⟨v, rfl, hr, hb⟩
          go_simp
          refine hK (upd U 37 v) _ _ ?_ ?_
          · rw [HA.out]; kernel_rfl
          · exact ⟨(fb.step hb (Nat.le_refl _)), (fk.trans (KeepB.below hb)), (Nat.le_trans fs hb.size), (oR.stay hb), (oG.stay hb), (mvB mb_is (KeepB.below hb) f0), (mvB mb_is (KeepB.below hb) f1), (mvB mb_is (KeepB.below hb) f2), (mvB mb_is (KeepB.below hb) f3), (mvB mb_is (KeepB.below hb) f4), (mvB mb_is (KeepB.below hb) f5), (mvB mb_is (KeepB.below hb) f6), (mvB mb_is (KeepB.below hb) f7), (mvB mb_is (KeepB.below hb) f8), (mvB mb_is (KeepB.below hb) f9), (mvB mb_is (KeepB.below hb) f10), (mvB mb_is (KeepB.below hb) f11), (mvB mb_is (KeepB.below hb) f12), (mvB mb_row (KeepB.below hb) f13), (fun _ => hr), (mvB mb_is (KeepB.below hb) f15), (mvB mb_pln (KeepB.below hb) f16), (mvB mb_is (KeepB.below hb) f17), (mvB mb_is (KeepB.below hb) f18), (mvB mb_is (KeepB.below hb) f19)⟩
        refine StepsU.cond ?_ ?_
        · intro L U wr hF hlk haf A K hA hK
          have HA : Hid (A = putAll _ _ U) := hA
          clear hA
          simp [Aft, Region.binds] at haf
          obtain ⟨fb, fk, fs, oR, oG, f0, f1, f2, f3, f4, f5, f6, f7, f8, f9, f10, f11, f12, f13, f14, f15, f16, f17, f18, f19⟩ := hF
          have gg := f11 (by simp [haf])
          have ee := rd HA.out 34 (by kernel_rfl) gg
          refine ⟨?_⟩
          rw [if_pos (by simp [Region.wanted, yielded, ee])]
          refine Gate.out ?_
          clear gg ee
          have e5 : A.tmps[5]? = some (.pointer (some ⟨w4.heap.size, 0, none⟩)) := by rw [HA.out]; kernel_rfl
          have c0 := oG.cell 0
          have c1 := oG.cell 1
          have c2 := oG.cell 2
          have c3 := oG.cell 3
          have c4 := oG.cell 4
          simp at c0
          simp at c1
          simp at c2
          simp at c3
          simp at c4
          refine ⟨?_⟩
          go_simp
          refine hK (upd U 38 (.agg #[.slice pG qG rG, .bool xG, .slice aG nG cG, .bool yG, .slice dG lG fG])) _ _ ?_ ?_
          · rw [HA.out]; kernel_rfl
          · exact ⟨fb, fk, fs, oR, oG, f0, f1, f2, f3, f4, f5, f6, f7, f8, f9, f10, f11, f12, f13, f14, (fun _ => rfl), f16, f17, f18, f19⟩
        refine StepsU.cond ?_ ?_
        · intro L U wr hF hlk haf A K hA hK
          have HA : Hid (A = putAll _ _ U) := hA
          clear hA
          simp [Aft, Region.binds] at haf
          obtain ⟨fb, fk, fs, oR, oG, f0, f1, f2, f3, f4, f5, f6, f7, f8, f9, f10, f11, f12, f13, f14, f15, f16, f17, f18, f19⟩ := hF
          have gg := f11 (by simp [haf])
          have ee := rd HA.out 34 (by kernel_rfl) gg
          refine ⟨?_⟩
          rw [if_pos (by simp [Region.wanted, yielded, ee])]
          refine Gate.out ?_
          clear gg ee
          have g15 := f15 (by simp [haf])
          have e38 := rd HA.out 38 (by kernel_rfl) g15
          refine ⟨?_⟩
          go_simp
          refine (plain_h _ (tgP ps) (tgM ps m0) _ ⟨_, _, _, _, _, _, _, _, _, _, _, rfl, hG.below fk.b, hGm.below fk.b⟩).mono ?_
          rintro e w1 ⟨v, rfl, hr, hb⟩
          go_simp
          refine hK (upd U 39 v) _ _ ?_ ?_
          · rw [HA.out]; kernel_rfl
          · exact ⟨(fb.step hb (Nat.le_refl _)), (fk.trans (KeepB.below hb)), (Nat.le_trans fs hb.size), (oR.stay hb), (oG.stay hb), (mvB mb_is (KeepB.below hb) f0), (mvB mb_is (KeepB.below hb) f1), (mvB mb_is (KeepB.below hb) f2), (mvB mb_is (KeepB.below hb) f3), (mvB mb_is (KeepB.below hb) f4), (mvB mb_is (KeepB.below hb) f5), (mvB mb_is (KeepB.below hb) f6), (mvB mb_is (KeepB.below hb) f7), (mvB mb_is (KeepB.below hb) f8), (mvB mb_is (KeepB.below hb) f9), (mvB mb_is (KeepB.below hb) f10), (mvB mb_is (KeepB.below hb) f11), (mvB mb_is (KeepB.below hb) f12), (mvB mb_row (KeepB.below hb) f13), (mvB mb_pln (KeepB.below hb) f14), (mvB mb_is (KeepB.below hb) f15), (fun _ => hr), (mvB mb_is (KeepB.below hb) f17), (mvB mb_is (KeepB.below hb) f18), (mvB mb_is (KeepB.below hb) f19)⟩
        refine StepsU.cond ?_ ?_
        · intro L U wr hF hlk haf A K hA hK
          have HA : Hid (A = putAll _ _ U) := hA
          clear hA
          simp [Aft, Region.binds] at haf
          obtain ⟨fb, fk, fs, oR, oG, f0, f1, f2, f3, f4, f5, f6, f7, f8, f9, f10, f11, f12, f13, f14, f15, f16, f17, f18, f19⟩ := hF
          have gg := f11 (by simp [haf])
          have ee := rd HA.out 34 (by kernel_rfl) gg
          refine ⟨?_⟩
          rw [if_pos (by simp [Region.wanted, yielded, ee])]
          refine Gate.out ?_
          clear gg ee
          have g14 := f14 (by simp [haf])
          have e37 := rd HA.out 37 (by kernel_rfl) rfl
          have g16 := f16 (by simp [haf])
          have e39 := rd HA.out 39 (by kernel_rfl) rfl
          refine ⟨?_⟩
          go_simp
          refine (sameRow_h _ _ (tgP ps) (tgM ps m0) _ g14 g16 hG.fine).mono ?_
          rintro e w1 ⟨rfl, hb⟩
          go_simp
          refine hK (upd U 40 (.bool true)) _ _ ?_ ?_
          · rw [HA.out]; kernel_rfl
          · exact ⟨(fb.step hb (Nat.le_refl _)), (fk.trans (KeepB.below hb)), (Nat.le_trans fs hb.size), (oR.stay hb), (oG.stay hb), (mvB mb_is (KeepB.below hb) f0), (mvB mb_is (KeepB.below hb) f1), (mvB mb_is (KeepB.below hb) f2), (mvB mb_is (KeepB.below hb) f3), (mvB mb_is (KeepB.below hb) f4), (mvB mb_is (KeepB.below hb) f5), (mvB mb_is (KeepB.below hb) f6), (mvB mb_is (KeepB.below hb) f7), (mvB mb_is (KeepB.below hb) f8), (mvB mb_is (KeepB.below hb) f9), (mvB mb_is (KeepB.below hb) f10), (mvB mb_is (KeepB.below hb) f11), (mvB mb_is (KeepB.below hb) f12), (mvB mb_row (KeepB.below hb) f13), (mvB mb_pln (KeepB.below hb) f14), (mvB mb_is (KeepB.below hb) f15), (mvB mb_pln (KeepB.below hb) f16), (fun _ => rfl), (mvB mb_is (KeepB.below hb) f18), (mvB mb_is (KeepB.below hb) f19)⟩
        refine StepsU.run rfl ?_ ?_
        · intro L U wr hF hlk haf A K hA hK
          have HA : Hid (A = putAll _ _ U) := hA
          clear hA
          simp [Aft, Region.binds] at haf
          obtain ⟨fb, fk, fs, oR, oG, f0, f1, f2, f3, f4, f5, f6, f7, f8, f9, f10, f11, f12, f13, f14, f15, f16, f17, f18, f19⟩ := hF
          have g11 := f11 (by simp [haf])
          have g17 := f17 (by simp [haf])
          have e34 := rd HA.out 34 (by kernel_rfl) g11
          have e40 := rd HA.out 40 (by kernel_rfl) g17
          refine ⟨?_⟩
          go_simp
          refine hK (upd U 41 (.bool true)) _ _ ?_ ?_
          · rw [HA.out]; kernel_rfl
          · exact ⟨fb, fk, fs, oR, oG, f0, f1, f2, f3, f4, f5, f6, f7, f8, f9, f10, f11, f12, f13, f14, f15, f16, f17, (fun _ => rfl), f19⟩
        refine StepsU.run rfl ?_ StepsU.nil
        · intro L U wr hF hlk haf A K hA hK
          have HA : Hid (A = putAll _ _ U) := hA
          clear hA
          simp [Aft, Region.binds] at haf
          obtain ⟨fb, fk, fs, oR, oG, f0, f1, f2, f3, f4, f5, f6, f7, f8, f9, f10, f11, f12, f13, f14, f15, f16, f17, f18, f19⟩ := hF
          have g18 := f18 (by simp [haf])
          have e41 := rd HA.out 41 (by kernel_rfl) rfl
          refine ⟨?_⟩
          go_simp
          refine hK (upd U 2 (U 41)) _ _ ?_ ?_
          · rw [HA.out]; kernel_rfl
          · exact ⟨fb, fk, fs, oR, oG, f0, f1, f2, f3, f4, f5, f6, f7, f8, f9, f10, f11, f12, f13, f14, f15, f16, f17, f18, (fun _ => g18)⟩
      clear hbw oR oG
      intro L U7 V7 hall hF
      obtain ⟨hbw, fk, fs, oR, oG, f0, f1, f2, f3, f4, f5, f6, f7, f8, f9, f10, f11, f12, f13, f14, f15, f16, f17, f18, f19⟩ := hF
      have g0 := f0 (hall 0 (by decide))
      have g1 := f1 (hall 1 (by decide))
      have g2 := f2 (hall 2 (by decide))
      have g3 := f3 (hall 3 (by decide))
      have g4 := f4 (hall 4 (by decide))
      have g5 := f5 (hall 5 (by decide))
      have g6 := f6 (hall 6 (by decide))
      have g7 := f7 (hall 7 (by decide))
      have g8 := f8 (hall 8 (by decide))
      have g9 := f9 (hall 9 (by decide))
      have g10 := f10 (hall 10 (by decide))
      have g11 := f11 (hall 11 (by decide))
      have g12 := f12 (hall 12 (by decide))
      have g13 := f13 (hall 13 (by decide))
      have g14 := f14 (hall 14 (by decide))
      have g15 := f15 (hall 15 (by decide))
      have g16 := f16 (hall 16 (by decide))
      have g17 := f17 (hall 17 (by decide))
      have g18 := f18 (hall 18 (by decide))
      have g19 := f19 (hall 19 (by decide))
      clear hall f0 f1 f2 f3 f4 f5 f6 f7 f8 f9 f10 f11 f12 f13 f14 f15 f16 f17 f18 f19
      replace hR := hR.below fk.b
      replace hRm := hRm.below fk.b
      replace hG := hG.below fk.b
      replace hGm := hGm.below fk.b
      replace hC := hC.below fk.b
      replace ltR := oR.lt
      replace ltG := oG.lt
      try clear g0
      try clear g1
      try clear g2
      try clear g3
      try clear g4
      try clear g5
      try clear g6
      try clear g7
      try clear g8
      try clear g9
      try clear g10
      try clear g11
      try clear g12
      try clear g13
      try clear g14
      try clear g15
      try clear g16
      try clear g17
      try clear g18
      clear hbW
      simp only [setM_some, setM_none, setM_nil]
      clear fk fs
      have e2 : U7 2 = _ := g19
      try simp only []
      try go_at_K
      repeat (first | go_values | go_skip | go_guarded | go_step | go_upon)
      refine bodyPost_ret (v := .bool true) (by simp [results, Tryz.results6, go_sem, e2]) rfl ?_
      exact ⟨rfl, hbw⟩
    · have HC : Hid (nT (cm (tgP ps)) = ⟨#[49]⟩) := by show _ = _; rw [cm_tg HF.out hps]; exact nT_pos 1 (by decide)
      clear hps
      go_wp2_with fail
      refine (text_l _ _ ⟨#[49]⟩ _ hC HC.out).mono ?_
      rintro e w6 ⟨rfl, hb⟩
      replace oX := oX.stay hb
      replace ltX := oX.lt
      replace oR := oR.stay hb
      replace ltR := oR.lt
      replace oG := oG.stay hb
      replace ltG := oG.lt
      replace hR := hR.below hb
      replace hRm := hRm.below hb
      replace hG := hG.below hb
      replace hGm := hGm.below hb
      replace hC := hC.below hb
      replace hbw := hbw.step hb (Nat.le_refl _)
      clear hb
      go_wp2
      clear ltX oX
      have hbW := hbw
      refine wp_region_M (by kernel_rfl) [2, 23, 24, 25, 26, 27, 28, 29, 30, 31, 32, 33, 34, 35, 36, 37, 38, 39, 40, 41] [none, none, some 2, none, none, none, none, none, none, none, none, none, none, none, none, none, none, none, none, none, none, none, none, some 23, some 24, some 25, some 26, some 27, some 28, some 29, some 30, some 31, some 32, some 33, some 34, some 35, some 36, some 37, some 38, some 39, some 40, some 41] (fun U => by kernel_rfl) (fun L U wr => Below w.heap.size w wr ∧ KeepB w6 wr ∧ w6.heap.size ≤ wr.heap.size ∧ Blk 42 wr (w3.heap.size) #[.slice pR qR rR, .bool xR, .slice aR nR cR, .bool yR, .slice dR lR fR] ∧ Blk 42 wr (w4.heap.size) #[.slice pG qG rG, .bool xG, .slice aG nG cG, .bool yG, .slice dG lG fG] ∧ (L 0 = true → IS (.string ⟨#[49]⟩) (U 23) wr) ∧ (L 1 = true → IS (.bool true) (U 24) wr) ∧ (L 2 = true → IS (.bool true) (U 25) wr) ∧ (L 3 = true → IS undef (U 26) wr) ∧ (L 4 = true → IS undef (U 27) wr) ∧ (L 5 = true → IS undef (U 28) wr) ∧ (L 6 = true → IS undef (U 29) wr) ∧ (L 7 = true → IS undef (U 30) wr) ∧ (L 8 = true → IS undef (U 31) wr) ∧ (L 9 = true → IS undef (U 32) wr) ∧ (L 10 = true → IS (.bool true) (U 33) wr) ∧ (L 11 = true → IS (.bool true) (U 34) wr) ∧ (L 12 = true → IS (.agg #[.slice pG qG rG, .bool xG, .slice aG nG cG, .bool yG, .slice dG lG fG]) (U 35) wr) ∧ (L 13 = true → ROW (tgP ps) (tgM ps m0) (U 36) wr) ∧ (L 14 = true → PLN (tgP ps) (tgM ps m0) (U 37) wr) ∧ (L 15 = true → IS (.agg #[.slice pG qG rG, .bool xG, .slice aG nG cG, .bool yG, .slice dG lG fG]) (U 38) wr) ∧ (L 16 = true → PLN (tgP ps) (tgM ps m0) (U 39) wr) ∧ (L 17 = true → IS (.bool true) (U 40) wr) ∧ (L 18 = true → IS (.bool true) (U 41) wr) ∧ (L 19 = true → IS (.bool true) (U 2) wr)) (by kernel_rfl) ?_ ?_ ?_
      · exact fun U => ⟨hbw.drew, KeepB.below (Below.refl _ _).drew, Nat.le_refl _, oR.drew, oG.drew, (fun h => by cases h), (fun h => by cases h), (fun h => by cases h), (fun h => by cases h), (fun h => by cases h), (fun h => by cases h), (fun h => by cases h), (fun h => by cases h), (fun h => by cases h), (fun h => by cases h), (fun h => by cases h), (fun h => by cases h), (fun h => by cases h), (fun h => by cases h), (fun h => by cases h), (fun h => by cases h), (fun h => by cases h), (fun h => by cases h), (fun h => by cases h), (fun h => by cases h)⟩
      · refine StepsU.run rfl ?_ ?_
        · intro L U wr hF hlk haf A K hA hK
          have HA : Hid (A = putAll _ _ U) := hA
          clear hA
          simp [Aft, Region.binds] at haf
          obtain ⟨fb, fk, fs, oR, oG, f0, f1, f2, f3, f4, f5, f6, f7, f8, f9, f10, f11, f12, f13, f14, f15, f16, f17, f18, f19⟩ := hF
          have e6 : A.tmps[6]? = some (.string ⟨#[49]⟩) := by rw [HA.out]; kernel_rfl
          refine ⟨?_⟩
          go_simp
          refine hK (upd U 23 (.string ⟨#[49]⟩)) _ _ ?_ ?_
          · rw [HA.out]; kernel_rfl
          · exact ⟨fb, fk, fs, oR, oG, (fun _ => rfl), f1, f2, f3, f4, f5, f6, f7, f8, f9, f10, f11, f12, f13, f14, f15, f16, f17, f18, f19⟩
        refine StepsU.run rfl ?_ ?_
        · intro L U wr hF hlk haf A K hA hK
          have HA : Hid (A = putAll _ _ U) := hA
          clear hA
          simp [Aft, Region.binds] at haf
          obtain ⟨fb, fk, fs, oR, oG, f0, f1, f2, f3, f4, f5, f6, f7, f8, f9, f10, f11, f12, f13, f14, f15, f16, f17, f18, f19⟩ := hF
          have g0 := f0 (by simp [haf])
          have e23 := rd HA.out 23 (by kernel_rfl) g0
          refine ⟨?_⟩
          go_simp
          refine hK (upd U 24 (.bool true)) _ _ ?_ ?_
          · rw [HA.out]; kernel_rfl
          · exact ⟨fb, fk, fs, oR, oG, f0, (fun _ => rfl), f2, f3, f4, f5, f6, f7, f8, f9, f10, f11, f12, f13, f14, f15, f16, f17, f18, f19⟩
        refine StepsU.run rfl ?_ ?_
        · intro L U wr hF hlk haf A K hA hK
          have HA : Hid (A = putAll _ _ U) := hA
          clear hA
          simp [Aft, Region.binds] at haf
          obtain ⟨fb, fk, fs, oR, oG, f0, f1, f2, f3, f4, f5, f6, f7, f8, f9, f10, f11, f12, f13, f14, f15, f16, f17, f18, f19⟩ := hF
          have g1 := f1 (by simp [haf])
          have e24 := rd HA.out 24 (by kernel_rfl) rfl
          refine ⟨?_⟩
          go_simp
          refine hK (upd U 25 (U 24)) _ _ ?_ ?_
          · rw [HA.out]; kernel_rfl
          · exact ⟨fb, fk, fs, oR, oG, f0, f1, (fun _ => g1), f3, f4, f5, f6, f7, f8, f9, f10, f11, f12, f13, f14, f15, f16, f17, f18, f19⟩
        refine StepsU.cond ?_ ?_
        · intro L U wr hF hlk haf A K hA hK
          have HA : Hid (A = putAll _ _ U) := hA
          clear hA
          simp [Aft, Region.binds] at haf
          obtain ⟨fb, fk, fs, oR, oG, f0, f1, f2, f3, f4, f5, f6, f7, f8, f9, f10, f11, f12, f13, f14, f15, f16, f17, f18, f19⟩ := hF
          have gg := f2 (by simp [haf])
          have ee := rd HA.out 25 (by kernel_rfl) gg
          refine ⟨?_⟩
          rw [if_neg (by simp [Region.wanted, yielded, ee])]
          refine hK (upd U 26 undef) _ _ ?_ ?_
          · rw [HA.out]; kernel_rfl
          · exact ⟨fb, fk, fs, oR, oG, f0, f1, f2, (fun _ => rfl), f4, f5, f6, f7, f8, f9, f10, f11, f12, f13, f14, f15, f16, f17, f18, f19⟩
        refine StepsU.cond ?_ ?_
        · intro L U wr hF hlk haf A K hA hK
          have HA : Hid (A = putAll _ _ U) := hA
          clear hA
          simp [Aft, Region.binds] at haf
          obtain ⟨fb, fk, fs, oR, oG, f0, f1, f2, f3, f4, f5, f6, f7, f8, f9, f10, f11, f12, f13, f14, f15, f16, f17, f18, f19⟩ := hF
          have gg := f2 (by simp [haf])
          have ee := rd HA.out 25 (by kernel_rfl) gg
          refine ⟨?_⟩
          rw [if_neg (by simp [Region.wanted, yielded, ee])]
          refine hK (upd U 27 undef) _ _ ?_ ?_
          · rw [HA.out]; kernel_rfl
          · exact ⟨fb, fk, fs, oR, oG, f0, f1, f2, f3, (fun _ => rfl), f5, f6, f7, f8, f9, f10, f11, f12, f13, f14, f15, f16, f17, f18, f19⟩
        refine StepsU.cond ?_ ?_
        · intro L U wr hF hlk haf A K hA hK
          have HA : Hid (A = putAll _ _ U) := hA
          clear hA
          simp [Aft, Region.binds] at haf
          obtain ⟨fb, fk, fs, oR, oG, f0, f1, f2, f3, f4, f5, f6, f7, f8, f9, f10, f11, f12, f13, f14, f15, f16, f17, f18, f19⟩ := hF
          have gg := f2 (by simp [haf])
          have ee := rd HA.out 25 (by kernel_rfl) gg
          refine ⟨?_⟩
          rw [if_neg (by simp [Region.wanted, yielded, ee])]
          refine hK (upd U 28 undef) _ _ ?_ ?_
          · rw [HA.out]; kernel_rfl
          · exact ⟨fb, fk, fs, oR, oG, f0, f1, f2, f3, f4, (fun _ => rfl), f6, f7, f8, f9, f10, f11, f12, f13, f14, f15, f16, f17, f18, f19⟩
        refine StepsU.cond ?_ ?_
        · intro L U wr hF hlk haf A K hA hK
          have HA : Hid (A = putAll _ _ U) := hA
          clear hA
          simp [Aft, Region.binds] at haf
          obtain ⟨fb, fk, fs, oR, oG, f0, f1, f2, f3, f4, f5, f6, f7, f8, f9, f10, f11, f12, f13, f14, f15, f16, f17, f18, f19⟩ := hF
          have gg := f5 (by simp [haf])
          have ee := rd HA.out 28 (by kernel_rfl) gg
          refine ⟨?_⟩
          rw [if_neg (by simp [Region.wanted, yielded, ee, undef])]
          refine hK (upd U 29 undef) _ _ ?_ ?_
          · rw [HA.out]; kernel_rfl
          · exact ⟨fb, fk, fs, oR, oG, f0, f1, f2, f3, f4, f5, (fun _ => rfl), f7, f8, f9, f10, f11, f12, f13, f14, f15, f16, f17, f18, f19⟩
        refine StepsU.cond ?_ ?_
        · intro L U wr hF hlk haf A K hA hK
          have HA : Hid (A = putAll _ _ U) := hA
          clear hA
          simp [Aft, Region.binds] at haf
          obtain ⟨fb, fk, fs, oR, oG, f0, f1, f2, f3, f4, f5, f6, f7, f8, f9, f10, f11, f12, f13, f14, f15, f16, f17, f18, f19⟩ := hF
          have gg := f5 (by simp [haf])
          have ee := rd HA.out 28 (by kernel_rfl) gg
          refine ⟨?_⟩
          rw [if_neg (by simp [Region.wanted, yielded, ee, undef])]
          refine hK (upd U 30 undef) _ _ ?_ ?_
          · rw [HA.out]; kernel_rfl
          · exact ⟨fb, fk, fs, oR, oG, f0, f1, f2, f3, f4, f5, f6, (fun _ => rfl), f8, f9, f10, f11, f12, f13, f14, f15, f16, f17, f18, f19⟩
        refine StepsU.cond ?_ ?_
        · intro L U wr hF hlk haf A K hA hK
          have HA : Hid (A = putAll _ _ U) := hA
          clear hA
          simp [Aft, Region.binds] at haf
          obtain ⟨fb, fk, fs, oR, oG, f0, f1, f2, f3, f4, f5, f6, f7, f8, f9, f10, f11, f12, f13, f14, f15, f16, f17, f18, f19⟩ := hF
          have gg := f5 (by simp [haf])
          have ee := rd HA.out 28 (by kernel_rfl) gg
          refine ⟨?_⟩
          rw [if_neg (by simp [Region.wanted, yielded, ee, undef])]
          refine hK (upd U 31 undef) _ _ ?_ ?_
          · rw [HA.out]; kernel_rfl
          · exact ⟨fb, fk, fs, oR, oG, f0, f1, f2, f3, f4, f5, f6, f7, (fun _ => rfl), f9, f10, f11, f12, f13, f14, f15, f16, f17, f18, f19⟩
        refine StepsU.cond ?_ ?_
        · intro L U wr hF hlk haf A K hA hK
          have HA : Hid (A = putAll _ _ U) := hA
          clear hA
          simp [Aft, Region.binds] at haf
          obtain ⟨fb, fk, fs, oR, oG, f0, f1, f2, f3, f4, f5, f6, f7, f8, f9, f10, f11, f12, f13, f14, f15, f16, f17, f18, f19⟩ := hF
          have gg := f2 (by simp [haf])
          have ee := rd HA.out 25 (by kernel_rfl) gg
          refine ⟨?_⟩
          rw [if_neg (by simp [Region.wanted, yielded, ee])]
          refine hK (upd U 32 undef) _ _ ?_ ?_
          · rw [HA.out]; kernel_rfl
          · exact ⟨fb, fk, fs, oR, oG, f0, f1, f2, f3, f4, f5, f6, f7, f8, (fun _ => rfl), f10, f11, f12, f13, f14, f15, f16, f17, f18, f19⟩
        refine StepsU.run rfl ?_ ?_
        · intro L U wr hF hlk haf A K hA hK
          have HA : Hid (A = putAll _ _ U) := hA
          clear hA
          simp [Aft, Region.binds] at haf
          obtain ⟨fb, fk, fs, oR, oG, f0, f1, f2, f3, f4, f5, f6, f7, f8, f9, f10, f11, f12, f13, f14, f15, f16, f17, f18, f19⟩ := hF
          have g2 := f2 (by simp [haf])
          have e25 := rd HA.out 25 (by kernel_rfl) g2
          refine ⟨?_⟩
          go_simp
          refine hK (upd U 33 (.bool true)) _ _ ?_ ?_
          · rw [HA.out]; kernel_rfl
          · exact ⟨fb, fk, fs, oR, oG, f0, f1, f2, f3, f4, f5, f6, f7, f8, f9, (fun _ => rfl), f11, f12, f13, f14, f15, f16, f17, f18, f19⟩
        refine StepsU.run rfl ?_ ?_
        · intro L U wr hF hlk haf A K hA hK
          have HA : Hid (A = putAll _ _ U) := hA
          clear hA
          simp [Aft, Region.binds] at haf
          obtain ⟨fb, fk, fs, oR, oG, f0, f1, f2, f3, f4, f5, f6, f7, f8, f9, f10, f11, f12, f13, f14, f15, f16, f17, f18, f19⟩ := hF
          have g10 := f10 (by simp [haf])
          have e33 := rd HA.out 33 (by kernel_rfl) rfl
          refine ⟨?_⟩
          go_simp
          refine hK (upd U 34 (U 33)) _ _ ?_ ?_
          · rw [HA.out]; kernel_rfl
          · exact ⟨fb, fk, fs, oR, oG, f0, f1, f2, f3, f4, f5, f6, f7, f8, f9, f10, (fun _ => g10), f12, f13, f14, f15, f16, f17, f18, f19⟩
        refine StepsU.cond ?_ ?_
        · intro L U wr hF hlk haf A K hA hK
          have HA : Hid (A = putAll _ _ U) := hA
          clear hA
          simp [Aft, Region.binds] at haf
          obtain ⟨fb, fk, fs, oR, oG, f0, f1, f2, f3, f4, f5, f6, f7, f8, f9, f10, f11, f12, f13, f14, f15, f16, f17, f18, f19⟩ := hF
          have gg := f11 (by simp [haf])
          have ee := rd HA.out 34 (by kernel_rfl) gg
          refine ⟨?_⟩
          rw [if_pos (by simp [Region.wanted, yielded, ee])]
          refine Gate.out ?_
          clear gg ee
          have e5 : A.tmps[5]? = some (.pointer (some ⟨w4.heap.size, 0, none⟩)) := by rw [HA.out]; kernel_rfl
          have c0 := oG.cell 0
          have c1 := oG.cell 1
          have c2 := oG.cell 2
          have c3 := oG.cell 3
          have c4 := oG.cell 4
          simp at c0
          simp at c1
          simp at c2
          simp at c3
          simp at c4
          refine ⟨?_⟩
          go_simp
          refine hK (upd U 35 (.agg #[.slice pG qG rG, .bool xG, .slice aG nG cG, .bool yG, .slice dG lG fG])) _ _ ?_ ?_
          · rw [HA.out]; kernel_rfl
          · exact ⟨fb, fk, fs, oR, oG, f0, f1, f2, f3, f4, f5, f6, f7, f8, f9, f10, f11, (fun _ => rfl), f13, f14, f15, f16, f17, f18, f19⟩
        refine StepsU.cond ?_ ?_
        · intro L U wr hF hlk haf A K hA hK
          have HA : Hid (A = putAll _ _ U) := hA
          clear hA
          simp [Aft, Region.binds] at haf
          obtain ⟨fb, fk, fs, oR, oG, f0, f1, f2, f3, f4, f5, f6, f7, f8, f9, f10, f11, f12, f13, f14, f15, f16, f17, f18, f19⟩ := hF
          have gg := f11 (by simp [haf])
          have ee := rd HA.out 34 (by kernel_rfl) gg
          refine ⟨?_⟩
          rw [if_pos (by simp [Region.wanted, yielded, ee])]
          refine Gate.out ?_
          clear gg ee
          have g12 := f12 (by simp [haf])
          have e35 := rd HA.out 35 (by kernel_rfl) g12
          refine ⟨?_⟩
          go_simp
          refine (tight_h _ ps m0 _ HF.out ⟨_, _, _, _, _, _, _, _, _, _, _, rfl, hG.below fk.b, hGm.below fk.b⟩).mono ?_
          rintro e w1 ⟨v, rfl, hr, hb⟩
          go_simp
          refine hK (upd U 36 v) _ _ ?_ ?_
          · rw [HA.out]; kernel_rfl
          · exact ⟨(fb.step hb (Nat.le_refl _)), (fk.trans (KeepB.below hb)), (Nat.le_trans fs hb.size), (oR.stay hb), (oG.stay hb), (mvB mb_is (KeepB.below hb) f0), (mvB mb_is (KeepB.below hb) f1), (mvB mb_is (KeepB.below hb) f2), (mvB mb_is (KeepB.below hb) f3), (mvB mb_is (KeepB.below hb) f4), (mvB mb_is (KeepB.below hb) f5), (mvB mb_is (KeepB.below hb) f6), (mvB mb_is (KeepB.below hb) f7), (mvB mb_is (KeepB.below hb) f8), (mvB mb_is (KeepB.below hb) f9), (mvB mb_is (KeepB.below hb) f10), (mvB mb_is (KeepB.below hb) f11), (mvB mb_is (KeepB.below hb) f12), (fun _ => hr), (mvB mb_pln (KeepB.below hb) f14), (mvB mb_is (KeepB.below hb) f15), (mvB mb_pln (KeepB.below hb) f16), (mvB mb_is (KeepB.below hb) f17), (mvB mb_is (KeepB.below hb) f18), (mvB mb_is (KeepB.below hb) f19)⟩
        refine StepsU.cond ?_ ?_
        · intro L U wr hF hlk haf A K hA hK
          have HA : Hid (A = putAll _ _ U) := hA
          clear hA
          simp [Aft, Region.binds] at haf
          obtain ⟨fb, fk, fs, oR, oG, f0, f1, f2, f3, f4, f5, f6, f7, f8, f9, f10, f11, f12, f13, f14, f15, f16, f17, f18, f19⟩ := hF
          have gg := f11 (by simp [haf])
          have ee := rd HA.out 34 (by kernel_rfl) gg
          refine ⟨?_⟩
          rw [if_pos (by simp [Region.wanted, yielded, ee])]
          refine Gate.out ?_
          clear gg ee
          have g13 := f13 (by simp [haf])
          have e36 := rd HA.out 36 (by kernel_rfl) rfl
          refine ⟨?_⟩
          go_simp
          refine (plain_h _ (tgP ps) (tgM ps m0) _ g13).mono ?_
          rintro e w1 ⟨v, rfl, hr, hb⟩
          go_simp
          refine hK (upd U 37 v) _ _ ?_ ?_
          · rw [HA.out]; kernel_rfl
          · exact ⟨(fb.step hb (Nat.le_refl _)), (fk.trans (KeepB.below hb)), (Nat.le_trans fs hb.size), (oR.stay hb), (oG.stay hb), (mvB mb_is (KeepB.below hb) f0), (mvB mb_is (KeepB.below hb) f1), (mvB mb_is (KeepB.below hb) f2), (mvB mb_is (KeepB.below hb) f3), (mvB mb_is (KeepB.below hb) f4), (mvB mb_is (KeepB.below hb) f5), (mvB mb_is (KeepB.below hb) f6), (mvB mb_is (KeepB.below hb) f7), (mvB mb_is (KeepB.below hb) f8), (mvB mb_is (KeepB.below hb) f9), (mvB mb_is (KeepB.below hb) f10), (mvB mb_is (KeepB.below hb) f11), (mvB mb_is (KeepB.below hb) f12), (mvB mb_row (KeepB.below hb) f13), (fun _ => hr), (mvB mb_is (KeepB.below hb) f15), (mvB mb_pln (KeepB.below hb) f16), (mvB mb_is (KeepB.below hb) f17), (mvB mb_is (KeepB.below hb) f18), (mvB mb_is (KeepB.below hb) f19)⟩
        refine StepsU.cond ?_ ?_
        · intro L U wr hF hlk haf A K hA hK
          have HA : Hid (A = putAll _ _ U) := hA
          clear hA
          simp [Aft, Region.binds] at haf
          obtain ⟨fb, fk, fs, oR, oG, f0, f1, f2, f3, f4, f5, f6, f7, f8, f9, f10, f11, f12, f13, f14, f15, f16, f17, f18, f19⟩ := hF
          have gg := f11 (by simp [haf])
          have ee := rd HA.out 34 (by kernel_rfl) gg
          refine ⟨?_⟩
          rw [if_pos (by simp [Region.wanted, yielded, ee])]
          refine Gate.out ?_
          clear gg ee
          have e5 : A.tmps[5]? = some (.pointer (some ⟨w4.heap.size, 0, none⟩)) := by rw [HA.out]; kernel_rfl
          have c0 := oG.cell 0
          have c1 := oG.cell 1
          have c2 := oG.cell 2
          have c3 := oG.cell 3
          have c4 := oG.cell 4
          simp at c0
          simp at c1
          simp at c2
          simp at c3
          simp at c4
          refine ⟨?_⟩
          go_simp
          refine hK (upd U 38 (.agg #[.slice pG qG rG, .bool xG, .slice aG nG cG, .bool yG, .slice dG lG fG])) _ _ ?_ ?_
          · rw [HA.out]; kernel_rfl
          · exact ⟨fb, fk, fs, oR, oG, f0, f1, f2, f3, f4, f5, f6, f7, f8, f9, f10, f11, f12, f13, f14, (fun _ => rfl), f16, f17, f18, f19⟩
        refine StepsU.cond ?_ ?_
        · intro L U wr hF hlk haf A K hA hK
          have HA : Hid (A = putAll _ _ U) := hA
          clear hA
          simp [Aft, Region.binds] at haf
          obtain ⟨fb, fk, fs, oR, oG, f0, f1, f2, f3, f4, f5, f6, f7, f8, f9, f10, f11, f12, f13, f14, f15, f16, f17, f18, f19⟩ := hF
          have gg := f11 (by simp [haf])
          have ee := rd HA.out 34 (by kernel_rfl) gg
          refine ⟨?_⟩
          rw [if_pos (by simp [Region.wanted, yielded, ee])]
          refine Gate.out ?_
          clear gg ee
          have g15 := f15 (by simp [haf])
          have e38 := rd HA.out 38 (by kernel_rfl) g15
          refine ⟨?_⟩
          go_simp
          refine (plain_h _ (tgP ps) (tgM ps m0) _ ⟨_, _, _, _, _, _, _, _, _, _, _, rfl, hG.below fk.b, hGm.below fk.b⟩).mono ?_
          rintro e w1 ⟨v, rfl, hr, hb⟩
          go_simp
          refine hK (upd U 39 v) _ _ ?_ ?_
          · rw [HA.out]; kernel_rfl
          · exact ⟨(fb.step hb (Nat.le_refl _)), (fk.trans (KeepB.below hb)), (Nat.le_trans fs hb.size), (oR.stay hb), (oG.stay hb), (mvB mb_is (KeepB.below hb) f0), (mvB mb_is (KeepB.below hb) f1), (mvB mb_is (KeepB.below hb) f2), (mvB mb_is (KeepB.below hb) f3), (mvB mb_is (KeepB.below hb) f4), (mvB mb_is (KeepB.below hb) f5), (mvB mb_is (KeepB.below hb) f6), (mvB mb_is (KeepB.below hb) f7), (mvB mb_is (KeepB.below hb) f8), (mvB mb_is (KeepB.below hb) f9), (mvB mb_is (KeepB.below hb) f10), (mvB mb_is (KeepB.below hb) f11), (mvB mb_is (KeepB.below hb) f12), (mvB mb_row (KeepB.below hb) f13), (mvB mb_pln (KeepB.below hb) f14), (mvB mb_is (KeepB.below hb) f15), (fun _ => hr), (mvB mb_is (KeepB.below hb) f17), (mvB mb_is (KeepB.below hb) f18), (mvB mb_is (KeepB.below hb) f19)⟩
        refine StepsU.cond ?_ ?_
        · intro L U wr hF hlk haf A K hA hK
          have HA : Hid (A = putAll _ _ U) := hA
          clear hA
          simp [Aft, Region.binds] at haf
          obtain ⟨fb, fk, fs, oR, oG, f0, f1, f2, f3, f4, f5, f6, f7, f8, f9, f10, f11, f12, f13, f14, f15, f16, f17, f18, f19⟩ := hF
          have gg := f11 (by simp [haf])
          have ee := rd HA.out 34 (by kernel_rfl) gg
          refine ⟨?_⟩
          rw [if_pos (by simp [Region.wanted, yielded, ee])]
          refine Gate.out ?_
          clear gg ee
          have g14 := f14 (by simp [haf])
          have e37 := rd HA.out 37 (by kernel_rfl) rfl
          have g16 := f16 (by simp [haf])
          have e39 := rd HA.out 39 (by kernel_rfl) rfl
          refine ⟨?_⟩
          go_simp
          refine (sameRow_h _ _ (tgP ps) (tgM ps m0) _ g14 g16 hG.fine).mono ?_
          rintro e w1 ⟨rfl, hb⟩
          go_simp
          refine hK (upd U 40 (.bool true)) _ _ ?_ ?_
          · rw [HA.out]; kernel_rfl
          · exact ⟨(fb.step hb (Nat.le_refl _)), (fk.trans (KeepB.below hb)), (Nat.le_trans fs hb.size), (oR.stay hb), (oG.stay hb), (mvB mb_is (KeepB.below hb) f0), (mvB mb_is (KeepB.below hb) f1), (mvB mb_is (KeepB.below hb) f2), (mvB mb_is (KeepB.below hb) f3), (mvB mb_is (KeepB.below hb) f4), (mvB mb_is (KeepB.below hb) f5), (mvB mb_is (KeepB.below hb) f6), (mvB mb_is (KeepB.below hb) f7), (mvB mb_is (KeepB.below hb) f8), (mvB mb_is (KeepB.below hb) f9), (mvB mb_is (KeepB.below hb) f10), (mvB mb_is (KeepB.below hb) f11), (mvB mb_is (KeepB.below hb) f12), (mvB mb_row (KeepB.below hb) f13), (mvB mb_pln (KeepB.below hb) f14), (mvB mb_is (KeepB.below hb) f15), (mvB mb_pln (KeepB.below hb) f16), (fun _ => rfl), (mvB mb_is (KeepB.below hb) f18), (mvB mb_is (KeepB.below hb) f19)⟩
        refine StepsU.run rfl ?_ ?_
        · intro L U wr hF hlk haf A K hA hK
          have HA : Hid (A = putAll _ _ U) := hA
          clear hA
          simp [Aft, Region.binds] at haf
          obtain ⟨fb, fk, fs, oR, oG, f0, f1, f2, f3, f4, f5, f6, f7, f8, f9, f10, f11, f12, f13, f14, f15, f16, f17, f18, f19⟩ := hF
          have g11 := f11 (by simp [haf])
          have g17 := f17 (by simp [haf])
          have e34 := rd HA.out 34 (by kernel_rfl) g11
          have e40 := rd HA.out 40 (by kernel_rfl) g17
          refine ⟨?_⟩
          go_simp
          refine hK (upd U 41 (.bool true)) _ _ ?_ ?_
          · rw [HA.out]; kernel_rfl
          · exact ⟨fb, fk, fs, oR, oG, f0, f1, f2, f3, f4, f5, f6, f7, f8, f9, f10, f11, f12, f13, f14, f15, f16, f17, (fun _ => rfl), f19⟩
        refine StepsU.run rfl ?_ StepsU.nil
        · intro L U wr hF hlk haf A K hA hK
          have HA : Hid (A = putAll _ _ U) := hA
          clear hA
          simp [Aft, Region.binds] at haf
          obtain ⟨fb, fk, fs, oR, oG, f0, f1, f2, f3, f4, f5, f6, f7, f8, f9, f10, f11, f12, f13, f14, f15, f16, f17, f18, f19⟩ := hF
          have g18 := f18 (by simp [haf])
          have e41 := rd HA.out 41 (by kernel_rfl) rfl
          refine ⟨?_⟩
          go_simp
          refine hK (upd U 2 (U 41)) _ _ ?_ ?_
          · rw [HA.out]; kernel_rfl
          · exact ⟨fb, fk, fs, oR, oG, f0, f1, f2, f3, f4, f5, f6, f7, f8, f9, f10, f11, f12, f13, f14, f15, f16, f17, f18, (fun _ => g18)⟩
      clear hbw oR oG
      intro L U7 V7 hall hF
      obtain ⟨hbw, fk, fs, oR, oG, f0, f1, f2, f3, f4, f5, f6, f7, f8, f9, f10, f11, f12, f13, f14, f15, f16, f17, f18, f19⟩ := hF
      have g0 := f0 (hall 0 (by decide))
      have g1 := f1 (hall 1 (by decide))
      have g2 := f2 (hall 2 (by decide))
      have g3 := f3 (hall 3 (by decide))
      have g4 := f4 (hall 4 (by decide))
      have g5 := f5 (hall 5 (by decide))
      have g6 := f6 (hall 6 (by decide))
      have g7 := f7 (hall 7 (by decide))
      have g8 := f8 (hall 8 (by decide))
      have g9 := f9 (hall 9 (by decide))
      have g10 := f10 (hall 10 (by decide))
      have g11 := f11 (hall 11 (by decide))
      have g12 := f12 (hall 12 (by decide))
      have g13 := f13 (hall 13 (by decide))
      have g14 := f14 (hall 14 (by decide))
      have g15 := f15 (hall 15 (by decide))
      have g16 := f16 (hall 16 (by decide))
      have g17 := f17 (hall 17 (by decide))
      have g18 := f18 (hall 18 (by decide))
      have g19 := f19 (hall 19 (by decide))
      clear hall f0 f1 f2 f3 f4 f5 f6 f7 f8 f9 f10 f11 f12 f13 f14 f15 f16 f17 f18 f19
      replace hR := hR.below fk.b
      replace hRm := hRm.below fk.b
      replace hG := hG.below fk.b
      replace hGm := hGm.below fk.b
      replace hC := hC.below fk.b
      replace ltR := oR.lt
      replace ltG := oG.lt
      try clear g0
      try clear g1
      try clear g2
      try clear g3
      try clear g4
      try clear g5
      try clear g6
      try clear g7
      try clear g8
      try clear g9
      try clear g10
      try clear g11
      try clear g12
      try clear g13
      try clear g14
      try clear g15
      try clear g16
      try clear g17
      try clear g18
      clear hbW
      simp only [setM_some, setM_none, setM_nil]
      clear fk fs
      have e2 : U7 2 = _ := g19
      try simp only []
      try go_at_K
      repeat (first | go_values | go_skip | go_guarded | go_step | go_upon)
      refine bodyPost_ret (v := .bool true) (by simp [results, Tryz.results6, go_sem, e2]) rfl ?_
      exact ⟨rfl, hbw⟩
  · have hc2 : (co != 0) = true := by rw [bne_iff_ne]; exact hc
    clear hc
    go_wp2
    go_ret
    exact ⟨rfl, hbw⟩

end Go.Proofs.YteefniagebcagabGreatDoor
