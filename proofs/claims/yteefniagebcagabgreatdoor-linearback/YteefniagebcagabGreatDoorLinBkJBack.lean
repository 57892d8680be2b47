/- The walk of suretylaw03.LinearBack; they prove no statement of the seat. -/
import Derived.Test.YteefniagebcagabGreatDoorLinZJBack
import Derived.Test.YteefniagebcagabGreatDoorRegBJBack
namespace Go.Proofs.YteefniagebcagabGreatDoor
open Go.RowKit
set_option linter.unusedVariables false

theorem read_back (v : Value) (a : List (Nat × Int)) (m : Int) (w : World) (hp : PLN a m v w) (hf : Fine a) (hm : m.natAbs < lim) :
    Calls Tryz.prog 16 #[v] w fun e w' => ∃ p q r x b n c y d l f, e = .returned (.tuple #[.agg #[.slice p q r, .bool x, .slice b n c, .bool y, .slice d l f], .int .i64 0]) ∧ TP w' p q r x b n c a 0 ∧ AInt w' (.agg #[.bool y, .slice d l f]) m ∧ Below w.heap.size w w' := by
  obtain ⟨ao, n, cap, rfl, h1, h2⟩ := hp
  have hs := plainM_size hf
  have hz := nT_size hm
  refine (lread_any ao n cap (nT m) (plainM a) w h2 h1 (fun _ => hs) (by omega)).mono ?_
  obtain ⟨e1, e2, e3⟩ := rd_back hf hm
  rw [e1, e2, e3]
  rintro e w' ⟨v, rfl, ⟨p, q, r, x, b, n, c, y, d, l, f, rfl, h3, h4⟩, hb⟩
  exact ⟨p, q, r, x, b, n, c, y, d, l, f, rfl, h3, h4, hb⟩


set_option maxRecDepth 20000 in
set_option maxHeartbeats 16000000 in
theorem linearBack_any (aX : Option Addr) (nX cX : Nat) (S : ByteArray) (ms : List (Int × ByteArray)) (w : World) (ht : Tab w) (hm : MArr w aX ms) (hl : ms.length = nX) :
    Calls Tryz.prog 4 #[.agg #[.slice aX nX cX, .string S]] w fun e w' => e = .returned (.bool true) ∧ Below w.heap.size w w' := by
  have oX := (Blk.new w 50 #[.slice aX nX cX, .string S])
  have hbw : Below w.heap.size w (w.alloc (.cells #[.slice aX nX cX, .string S] 50 (0, 0))) := by go_grown
  have ltX := oX.lt
  have lwX : w.heap.size ≤ w.heap.size := by omega
  have HTB : Hid (Tab w) := ht
  have HM : Hid (MArr w aX ms) := hm
  have HLN : Hid (ms.length = nX) := hl
  clear ht hm hl
  go_enter Tryz.func4, Tryz.ntmps4
  go_wp2_with fail
  refine (awake3_any _ (HTB.out.below hbw)).mono ?_
  rintro e w1 ⟨rfl, hb⟩
  replace oX := oX.stay hb
  replace ltX := oX.lt
  replace hbw := hbw.step hb (Nat.le_refl _)
  clear hb
  obtain ⟨Xc0, Xc1, Xk0, Xk1⟩ := oX.two
  go_wp2_with fail
  refine (row_any aX nX cX S ms _ (HM.out.below hbw) HLN.out).mono ?_
  rintro e w2 ⟨aA, nA, cA, rfl, hnA, hMA, hb⟩
  clear Xc0 Xc1 Xk0 Xk1
  replace oX := oX.stay hb
  replace ltX := oX.lt
  replace hbw := hbw.step hb (Nat.le_refl _)
  clear hb
  go_wp2_with fail
  refine (lread_any aA nA cA (cutS S) (rowM ms) _ hMA hnA (fun h => rowM_size h) (by have := cutS_size S; omega)).mono ?_
  rintro e w3 ⟨_, rfl, ⟨pR, qR, rR, xR, aR, nR, cR, yR, dR, lR, fR, rfl, hR, hRm⟩, hb⟩
  replace oX := oX.stay hb
  replace ltX := oX.lt
  replace hMA := hMA.below hb
  replace hbw := hbw.step hb (Nat.le_refl _)
  clear hb
  generalize rdP (rowM ms) (cutS S) = ps at hR
  generalize rdM (rowM ms) (cutS S) = m0 at hRm
  generalize rdE (rowM ms) (cutS S) = co
  clear hMA
  have hn := below_new w3 (.cells #[.slice pR qR rR, .bool xR, .slice aR nR cR, .bool yR, .slice dR lR fR] 42 (0, 0))
  have oR := Blk.new w3 42 #[.slice pR qR rR, .bool xR, .slice aR nR cR, .bool yR, .slice dR lR fR]
  have neXR : w.heap.size ≠ w3.heap.size := by have := ltX; (try simp at this); omega
  have lwR : w.heap.size ≤ w3.heap.size := by have := hbw.size; (try simp at this); omega
  replace oX := oX.stay hn
  replace ltX := oX.lt
  replace hR := hR.below hn
  replace hRm := hRm.below hn
  replace hbw := hbw.step hn (Nat.le_refl _)
  clear hn
  have ltR := oR.lt
  by_cases hc : co = 0
  · subst hc
    have HF : Hid (Fine ps) := hR.fine
    have HML : Hid (m0.natAbs < lim) := hRm.lt
    obtain ⟨Rc0, Rc1, Rc2, Rc3, Rc4⟩ := oR.five
    obtain ⟨Rk0, Rk1, Rk2, Rk3, Rk4⟩ := oR.frozen5
    go_wp2_with fail
    refine (plain_any _ ps m0 _ ⟨_, _, _, _, _, _, _, _, _, _, _, rfl, hR, hRm⟩).mono ?_
    rintro e w4 ⟨aP, nP, cP, rfl, hnP, hP, hb⟩
    clear Rc0 Rc1 Rc2 Rc3 Rc4 Rk0 Rk1 Rk2 Rk3 Rk4
    replace oX := oX.stay hb
    replace ltX := oX.lt
    replace oR := oR.stay hb
    replace ltR := oR.lt
    replace hR := hR.below hb
    replace hRm := hRm.below hb
    replace hbw := hbw.step hb (Nat.le_refl _)
    clear hb
    have HNP : Hid ((plainM ps).length = nP) := hnP
    clear hnP
    have hn := below_new w4 (.cells #[.slice aP nP cP, .string (nT m0)] 50 (0, 0))
    have oP := Blk.new w4 50 #[.slice aP nP cP, .string (nT m0)]
    have neXP : w.heap.size ≠ w4.heap.size := by have := ltX; (try simp at this); omega
    have neRP : w3.heap.size ≠ w4.heap.size := by have := ltR; (try simp at this); omega
    have lwP : w.heap.size ≤ w4.heap.size := by have := hbw.size; (try simp at this); omega
    replace oX := oX.stay hn
    replace ltX := oX.lt
    replace oR := oR.stay hn
    replace ltR := oR.lt
    replace hR := hR.below hn
    replace hRm := hRm.below hn
    replace hP := hP.below hn
    replace hbw := hbw.step hn (Nat.le_refl _)
    clear hn
    have ltP := oP.lt
    obtain ⟨Pc0, Pc1, Pk0, Pk1⟩ := oP.two
    go_wp2_with fail
    refine (read_back _ ps m0 _ ⟨_, _, _, rfl, HNP.out, hP⟩ HF.out HML.out).mono ?_
    rintro e w5 ⟨pB, qB, rB, xB, aB, nB, cB, yB, dB, lB, fB, rfl, hB, hBm, hb⟩
    clear Pc0 Pc1 Pk0 Pk1
    replace oX := oX.stay hb
    replace ltX := oX.lt
    replace oR := oR.stay hb
    replace ltR := oR.lt
    replace oP := oP.stay hb
    replace ltP := oP.lt
    replace hR := hR.below hb
    replace hRm := hRm.below hb
    replace hP := hP.below hb
    replace hbw := hbw.step hb (Nat.le_refl _)
    clear hb
    have hn := below_new w5 (.cells #[.slice pB qB rB, .bool xB, .slice aB nB cB, .bool yB, .slice dB lB fB] 42 (0, 0))
    have oB := Blk.new w5 42 #[.slice pB qB rB, .bool xB, .slice aB nB cB, .bool yB, .slice dB lB fB]
    have neXB : w.heap.size ≠ w5.heap.size := by have := ltX; (try simp at this); omega
    have neRB : w3.heap.size ≠ w5.heap.size := by have := ltR; (try simp at this); omega
    have nePB : w4.heap.size ≠ w5.heap.size := by have := ltP; (try simp at this); omega
    have lwB : w.heap.size ≤ w5.heap.size := by have := hbw.size; (try simp at this); omega
    replace oX := oX.stay hn
    replace ltX := oX.lt
    replace oR := oR.stay hn
    replace ltR := oR.lt
    replace oP := oP.stay hn
    replace ltP := oP.lt
    replace hR := hR.below hn
    replace hRm := hRm.below hn
    replace hP := hP.below hn
    replace hB := hB.below hn
    replace hBm := hBm.below hn
    replace hbw := hbw.step hn (Nat.le_refl _)
    clear hn
    have ltB := oB.lt
    have hpp : decide (ps = ps ∧ (0 : Int) = 0) = true := decide_eq_true ⟨rfl, rfl⟩
    go_wp2
    generalize (w5.alloc (.cells #[.slice pB qB rB, .bool xB, .slice aB nB cB, .bool yB, .slice dB lB fB] 42 (0, 0))) = W5 at hbw oX oR oP oB ltX ltR ltP ltB hR hRm hP hB hBm ⊢
    clear ltX oX
    have hbW := hbw
    refine wp_region_M (by kernel_rfl) [29, 30, 31, 32, 33, 34, 35, 36, 37, 38, 39, 40, 41, 42, 43, 44, 45] [none, none, none, none, none, none, none, none, none, none, none, none, none, none, none, none, none, none, none, none, none, none, none, none, none, none, none, none, none, some 29, some 30, some 31, some 32, some 33, some 34, some 35, some 36, some 37, some 38, some 39, some 40, some 41, some 42, some 43, some 44, some 45] (fun U => by kernel_rfl) (fun L U wr => Below w.heap.size w wr ∧ KeepB W5 wr ∧ W5.heap.size ≤ wr.heap.size ∧ Blk 42 wr (w3.heap.size) #[.slice pR qR rR, .bool xR, .slice aR nR cR, .bool yR, .slice dR lR fR] ∧ Blk 50 wr (w4.heap.size) #[.slice aP nP cP, .string (nT m0)] ∧ Blk 42 wr (w5.heap.size) #[.slice pB qB rB, .bool xB, .slice aB nB cB, .bool yB, .slice dB lB fB] ∧ (L 0 = true → IS (.int .i64 0) (U 29) wr) ∧ (L 1 = true → IS (.bool false) (U 30) wr) ∧ (L 2 = true → IS (.bool false) (U 31) wr) ∧ (L 3 = true → IS (.agg #[.slice pB qB rB, .bool xB, .slice aB nB cB, .bool yB, .slice dB lB fB]) (U 32) wr) ∧ (L 4 = true → PLN ps m0 (U 33) wr) ∧ (L 5 = true → IS (.agg #[.slice aP nP cP, .string (nT m0)]) (U 34) wr) ∧ (L 6 = true → IS (.bool true) (U 35) wr) ∧ (L 7 = true → IS (.bool false) (U 36) wr) ∧ (L 8 = true → IS (.bool false) (U 37) wr) ∧ (L 9 = true → IS (.bool false) (U 38) wr) ∧ (L 10 = true → IS (.pointer (some ⟨w3.heap.size, 0, none⟩)) (U 39) wr) ∧ (L 11 = true → IS (.agg #[.slice pR qR rR, .bool xR, .slice aR nR cR]) (U 40) wr) ∧ (L 12 = true → IS (.pointer (some ⟨w5.heap.size, 0, none⟩)) (U 41) wr) ∧ (L 13 = true → IS (.agg #[.slice pB qB rB, .bool xB, .slice aB nB cB]) (U 42) wr) ∧ (L 14 = true → IS (.bool true) (U 43) wr) ∧ (L 15 = true → IS (.bool false) (U 44) wr) ∧ (L 16 = true → IS (.bool false) (U 45) wr)) (by kernel_rfl) ?_ ?_ ?_
    · exact fun U => ⟨hbw.drew, KeepB.below (Below.refl _ _).drew, Nat.le_refl _, oR.drew, oP.drew, oB.drew, (fun h => by cases h), (fun h => by cases h), (fun h => by cases h), (fun h => by cases h), (fun h => by cases h), (fun h => by cases h), (fun h => by cases h), (fun h => by cases h), (fun h => by cases h), (fun h => by cases h), (fun h => by cases h), (fun h => by cases h), (fun h => by cases h), (fun h => by cases h), (fun h => by cases h), (fun h => by cases h), (fun h => by cases h)⟩
    · refine StepsU.run rfl ?_ ?_
      · intro L U wr hF hlk haf A K hA hK
        have HA : Hid (A = putAll _ _ U) := hA
        clear hA
        simp [Aft, Region.binds] at haf
        obtain ⟨fb, fk, fs, oR, oP, oB, f0, f1, f2, f3, f4, f5, f6, f7, f8, f9, f10, f11, f12, f13, f14, f15, f16⟩ := hF
        have e7 : A.tmps[7]? = some (.int .i64 0) := by rw [HA.out]; kernel_rfl
        refine ⟨?_⟩
        go_simp
        refine hK (upd U 29 (.int .i64 0)) _ _ ?_ ?_
        · rw [HA.out]; kernel_rfl
        · exact ⟨fb, fk, fs, oR, oP, oB, (fun _ => rfl), f1, f2, f3, f4, f5, f6, f7, f8, f9, f10, f11, f12, f13, f14, f15, f16⟩
      refine StepsU.run rfl ?_ ?_
      · intro L U wr hF hlk haf A K hA hK
        have HA : Hid (A = putAll _ _ U) := hA
        clear hA
        simp [Aft, Region.binds] at haf
        obtain ⟨fb, fk, fs, oR, oP, oB, f0, f1, f2, f3, f4, f5, f6, f7, f8, f9, f10, f11, f12, f13, f14, f15, f16⟩ := hF
        have g0 := f0 (by simp [haf])
        have e29 := rd HA.out 29 (by kernel_rfl) g0
        refine ⟨?_⟩
        go_simp
        refine hK (upd U 30 (.bool false)) _ _ ?_ ?_
        · rw [HA.out]; kernel_rfl
        · exact ⟨fb, fk, fs, oR, oP, oB, f0, (fun _ => rfl), f2, f3, f4, f5, f6, f7, f8, f9, f10, f11, f12, f13, f14, f15, f16⟩
      refine StepsU.run rfl ?_ ?_
      · intro L U wr hF hlk haf A K hA hK
        have HA : Hid (A = putAll _ _ U) := hA
        clear hA
        simp [Aft, Region.binds] at haf
        obtain ⟨fb, fk, fs, oR, oP, oB, f0, f1, f2, f3, f4, f5, f6, f7, f8, f9, f10, f11, f12, f13, f14, f15, f16⟩ := hF
        have g1 := f1 (by simp [haf])
        have e30 := rd HA.out 30 (by kernel_rfl) rfl
        refine ⟨?_⟩
        go_simp
        refine hK (upd U 31 (U 30)) _ _ ?_ ?_
        · rw [HA.out]; kernel_rfl
        · exact ⟨fb, fk, fs, oR, oP, oB, f0, f1, (fun _ => g1), f3, f4, f5, f6, f7, f8, f9, f10, f11, f12, f13, f14, f15, f16⟩
      refine StepsU.cond ?_ ?_
      · intro L U wr hF hlk haf A K hA hK
        have HA : Hid (A = putAll _ _ U) := hA
        clear hA
        simp [Aft, Region.binds] at haf
        obtain ⟨fb, fk, fs, oR, oP, oB, f0, f1, f2, f3, f4, f5, f6, f7, f8, f9, f10, f11, f12, f13, f14, f15, f16⟩ := hF
        have gg := f2 (by simp [haf])
        have ee := rd HA.out 31 (by kernel_rfl) gg
        refine ⟨?_⟩
        rw [if_pos (by simp [Region.wanted, yielded, ee])]
        refine Gate.out ?_
        clear gg ee
        have e6 : A.tmps[6]? = some (.pointer (some ⟨w5.heap.size, 0, none⟩)) := by rw [HA.out]; kernel_rfl
        have c0 := oB.cell 0
        have c1 := oB.cell 1
        have c2 := oB.cell 2
        have c3 := oB.cell 3
        have c4 := oB.cell 4
        simp at c0
        simp at c1
        simp at c2
        simp at c3
        simp at c4
        refine ⟨?_⟩
        go_simp
        refine hK (upd U 32 (.agg #[.slice pB qB rB, .bool xB, .slice aB nB cB, .bool yB, .slice dB lB fB])) _ _ ?_ ?_
        · rw [HA.out]; kernel_rfl
        · exact ⟨fb, fk, fs, oR, oP, oB, f0, f1, f2, (fun _ => rfl), f4, f5, f6, f7, f8, f9, f10, f11, f12, f13, f14, f15, f16⟩
      refine StepsU.cond ?_ ?_
      · intro L U wr hF hlk haf A K hA hK
        have HA : Hid (A = putAll _ _ U) := hA
        clear hA
        simp [Aft, Region.binds] at haf
        obtain ⟨fb, fk, fs, oR, oP, oB, f0, f1, f2, f3, f4, f5, f6, f7, f8, f9, f10, f11, f12, f13, f14, f15, f16⟩ := hF
        have gg := f2 (by simp [haf])
        have ee := rd HA.out 31 (by kernel_rfl) gg
        refine ⟨?_⟩
        rw [if_pos (by simp [Region.wanted, yielded, ee])]
        refine Gate.out ?_
        clear gg ee
        have g3 := f3 (by simp [haf])
        have e32 := rd HA.out 32 (by kernel_rfl) g3
        refine ⟨?_⟩
        go_simp
        refine (plain_h _ ps m0 _ ⟨_, _, _, _, _, _, _, _, _, _, _, rfl, hB.below fk.b, hBm.below fk.b⟩).mono ?_
        rintro e w1 ⟨v, rfl, hr, hb⟩
        go_simp
        refine hK (upd U 33 v) _ _ ?_ ?_
        · rw [HA.out]; kernel_rfl
        · exact ⟨(fb.step hb (Nat.le_refl _)), (fk.trans (KeepB.below hb)), (Nat.le_trans fs hb.size), (oR.stay hb), (oP.stay hb), (oB.stay hb), (mvB mb_is (KeepB.below hb) f0), (mvB mb_is (KeepB.below hb) f1), (mvB mb_is (KeepB.below hb) f2), (mvB mb_is (KeepB.below hb) f3), (fun _ => hr), (mvB mb_is (KeepB.below hb) f5), (mvB mb_is (KeepB.below hb) f6), (mvB mb_is (KeepB.below hb) f7), (mvB mb_is (KeepB.below hb) f8), (mvB mb_is (KeepB.below hb) f9), (mvB mb_is (KeepB.below hb) f10), (mvB mb_is (KeepB.below hb) f11), (mvB mb_is (KeepB.below hb) f12), (mvB mb_is (KeepB.below hb) f13), (mvB mb_is (KeepB.below hb) f14), (mvB mb_is (KeepB.below hb) f15), (mvB mb_is (KeepB.below hb) f16)⟩
      refine StepsU.cond ?_ ?_
      · intro L U wr hF hlk haf A K hA hK
        have HA : Hid (A = putAll _ _ U) := hA
        clear hA
        simp [Aft, Region.binds] at haf
        obtain ⟨fb, fk, fs, oR, oP, oB, f0, f1, f2, f3, f4, f5, f6, f7, f8, f9, f10, f11, f12, f13, f14, f15, f16⟩ := hF
        have gg := f2 (by simp [haf])
        have ee := rd HA.out 31 (by kernel_rfl) gg
        refine ⟨?_⟩
        rw [if_pos (by simp [Region.wanted, yielded, ee])]
        refine Gate.out ?_
        clear gg ee
        have e5 : A.tmps[5]? = some (.pointer (some ⟨w4.heap.size, 0, none⟩)) := by rw [HA.out]; kernel_rfl
        have c0 := oP.cell 0
        have c1 := oP.cell 1
        simp at c0
        simp at c1
        refine ⟨?_⟩
        go_simp
        refine hK (upd U 34 (.agg #[.slice aP nP cP, .string (nT m0)])) _ _ ?_ ?_
        · rw [HA.out]; kernel_rfl
        · exact ⟨fb, fk, fs, oR, oP, oB, f0, f1, f2, f3, f4, (fun _ => rfl), f6, f7, f8, f9, f10, f11, f12, f13, f14, f15, f16⟩
      refine StepsU.cond ?_ ?_
      · intro L U wr hF hlk haf A K hA hK
        have HA : Hid (A = putAll _ _ U) := hA
        clear hA
        simp [Aft, Region.binds] at haf
        obtain ⟨fb, fk, fs, oR, oP, oB, f0, f1, f2, f3, f4, f5, f6, f7, f8, f9, f10, f11, f12, f13, f14, f15, f16⟩ := hF
        have gg := f2 (by simp [haf])
        have ee := rd HA.out 31 (by kernel_rfl) gg
        refine ⟨?_⟩
        rw [if_pos (by simp [Region.wanted, yielded, ee])]
        refine Gate.out ?_
        clear gg ee
        have g4 := f4 (by simp [haf])
        have e33 := rd HA.out 33 (by kernel_rfl) rfl
        have g5 := f5 (by simp [haf])
        have e34 := rd HA.out 34 (by kernel_rfl) g5
        refine ⟨?_⟩
        go_simp
        refine (sameRow_h _ _ ps m0 _ g4 ⟨_, _, _, rfl, HNP.out, hP.below fk.b⟩ HF.out).mono ?_
        rintro e w1 ⟨rfl, hb⟩
        go_simp
        refine hK (upd U 35 (.bool true)) _ _ ?_ ?_
        · rw [HA.out]; kernel_rfl
        · exact ⟨(fb.step hb (Nat.le_refl _)), (fk.trans (KeepB.below hb)), (Nat.le_trans fs hb.size), (oR.stay hb), (oP.stay hb), (oB.stay hb), (mvB mb_is (KeepB.below hb) f0), (mvB mb_is (KeepB.below hb) f1), (mvB mb_is (KeepB.below hb) f2), (mvB mb_is (KeepB.below hb) f3), (mvB mb_pln (KeepB.below hb) f4), (mvB mb_is (KeepB.below hb) f5), (fun _ => rfl), (mvB mb_is (KeepB.below hb) f7), (mvB mb_is (KeepB.below hb) f8), (mvB mb_is (KeepB.below hb) f9), (mvB mb_is (KeepB.below hb) f10), (mvB mb_is (KeepB.below hb) f11), (mvB mb_is (KeepB.below hb) f12), (mvB mb_is (KeepB.below hb) f13), (mvB mb_is (KeepB.below hb) f14), (mvB mb_is (KeepB.below hb) f15), (mvB mb_is (KeepB.below hb) f16)⟩
      refine StepsU.cond ?_ ?_
      · intro L U wr hF hlk haf A K hA hK
        have HA : Hid (A = putAll _ _ U) := hA
        clear hA
        simp [Aft, Region.binds] at haf
        obtain ⟨fb, fk, fs, oR, oP, oB, f0, f1, f2, f3, f4, f5, f6, f7, f8, f9, f10, f11, f12, f13, f14, f15, f16⟩ := hF
        have gg := f2 (by simp [haf])
        have ee := rd HA.out 31 (by kernel_rfl) gg
        refine ⟨?_⟩
        rw [if_pos (by simp [Region.wanted, yielded, ee])]
        refine Gate.out ?_
        clear gg ee
        have g6 := f6 (by simp [haf])
        have e35 := rd HA.out 35 (by kernel_rfl) g6
        refine ⟨?_⟩
        go_simp
        refine hK (upd U 36 (.bool false)) _ _ ?_ ?_
        · rw [HA.out]; kernel_rfl
        · exact ⟨fb, fk, fs, oR, oP, oB, f0, f1, f2, f3, f4, f5, f6, (fun _ => rfl), f8, f9, f10, f11, f12, f13, f14, f15, f16⟩
      refine StepsU.run rfl ?_ ?_
      · intro L U wr hF hlk haf A K hA hK
        have HA : Hid (A = putAll _ _ U) := hA
        clear hA
        simp [Aft, Region.binds] at haf
        obtain ⟨fb, fk, fs, oR, oP, oB, f0, f1, f2, f3, f4, f5, f6, f7, f8, f9, f10, f11, f12, f13, f14, f15, f16⟩ := hF
        have g2 := f2 (by simp [haf])
        have g7 := f7 (by simp [haf])
        have e31 := rd HA.out 31 (by kernel_rfl) g2
        have e36 := rd HA.out 36 (by kernel_rfl) g7
        refine ⟨?_⟩
        go_simp
        refine hK (upd U 37 (.bool false)) _ _ ?_ ?_
        · rw [HA.out]; kernel_rfl
        · exact ⟨fb, fk, fs, oR, oP, oB, f0, f1, f2, f3, f4, f5, f6, f7, (fun _ => rfl), f9, f10, f11, f12, f13, f14, f15, f16⟩
      refine StepsU.run rfl ?_ ?_
      · intro L U wr hF hlk haf A K hA hK
        have HA : Hid (A = putAll _ _ U) := hA
        clear hA
        simp [Aft, Region.binds] at haf
        obtain ⟨fb, fk, fs, oR, oP, oB, f0, f1, f2, f3, f4, f5, f6, f7, f8, f9, f10, f11, f12, f13, f14, f15, f16⟩ := hF
        have g8 := f8 (by simp [haf])
        have e37 := rd HA.out 37 (by kernel_rfl) rfl
        refine ⟨?_⟩
        go_simp
        refine hK (upd U 38 (U 37)) _ _ ?_ ?_
        · rw [HA.out]; kernel_rfl
        · exact ⟨fb, fk, fs, oR, oP, oB, f0, f1, f2, f3, f4, f5, f6, f7, f8, (fun _ => g8), f10, f11, f12, f13, f14, f15, f16⟩
      refine StepsU.cond ?_ ?_
      · intro L U wr hF hlk haf A K hA hK
        have HA : Hid (A = putAll _ _ U) := hA
        clear hA
        simp [Aft, Region.binds] at haf
        obtain ⟨fb, fk, fs, oR, oP, oB, f0, f1, f2, f3, f4, f5, f6, f7, f8, f9, f10, f11, f12, f13, f14, f15, f16⟩ := hF
        have gg := f9 (by simp [haf])
        have ee := rd HA.out 38 (by kernel_rfl) gg
        refine ⟨?_⟩
        rw [if_pos (by simp [Region.wanted, yielded, ee])]
        refine Gate.out ?_
        clear gg ee
        have e3 : A.tmps[3]? = some (.pointer (some ⟨w3.heap.size, 0, none⟩)) := by rw [HA.out]; kernel_rfl
        refine ⟨?_⟩
        go_simp
        refine hK (upd U 39 (.pointer (some ⟨w3.heap.size, 0, none⟩))) _ _ ?_ ?_
        · rw [HA.out]; kernel_rfl
        · exact ⟨fb, fk, fs, oR, oP, oB, f0, f1, f2, f3, f4, f5, f6, f7, f8, f9, (fun _ => rfl), f11, f12, f13, f14, f15, f16⟩
      refine StepsU.cond ?_ ?_
      · intro L U wr hF hlk haf A K hA hK
        have HA : Hid (A = putAll _ _ U) := hA
        clear hA
        simp [Aft, Region.binds] at haf
        obtain ⟨fb, fk, fs, oR, oP, oB, f0, f1, f2, f3, f4, f5, f6, f7, f8, f9, f10, f11, f12, f13, f14, f15, f16⟩ := hF
        have gg := f9 (by simp [haf])
        have ee := rd HA.out 38 (by kernel_rfl) gg
        refine ⟨?_⟩
        rw [if_pos (by simp [Region.wanted, yielded, ee])]
        refine Gate.out ?_
        clear gg ee
        have g10 := f10 (by simp [haf])
        have e39 := rd HA.out 39 (by kernel_rfl) g10
        have c0 := oR.cell 0
        have c1 := oR.cell 1
        have c2 := oR.cell 2
        simp at c0
        simp at c1
        simp at c2
        refine ⟨?_⟩
        go_simp
        refine hK (upd U 40 (.agg #[.slice pR qR rR, .bool xR, .slice aR nR cR])) _ _ ?_ ?_
        · rw [HA.out]; kernel_rfl
        · exact ⟨fb, fk, fs, oR, oP, oB, f0, f1, f2, f3, f4, f5, f6, f7, f8, f9, f10, (fun _ => rfl), f12, f13, f14, f15, f16⟩
      refine StepsU.cond ?_ ?_
      · intro L U wr hF hlk haf A K hA hK
        have HA : Hid (A = putAll _ _ U) := hA
        clear hA
        simp [Aft, Region.binds] at haf
        obtain ⟨fb, fk, fs, oR, oP, oB, f0, f1, f2, f3, f4, f5, f6, f7, f8, f9, f10, f11, f12, f13, f14, f15, f16⟩ := hF
        have gg := f9 (by simp [haf])
        have ee := rd HA.out 38 (by kernel_rfl) gg
        refine ⟨?_⟩
        rw [if_pos (by simp [Region.wanted, yielded, ee])]
        refine Gate.out ?_
        clear gg ee
        have e6 : A.tmps[6]? = some (.pointer (some ⟨w5.heap.size, 0, none⟩)) := by rw [HA.out]; kernel_rfl
        refine ⟨?_⟩
        go_simp
        refine hK (upd U 41 (.pointer (some ⟨w5.heap.size, 0, none⟩))) _ _ ?_ ?_
        · rw [HA.out]; kernel_rfl
        · exact ⟨fb, fk, fs, oR, oP, oB, f0, f1, f2, f3, f4, f5, f6, f7, f8, f9, f10, f11, (fun _ => rfl), f13, f14, f15, f16⟩
      refine StepsU.cond ?_ ?_
      · intro L U wr hF hlk haf A K hA hK
        have HA : Hid (A = putAll _ _ U) := hA
        clear hA
        simp [Aft, Region.binds] at haf
        obtain ⟨fb, fk, fs, oR, oP, oB, f0, f1, f2, f3, f4, f5, f6, f7, f8, f9, f10, f11, f12, f13, f14, f15, f16⟩ := hF
        have gg := f9 (by simp [haf])
        have ee := rd HA.out 38 (by kernel_rfl) gg
        refine ⟨?_⟩
        rw [if_pos (by simp [Region.wanted, yielded, ee])]
        refine Gate.out ?_
        clear gg ee
        have g12 := f12 (by simp [haf])
        have e41 := rd HA.out 41 (by kernel_rfl) g12
        have c0 := oB.cell 0
        have c1 := oB.cell 1
        have c2 := oB.cell 2
        simp at c0
        simp at c1
        simp at c2
        refine ⟨?_⟩
        go_simp
        refine hK (upd U 42 (.agg #[.slice pB qB rB, .bool xB, .slice aB nB cB])) _ _ ?_ ?_
        · rw [HA.out]; kernel_rfl
        · exact ⟨fb, fk, fs, oR, oP, oB, f0, f1, f2, f3, f4, f5, f6, f7, f8, f9, f10, f11, f12, (fun _ => rfl), f14, f15, f16⟩
      refine StepsU.cond ?_ ?_
      · intro L U wr hF hlk haf A K hA hK
        have HA : Hid (A = putAll _ _ U) := hA
        clear hA
        simp [Aft, Region.binds] at haf
        obtain ⟨fb, fk, fs, oR, oP, oB, f0, f1, f2, f3, f4, f5, f6, f7, f8, f9, f10, f11, f12, f13, f14, f15, f16⟩ := hF
        have gg := f9 (by simp [haf])
        have ee := rd HA.out 38 (by kernel_rfl) gg
        refine ⟨?_⟩
        rw [if_pos (by simp [Region.wanted, yielded, ee])]
        refine Gate.out ?_
        clear gg ee
        have g11 := f11 (by simp [haf])
        have e40 := rd HA.out 40 (by kernel_rfl) g11
        have g13 := f13 (by simp [haf])
        have e42 := rd HA.out 42 (by kernel_rfl) g13
        refine ⟨?_⟩
        go_simp
        refine (lsame_any _ _ ps ps 0 0 _ (hR.below fk.b).val (hB.below fk.b).val).mono ?_
        rintro e w1 ⟨rfl, hb⟩
        go_simp
        refine hK (upd U 43 (.bool true)) _ _ ?_ ?_
        · rw [HA.out]; kernel_rfl
        · exact ⟨(fb.step hb (Nat.le_refl _)), (fk.trans (KeepB.below hb)), (Nat.le_trans fs hb.size), (oR.stay hb), (oP.stay hb), (oB.stay hb), (mvB mb_is (KeepB.below hb) f0), (mvB mb_is (KeepB.below hb) f1), (mvB mb_is (KeepB.below hb) f2), (mvB mb_is (KeepB.below hb) f3), (mvB mb_pln (KeepB.below hb) f4), (mvB mb_is (KeepB.below hb) f5), (mvB mb_is (KeepB.below hb) f6), (mvB mb_is (KeepB.below hb) f7), (mvB mb_is (KeepB.below hb) f8), (mvB mb_is (KeepB.below hb) f9), (mvB mb_is (KeepB.below hb) f10), (mvB mb_is (KeepB.below hb) f11), (mvB mb_is (KeepB.below hb) f12), (mvB mb_is (KeepB.below hb) f13), (fun _ => rfl), (mvB mb_is (KeepB.below hb) f15), (mvB mb_is (KeepB.below hb) f16)⟩
      refine StepsU.cond ?_ ?_
      · intro L U wr hF hlk haf A K hA hK
        have HA : Hid (A = putAll _ _ U) := hA
        clear hA
        simp [Aft, Region.binds] at haf
        obtain ⟨fb, fk, fs, oR, oP, oB, f0, f1, f2, f3, f4, f5, f6, f7, f8, f9, f10, f11, f12, f13, f14, f15, f16⟩ := hF
        have gg := f9 (by simp [haf])
        have ee := rd HA.out 38 (by kernel_rfl) gg
        refine ⟨?_⟩
        rw [if_pos (by simp [Region.wanted, yielded, ee])]
        refine Gate.out ?_
        clear gg ee
        have g14 := f14 (by simp [haf])
        have e43 := rd HA.out 43 (by kernel_rfl) g14
        refine ⟨?_⟩
        go_simp
        refine hK (upd U 44 (.bool false)) _ _ ?_ ?_
        · rw [HA.out]; kernel_rfl
        · exact ⟨fb, fk, fs, oR, oP, oB, f0, f1, f2, f3, f4, f5, f6, f7, f8, f9, f10, f11, f12, f13, f14, (fun _ => rfl), f16⟩
      refine StepsU.run rfl ?_ StepsU.nil
      · intro L U wr hF hlk haf A K hA hK
        have HA : Hid (A = putAll _ _ U) := hA
        clear hA
        simp [Aft, Region.binds] at haf
        obtain ⟨fb, fk, fs, oR, oP, oB, f0, f1, f2, f3, f4, f5, f6, f7, f8, f9, f10, f11, f12, f13, f14, f15, f16⟩ := hF
        have g9 := f9 (by simp [haf])
        have g15 := f15 (by simp [haf])
        have e38 := rd HA.out 38 (by kernel_rfl) g9
        have e44 := rd HA.out 44 (by kernel_rfl) g15
        refine ⟨?_⟩
        go_simp
        refine hK (upd U 45 (.bool false)) _ _ ?_ ?_
        · rw [HA.out]; kernel_rfl
        · exact ⟨fb, fk, fs, oR, oP, oB, f0, f1, f2, f3, f4, f5, f6, f7, f8, f9, f10, f11, f12, f13, f14, f15, (fun _ => rfl)⟩
    clear hbw oR oP oB
    intro L U6 V6 hall hF
    obtain ⟨hbw, fk, fs, oR, oP, oB, f0, f1, f2, f3, f4, f5, f6, f7, f8, f9, f10, f11, f12, f13, f14, f15, f16⟩ := hF
    have g0 := f0 (hall 0 (by decide))
    have g1 := f1 (hall 1 (by decide))
    have g2 := f2 (hall 2 (by decide))
    have g3 := f3 (hall 3 (by decide))
    have g4 := f4 (hall 4 (by decide))
    have g5 := f5 (hall 5 (by decide))
    have g6 := f6 (hall 6 (by decide))
    have g7 := f7 (hall 7 (by decide))
    have g8 := f8 (hall 8 (by decide))
    have g9 := f9 (hall 9 (by decide))
    have g10 := f10 (hall 10 (by decide))
    have g11 := f11 (hall 11 (by decide))
    have g12 := f12 (hall 12 (by decide))
    have g13 := f13 (hall 13 (by decide))
    have g14 := f14 (hall 14 (by decide))
    have g15 := f15 (hall 15 (by decide))
    have g16 := f16 (hall 16 (by decide))
    clear hall f0 f1 f2 f3 f4 f5 f6 f7 f8 f9 f10 f11 f12 f13 f14 f15 f16
    replace hR := hR.below fk.b
    replace hRm := hRm.below fk.b
    replace hP := hP.below fk.b
    replace hB := hB.below fk.b
    replace hBm := hBm.below fk.b
    replace ltR := oR.lt
    replace ltP := oP.lt
    replace ltB := oB.lt
    try clear g0
    try clear g1
    try clear g2
    try clear g3
    try clear g4
    try clear g5
    try clear g6
    try clear g7
    try clear g8
    try clear g9
    try clear g10
    try clear g11
    try clear g12
    try clear g13
    try clear g14
    try clear g15
    clear hbW
    simp only [setM_some, setM_none, setM_nil]
    clear fk fs
    have e45 : U6 45 = _ := g16
    rw [e45]
    clear g16 e45 hpp
    clear ltB oB
    clear hB hBm
    obtain ⟨Rc0, Rc1, Rc2, Rc3, Rc4⟩ := oR.five
    obtain ⟨Rk0, Rk1, Rk2, Rk3, Rk4⟩ := oR.frozen5
    go_wp2_with fail
    refine (lnot_h _ ps m0 _ ⟨_, _, _, _, _, _, _, _, _, _, _, rfl, hR, hRm⟩).mono ?_
    rintro e w7 ⟨pN, qN, rN, xN, aN, nN, cN, yN, dN, lN, fN, qs, k0, cn, rfl, hN, hNm, HN, hb⟩
    clear Rc0 Rc1 Rc2 Rc3 Rc4 Rk0 Rk1 Rk2 Rk3 Rk4
    replace oR := oR.stay hb
    replace ltR := oR.lt
    replace oP := oP.stay hb
    replace ltP := oP.lt
    replace hR := hR.below hb
    replace hRm := hRm.below hb
    replace hP := hP.below hb
    replace hbw := hbw.step hb (Nat.le_refl _)
    clear hb
    have hn := below_new w7 (.cells #[.slice pN qN rN, .bool xN, .slice aN nN cN, .bool yN, .slice dN lN fN] 42 (0, 0))
    have oN := Blk.new w7 42 #[.slice pN qN rN, .bool xN, .slice aN nN cN, .bool yN, .slice dN lN fN]
    have neRN : w3.heap.size ≠ w7.heap.size := by have := ltR; (try simp at this); omega
    have nePN : w4.heap.size ≠ w7.heap.size := by have := ltP; (try simp at this); omega
    have lwN : w.heap.size ≤ w7.heap.size := by have := hbw.size; (try simp at this); omega
    replace oR := oR.stay hn
    replace ltR := oR.lt
    replace oP := oP.stay hn
    replace ltP := oP.lt
    replace hR := hR.below hn
    replace hRm := hRm.below hn
    replace hP := hP.below hn
    replace hN := hN.below hn
    replace hNm := hNm.below hn
    replace hbw := hbw.step hn (Nat.le_refl _)
    clear hn
    have ltN := oN.lt
    obtain ⟨Nc0, Nc1, Nc2, Nc3, Nc4⟩ := oN.five
    obtain ⟨Nk0, Nk1, Nk2, Nk3, Nk4⟩ := oN.frozen5
    go_wp2_with fail
    refine (lnot_h _ qs k0 _ ⟨_, _, _, _, _, _, _, _, _, _, _, rfl, hN, hNm⟩).mono ?_
    rintro e w8 ⟨pM, qM, rM, xM, aM, nM, cM, yM, dM, lM, fM, us, j0, cm9, rfl, hM, hMm, HN2, hb⟩
    clear Nc0 Nc1 Nc2 Nc3 Nc4 Nk0 Nk1 Nk2 Nk3 Nk4
    replace oR := oR.stay hb
    replace ltR := oR.lt
    replace oP := oP.stay hb
    replace ltP := oP.lt
    replace oN := oN.stay hb
    replace ltN := oN.lt
    replace hR := hR.below hb
    replace hRm := hRm.below hb
    replace hP := hP.below hb
    replace hN := hN.below hb
    replace hNm := hNm.below hb
    replace hbw := hbw.step hb (Nat.le_refl _)
    clear hb
    have hn := below_new w8 (.cells #[.slice pM qM rM, .bool xM, .slice aM nM cM, .bool yM, .slice dM lM fM] 42 (0, 0))
    have oM := Blk.new w8 42 #[.slice pM qM rM, .bool xM, .slice aM nM cM, .bool yM, .slice dM lM fM]
    have neRM : w3.heap.size ≠ w8.heap.size := by have := ltR; (try simp at this); omega
    have nePM : w4.heap.size ≠ w8.heap.size := by have := ltP; (try simp at this); omega
    have neNM : w7.heap.size ≠ w8.heap.size := by have := ltN; (try simp at this); omega
    have lwM : w.heap.size ≤ w8.heap.size := by have := hbw.size; (try simp at this); omega
    replace oR := oR.stay hn
    replace ltR := oR.lt
    replace oP := oP.stay hn
    replace ltP := oP.lt
    replace oN := oN.stay hn
    replace ltN := oN.lt
    replace hR := hR.below hn
    replace hRm := hRm.below hn
    replace hP := hP.below hn
    replace hN := hN.below hn
    replace hNm := hNm.below hn
    replace hM := hM.below hn
    replace hMm := hMm.below hn
    replace hbw := hbw.step hn (Nat.le_refl _)
    clear hn
    have ltM := oM.lt
    by_cases h1 : cn = 0
    · by_cases h2 : cm9 = 0
      · have HQ := HN.out h1
        have HQ2 := HN2.out h2
        subst h1
        subst h2
        obtain ⟨rfl, rfl⟩ := HQ
        obtain ⟨rfl, rfl⟩ := HQ2
        rw [mulP_twice] at hM
        have hj : -(-(m0 + 1) + 1) = m0 := by omega
        rw [hj] at hMm
        clear hj HN HN2
        go_wp2
        generalize (w8.alloc (.cells #[.slice pM qM rM, .bool xM, .slice aM nM cM, .bool yM, .slice dM lM fM] 42 (0, 0))) = W8 at hbw oR oP oN oM ltR ltP ltN ltM hR hRm hP hN hNm hM hMm ⊢
        clear ltR oR
        clear ltN oN
        have hbW := hbw
        refine wp_region_M (by kernel_rfl) [2, 56, 57, 58, 59, 60, 61, 62, 63, 64, 65, 66, 67] [none, none, some 2, none, none, none, none, none, none, none, none, none, none, none, none, none, none, none, none, none, none, none, none, none, none, none, none, none, none, none, none, none, none, none, none, none, none, none, none, none, none, none, none, none, none, none, none, none, none, none, none, none, none, none, none, none, some 56, some 57, some 58, some 59, some 60, some 61, some 62, some 63, some 64, some 65, some 66, some 67] (fun U => by kernel_rfl) (fun L U wr => Below w.heap.size w wr ∧ KeepB W8 wr ∧ W8.heap.size ≤ wr.heap.size ∧ Blk 50 wr (w4.heap.size) #[.slice aP nP cP, .string (nT m0)] ∧ Blk 42 wr (w8.heap.size) #[.slice pM qM rM, .bool xM, .slice aM nM cM, .bool yM, .slice dM lM fM] ∧ (L 0 = true → IS (.int .i64 0) (U 56) wr) ∧ (L 1 = true → IS (.bool false) (U 57) wr) ∧ (L 2 = true → IS (.bool false) (U 58) wr) ∧ (L 3 = true → IS (.int .i64 0) (U 59) wr) ∧ (L 4 = true → IS (.bool false) (U 60) wr) ∧ (L 5 = true → IS (.bool false) (U 61) wr) ∧ (L 6 = true → IS (.bool false) (U 62) wr) ∧ (L 7 = true → IS (.agg #[.slice pM qM rM, .bool xM, .slice aM nM cM, .bool yM, .slice dM lM fM]) (U 63) wr) ∧ (L 8 = true → PLN ps m0 (U 64) wr) ∧ (L 9 = true → IS (.agg #[.slice aP nP cP, .string (nT m0)]) (U 65) wr) ∧ (L 10 = true → IS (.bool true) (U 66) wr) ∧ (L 11 = true → IS (.bool true) (U 67) wr) ∧ (L 12 = true → IS (.bool true) (U 2) wr)) (by kernel_rfl) ?_ ?_ ?_
        · exact fun U => ⟨hbw.drew, KeepB.below (Below.refl _ _).drew, Nat.le_refl _, oP.drew, oM.drew, (fun h => by cases h), (fun h => by cases h), (fun h => by cases h), (fun h => by cases h), (fun h => by cases h), (fun h => by cases h), (fun h => by cases h), (fun h => by cases h), (fun h => by cases h), (fun h => by cases h), (fun h => by cases h), (fun h => by cases h), (fun h => by cases h)⟩
        · refine StepsU.run rfl ?_ ?_
          · intro L U wr hF hlk haf A K hA hK
            have HA : Hid (A = putAll _ _ U) := hA
            clear hA
            simp [Aft, Region.binds] at haf
            obtain ⟨fb, fk, fs, oP, oM, f0, f1, f2, f3, f4, f5, f6, f7, f8, f9, f10, f11, f12⟩ := hF
            have e9 : A.tmps[9]? = some (.int .i64 0) := by rw [HA.out]; kernel_rfl
            refine ⟨?_⟩
            go_simp
            refine hK (upd U 56 (.int .i64 0)) _ _ ?_ ?_
            · rw [HA.out]; kernel_rfl
            · exact ⟨fb, fk, fs, oP, oM, (fun _ => rfl), f1, f2, f3, f4, f5, f6, f7, f8, f9, f10, f11, f12⟩
          refine StepsU.run rfl ?_ ?_
          · intro L U wr hF hlk haf A K hA hK
            have HA : Hid (A = putAll _ _ U) := hA
            clear hA
            simp [Aft, Region.binds] at haf
            obtain ⟨fb, fk, fs, oP, oM, f0, f1, f2, f3, f4, f5, f6, f7, f8, f9, f10, f11, f12⟩ := hF
            have g0 := f0 (by simp [haf])
            have e56 := rd HA.out 56 (by kernel_rfl) g0
            refine ⟨?_⟩
            go_simp
            refine hK (upd U 57 (.bool false)) _ _ ?_ ?_
            · rw [HA.out]; kernel_rfl
            · exact ⟨fb, fk, fs, oP, oM, f0, (fun _ => rfl), f2, f3, f4, f5, f6, f7, f8, f9, f10, f11, f12⟩
          refine StepsU.run rfl ?_ ?_
          · intro L U wr hF hlk haf A K hA hK
            have HA : Hid (A = putAll _ _ U) := hA
            clear hA
            simp [Aft, Region.binds] at haf
            obtain ⟨fb, fk, fs, oP, oM, f0, f1, f2, f3, f4, f5, f6, f7, f8, f9, f10, f11, f12⟩ := hF
            have g1 := f1 (by simp [haf])
            have e57 := rd HA.out 57 (by kernel_rfl) rfl
            refine ⟨?_⟩
            go_simp
            refine hK (upd U 58 (U 57)) _ _ ?_ ?_
            · rw [HA.out]; kernel_rfl
            · exact ⟨fb, fk, fs, oP, oM, f0, f1, (fun _ => g1), f3, f4, f5, f6, f7, f8, f9, f10, f11, f12⟩
          refine StepsU.cond ?_ ?_
          · intro L U wr hF hlk haf A K hA hK
            have HA : Hid (A = putAll _ _ U) := hA
            clear hA
            simp [Aft, Region.binds] at haf
            obtain ⟨fb, fk, fs, oP, oM, f0, f1, f2, f3, f4, f5, f6, f7, f8, f9, f10, f11, f12⟩ := hF
            have gg := f2 (by simp [haf])
            have ee := rd HA.out 58 (by kernel_rfl) gg
            refine ⟨?_⟩
            rw [if_pos (by simp [Region.wanted, yielded, ee])]
            refine Gate.out ?_
            clear gg ee
            have e11 : A.tmps[11]? = some (.int .i64 0) := by rw [HA.out]; kernel_rfl
            refine ⟨?_⟩
            go_simp
            refine hK (upd U 59 (.int .i64 0)) _ _ ?_ ?_
            · rw [HA.out]; kernel_rfl
            · exact ⟨fb, fk, fs, oP, oM, f0, f1, f2, (fun _ => rfl), f4, f5, f6, f7, f8, f9, f10, f11, f12⟩
          refine StepsU.cond ?_ ?_
          · intro L U wr hF hlk haf A K hA hK
            have HA : Hid (A = putAll _ _ U) := hA
            clear hA
            simp [Aft, Region.binds] at haf
            obtain ⟨fb, fk, fs, oP, oM, f0, f1, f2, f3, f4, f5, f6, f7, f8, f9, f10, f11, f12⟩ := hF
            have gg := f2 (by simp [haf])
            have ee := rd HA.out 58 (by kernel_rfl) gg
            refine ⟨?_⟩
            rw [if_pos (by simp [Region.wanted, yielded, ee])]
            refine Gate.out ?_
            clear gg ee
            have g3 := f3 (by simp [haf])
            have e59 := rd HA.out 59 (by kernel_rfl) g3
            refine ⟨?_⟩
            go_simp
            refine hK (upd U 60 (.bool false)) _ _ ?_ ?_
            · rw [HA.out]; kernel_rfl
            · exact ⟨fb, fk, fs, oP, oM, f0, f1, f2, f3, (fun _ => rfl), f5, f6, f7, f8, f9, f10, f11, f12⟩
          refine StepsU.run rfl ?_ ?_
          · intro L U wr hF hlk haf A K hA hK
            have HA : Hid (A = putAll _ _ U) := hA
            clear hA
            simp [Aft, Region.binds] at haf
            obtain ⟨fb, fk, fs, oP, oM, f0, f1, f2, f3, f4, f5, f6, f7, f8, f9, f10, f11, f12⟩ := hF
            have g2 := f2 (by simp [haf])
            have g4 := f4 (by simp [haf])
            have e58 := rd HA.out 58 (by kernel_rfl) g2
            have e60 := rd HA.out 60 (by kernel_rfl) g4
            refine ⟨?_⟩
            go_simp
            refine hK (upd U 61 (.bool false)) _ _ ?_ ?_
            · rw [HA.out]; kernel_rfl
            · exact ⟨fb, fk, fs, oP, oM, f0, f1, f2, f3, f4, (fun _ => rfl), f6, f7, f8, f9, f10, f11, f12⟩
          refine StepsU.run rfl ?_ ?_
          · intro L U wr hF hlk haf A K hA hK
            have HA : Hid (A = putAll _ _ U) := hA
            clear hA
            simp [Aft, Region.binds] at haf
            obtain ⟨fb, fk, fs, oP, oM, f0, f1, f2, f3, f4, f5, f6, f7, f8, f9, f10, f11, f12⟩ := hF
            have g5 := f5 (by simp [haf])
            have e61 := rd HA.out 61 (by kernel_rfl) rfl
            refine ⟨?_⟩
            go_simp
            refine hK (upd U 62 (U 61)) _ _ ?_ ?_
            · rw [HA.out]; kernel_rfl
            · exact ⟨fb, fk, fs, oP, oM, f0, f1, f2, f3, f4, f5, (fun _ => g5), f7, f8, f9, f10, f11, f12⟩
          refine StepsU.cond ?_ ?_
          · intro L U wr hF hlk haf A K hA hK
            have HA : Hid (A = putAll _ _ U) := hA
            clear hA
            simp [Aft, Region.binds] at haf
            obtain ⟨fb, fk, fs, oP, oM, f0, f1, f2, f3, f4, f5, f6, f7, f8, f9, f10, f11, f12⟩ := hF
            have gg := f6 (by simp [haf])
            have ee := rd HA.out 62 (by kernel_rfl) gg
            refine ⟨?_⟩
            rw [if_pos (by simp [Region.wanted, yielded, ee])]
            refine Gate.out ?_
            clear gg ee
            have e10 : A.tmps[10]? = some (.pointer (some ⟨w8.heap.size, 0, none⟩)) := by rw [HA.out]; kernel_rfl
            have c0 := oM.cell 0
            have c1 := oM.cell 1
            have c2 := oM.cell 2
            have c3 := oM.cell 3
            have c4 := oM.cell 4
            simp at c0
            simp at c1
            simp at c2
            simp at c3
            simp at c4
            refine ⟨?_⟩
            go_simp
            refine hK (upd U 63 (.agg #[.slice pM qM rM, .bool xM, .slice aM nM cM, .bool yM, .slice dM lM fM])) _ _ ?_ ?_
            · rw [HA.out]; kernel_rfl
            · exact ⟨fb, fk, fs, oP, oM, f0, f1, f2, f3, f4, f5, f6, (fun _ => rfl), f8, f9, f10, f11, f12⟩
          refine StepsU.cond ?_ ?_
          · intro L U wr hF hlk haf A K hA hK
            have HA : Hid (A = putAll _ _ U) := hA
            clear hA
            simp [Aft, Region.binds] at haf
            obtain ⟨fb, fk, fs, oP, oM, f0, f1, f2, f3, f4, f5, f6, f7, f8, f9, f10, f11, f12⟩ := hF
            have gg := f6 (by simp [haf])
            have ee := rd HA.out 62 (by kernel_rfl) gg
            refine ⟨?_⟩
            rw [if_pos (by simp [Region.wanted, yielded, ee])]
            refine Gate.out ?_
            clear gg ee
            have g7 := f7 (by simp [haf])
            have e63 := rd HA.out 63 (by kernel_rfl) g7
            refine ⟨?_⟩
            go_simp
            refine (plain_h _ ps m0 _ ⟨_, _, _, _, _, _, _, _, _, _, _, rfl, hM.below fk.b, hMm.below fk.b⟩).mono ?_
            rintro e w1 ⟨v, rfl, hr, hb⟩
            go_simp
            refine hK (upd U 64 v) _ _ ?_ ?_
            · rw [HA.out]; kernel_rfl
            · exact ⟨(fb.step hb (Nat.le_refl _)), (fk.trans (KeepB.below hb)), (Nat.le_trans fs hb.size), (oP.stay hb), (oM.stay hb), (mvB mb_is (KeepB.below hb) f0), (mvB mb_is (KeepB.below hb) f1), (mvB mb_is (KeepB.below hb) f2), (mvB mb_is (KeepB.below hb) f3), (mvB mb_is (KeepB.below hb) f4), (mvB mb_is (KeepB.below hb) f5), (mvB mb_is (KeepB.below hb) f6), (mvB mb_is (KeepB.below hb) f7), (fun _ => hr), (mvB mb_is (KeepB.below hb) f9), (mvB mb_is (KeepB.below hb) f10), (mvB mb_is (KeepB.below hb) f11), (mvB mb_is (KeepB.below hb) f12)⟩
          refine StepsU.cond ?_ ?_
          · intro L U wr hF hlk haf A K hA hK
            have HA : Hid (A = putAll _ _ U) := hA
            clear hA
            simp [Aft, Region.binds] at haf
            obtain ⟨fb, fk, fs, oP, oM, f0, f1, f2, f3, f4, f5, f6, f7, f8, f9, f10, f11, f12⟩ := hF
            have gg := f6 (by simp [haf])
            have ee := rd HA.out 62 (by kernel_rfl) gg
            refine ⟨?_⟩
            rw [if_pos (by simp [Region.wanted, yielded, ee])]
            refine Gate.out ?_
            clear gg ee
            have e5 : A.tmps[5]? = some (.pointer (some ⟨w4.heap.size, 0, none⟩)) := by rw [HA.out]; kernel_rfl
            have c0 := oP.cell 0
            have c1 := oP.cell 1
            simp at c0
            simp at c1
            refine ⟨?_⟩
            go_simp
            refine hK (upd U 65 (.agg #[.slice aP nP cP, .string (nT m0)])) _ _ ?_ ?_
            · rw [HA.out]; kernel_rfl
            · exact ⟨fb, fk, fs, oP, oM, f0, f1, f2, f3, f4, f5, f6, f7, f8, (fun _ => rfl), f10, f11, f12⟩
          refine StepsU.cond ?_ ?_
          · intro L U wr hF hlk haf A K hA hK
            have HA : Hid (A = putAll _ _ U) := hA
            clear hA
            simp [Aft, Region.binds] at haf
            obtain ⟨fb, fk, fs, oP, oM, f0, f1, f2, f3, f4, f5, f6, f7, f8, f9, f10, f11, f12⟩ := hF
            have gg := f6 (by simp [haf])
            have ee := rd HA.out 62 (by kernel_rfl) gg
            refine ⟨?_⟩
            rw [if_pos (by simp [Region.wanted, yielded, ee])]
            refine Gate.out ?_
            clear gg ee
            have g8 := f8 (by simp [haf])
            have e64 := rd HA.out 64 (by kernel_rfl) rfl
            have g9 := f9 (by simp [haf])
            have e65 := rd HA.out 65 (by kernel_rfl) g9
            refine ⟨?_⟩
            go_simp
            refine (sameRow_h _ _ ps m0 _ g8 ⟨_, _, _, rfl, HNP.out, hP.below fk.b⟩ HF.out).mono ?_
            rintro e w1 ⟨rfl, hb⟩
            go_simp
            refine hK (upd U 66 (.bool true)) _ _ ?_ ?_
            · rw [HA.out]; kernel_rfl
            · exact ⟨(fb.step hb (Nat.le_refl _)), (fk.trans (KeepB.below hb)), (Nat.le_trans fs hb.size), (oP.stay hb), (oM.stay hb), (mvB mb_is (KeepB.below hb) f0), (mvB mb_is (KeepB.below hb) f1), (mvB mb_is (KeepB.below hb) f2), (mvB mb_is (KeepB.below hb) f3), (mvB mb_is (KeepB.below hb) f4), (mvB mb_is (KeepB.below hb) f5), (mvB mb_is (KeepB.below hb) f6), (mvB mb_is (KeepB.below hb) f7), (mvB mb_pln (KeepB.below hb) f8), (mvB mb_is (KeepB.below hb) f9), (fun _ => rfl), (mvB mb_is (KeepB.below hb) f11), (mvB mb_is (KeepB.below hb) f12)⟩
          refine StepsU.run rfl ?_ ?_
          · intro L U wr hF hlk haf A K hA hK
            have HA : Hid (A = putAll _ _ U) := hA
            clear hA
            simp [Aft, Region.binds] at haf
            obtain ⟨fb, fk, fs, oP, oM, f0, f1, f2, f3, f4, f5, f6, f7, f8, f9, f10, f11, f12⟩ := hF
            have g6 := f6 (by simp [haf])
            have g10 := f10 (by simp [haf])
            have e62 := rd HA.out 62 (by kernel_rfl) g6
            have e66 := rd HA.out 66 (by kernel_rfl) g10
            refine ⟨?_⟩
            go_simp
            refine hK (upd U 67 (.bool true)) _ _ ?_ ?_
            · rw [HA.out]; kernel_rfl
            · exact ⟨fb, fk, fs, oP, oM, f0, f1, f2, f3, f4, f5, f6, f7, f8, f9, f10, (fun _ => rfl), f12⟩
          refine StepsU.run rfl ?_ StepsU.nil
          · intro L U wr hF hlk haf A K hA hK
            have HA : Hid (A = putAll _ _ U) := hA
            clear hA
            simp [Aft, Region.binds] at haf
            obtain ⟨fb, fk, fs, oP, oM, f0, f1, f2, f3, f4, f5, f6, f7, f8, f9, f10, f11, f12⟩ := hF
            have g11 := f11 (by simp [haf])
            have e67 := rd HA.out 67 (by kernel_rfl) rfl
            refine ⟨?_⟩
            go_simp
            refine hK (upd U 2 (U 67)) _ _ ?_ ?_
            · rw [HA.out]; kernel_rfl
            · exact ⟨fb, fk, fs, oP, oM, f0, f1, f2, f3, f4, f5, f6, f7, f8, f9, f10, f11, (fun _ => g11)⟩
        clear hbw oP oM
        intro L U9 V9 hall hF
        obtain ⟨hbw, fk, fs, oP, oM, f0, f1, f2, f3, f4, f5, f6, f7, f8, f9, f10, f11, f12⟩ := hF
        have g0 := f0 (hall 0 (by decide))
        have g1 := f1 (hall 1 (by decide))
        have g2 := f2 (hall 2 (by decide))
        have g3 := f3 (hall 3 (by decide))
        have g4 := f4 (hall 4 (by decide))
        have g5 := f5 (hall 5 (by decide))
        have g6 := f6 (hall 6 (by decide))
        have g7 := f7 (hall 7 (by decide))
        have g8 := f8 (hall 8 (by decide))
        have g9 := f9 (hall 9 (by decide))
        have g10 := f10 (hall 10 (by decide))
        have g11 := f11 (hall 11 (by decide))
        have g12 := f12 (hall 12 (by decide))
        clear hall f0 f1 f2 f3 f4 f5 f6 f7 f8 f9 f10 f11 f12
        replace hR := hR.below fk.b
        replace hRm := hRm.below fk.b
        replace hP := hP.below fk.b
        replace hN := hN.below fk.b
        replace hNm := hNm.below fk.b
        replace hM := hM.below fk.b
        replace hMm := hMm.below fk.b
        replace ltP := oP.lt
        replace ltM := oM.lt
        try clear g0
        try clear g1
        try clear g2
        try clear g3
        try clear g4
        try clear g5
        try clear g6
        try clear g7
        try clear g8
        try clear g9
        try clear g10
        try clear g11
        clear hbW
        simp only [setM_some, setM_none, setM_nil]
        clear fk fs
        have e2 : U9 2 = _ := g12
        try simp only []
        try go_at_K
        repeat (first | go_values | go_skip | go_guarded | go_step | go_upon)
        refine bodyPost_ret (v := .bool true) (by simp [results, Tryz.results4, go_sem, e2]) rfl ?_
        exact ⟨rfl, hbw⟩
      · have h3 : (cm9 != 0) = true := by rw [bne_iff_ne]; exact h2
        subst h1
        clear h2 HN HN2
        go_wp2
        generalize (w8.alloc (.cells #[.slice pM qM rM, .bool xM, .slice aM nM cM, .bool yM, .slice dM lM fM] 42 (0, 0))) = W8 at hbw oR oP oN oM ltR ltP ltN ltM hR hRm hP hN hNm hM hMm ⊢
        clear ltR oR
        clear ltN oN
        have hbW := hbw
        refine wp_region_M (by kernel_rfl) [2, 56, 57, 58, 59, 60, 61, 62, 63, 64, 65, 66, 67] [none, none, some 2, none, none, none, none, none, none, none, none, none, none, none, none, none, none, none, none, none, none, none, none, none, none, none, none, none, none, none, none, none, none, none, none, none, none, none, none, none, none, none, none, none, none, none, none, none, none, none, none, none, none, none, none, none, some 56, some 57, some 58, some 59, some 60, some 61, some 62, some 63, some 64, some 65, some 66, some 67] (fun U => by kernel_rfl) (fun L U wr => Below w.heap.size w wr ∧ KeepB W8 wr ∧ W8.heap.size ≤ wr.heap.size ∧ Blk 50 wr (w4.heap.size) #[.slice aP nP cP, .string (nT m0)] ∧ Blk 42 wr (w8.heap.size) #[.slice pM qM rM, .bool xM, .slice aM nM cM, .bool yM, .slice dM lM fM] ∧ (L 0 = true → IS (.int .i64 0) (U 56) wr) ∧ (L 1 = true → IS (.bool false) (U 57) wr) ∧ (L 2 = true → IS (.bool false) (U 58) wr) ∧ (L 3 = true → IS (.int .i64 cm9) (U 59) wr) ∧ (L 4 = true → IS (.bool true) (U 60) wr) ∧ (L 5 = true → IS (.bool true) (U 61) wr) ∧ (L 6 = true → IS (.bool true) (U 62) wr) ∧ (L 7 = true → IS undef (U 63) wr) ∧ (L 8 = true → IS undef (U 64) wr) ∧ (L 9 = true → IS undef (U 65) wr) ∧ (L 10 = true → IS undef (U 66) wr) ∧ (L 11 = true → IS (.bool true) (U 67) wr) ∧ (L 12 = true → IS (.bool true) (U 2) wr)) (by kernel_rfl) ?_ ?_ ?_
        · exact fun U => ⟨hbw.drew, KeepB.below (Below.refl _ _).drew, Nat.le_refl _, oP.drew, oM.drew, (fun h => by cases h), (fun h => by cases h), (fun h => by cases h), (fun h => by cases h), (fun h => by cases h), (fun h => by cases h), (fun h => by cases h), (fun h => by cases h), (fun h => by cases h), (fun h => by cases h), (fun h => by cases h), (fun h => by cases h), (fun h => by cases h)⟩
        · refine StepsU.run rfl ?_ ?_
          · intro L U wr hF hlk haf A K hA hK
            have HA : Hid (A = putAll _ _ U) := hA
            clear hA
            simp [Aft, Region.binds] at haf
            obtain ⟨fb, fk, fs, oP, oM, f0, f1, f2, f3, f4, f5, f6, f7, f8, f9, f10, f11, f12⟩ := hF
            have e9 : A.tmps[9]? = some (.int .i64 0) := by rw [HA.out]; kernel_rfl
            refine ⟨?_⟩
            go_simp
            refine hK (upd U 56 (.int .i64 0)) _ _ ?_ ?_
            · rw [HA.out]; kernel_rfl
            · exact ⟨fb, fk, fs, oP, oM, (fun _ => rfl), f1, f2, f3, f4, f5, f6, f7, f8, f9, f10, f11, f12⟩
          refine StepsU.run rfl ?_ ?_
          · intro L U wr hF hlk haf A K hA hK
            have HA : Hid (A = putAll _ _ U) := hA
            clear hA
            simp [Aft, Region.binds] at haf
            obtain ⟨fb, fk, fs, oP, oM, f0, f1, f2, f3, f4, f5, f6, f7, f8, f9, f10, f11, f12⟩ := hF
            have g0 := f0 (by simp [haf])
            have e56 := rd HA.out 56 (by kernel_rfl) g0
            refine ⟨?_⟩
            go_simp
            refine hK (upd U 57 (.bool false)) _ _ ?_ ?_
            · rw [HA.out]; kernel_rfl
            · exact ⟨fb, fk, fs, oP, oM, f0, (fun _ => rfl), f2, f3, f4, f5, f6, f7, f8, f9, f10, f11, f12⟩
          refine StepsU.run rfl ?_ ?_
          · intro L U wr hF hlk haf A K hA hK
            have HA : Hid (A = putAll _ _ U) := hA
            clear hA
            simp [Aft, Region.binds] at haf
            obtain ⟨fb, fk, fs, oP, oM, f0, f1, f2, f3, f4, f5, f6, f7, f8, f9, f10, f11, f12⟩ := hF
            have g1 := f1 (by simp [haf])
            have e57 := rd HA.out 57 (by kernel_rfl) rfl
            refine ⟨?_⟩
            go_simp
            refine hK (upd U 58 (U 57)) _ _ ?_ ?_
            · rw [HA.out]; kernel_rfl
            · exact ⟨fb, fk, fs, oP, oM, f0, f1, (fun _ => g1), f3, f4, f5, f6, f7, f8, f9, f10, f11, f12⟩
          refine StepsU.cond ?_ ?_
          · intro L U wr hF hlk haf A K hA hK
            have HA : Hid (A = putAll _ _ U) := hA
            clear hA
            simp [Aft, Region.binds] at haf
            obtain ⟨fb, fk, fs, oP, oM, f0, f1, f2, f3, f4, f5, f6, f7, f8, f9, f10, f11, f12⟩ := hF
            have gg := f2 (by simp [haf])
            have ee := rd HA.out 58 (by kernel_rfl) gg
            refine ⟨?_⟩
            rw [if_pos (by simp [Region.wanted, yielded, ee])]
            refine Gate.out ?_
            clear gg ee
            have e11 : A.tmps[11]? = some (.int .i64 cm9) := by rw [HA.out]; kernel_rfl
            refine ⟨?_⟩
            go_simp
            refine hK (upd U 59 (.int .i64 cm9)) _ _ ?_ ?_
            · rw [HA.out]; kernel_rfl
            · exact ⟨fb, fk, fs, oP, oM, f0, f1, f2, (fun _ => rfl), f4, f5, f6, f7, f8, f9, f10, f11, f12⟩
          refine StepsU.cond ?_ ?_
          · intro L U wr hF hlk haf A K hA hK
            have HA : Hid (A = putAll _ _ U) := hA
            clear hA
            simp [Aft, Region.binds] at haf
            obtain ⟨fb, fk, fs, oP, oM, f0, f1, f2, f3, f4, f5, f6, f7, f8, f9, f10, f11, f12⟩ := hF
            have gg := f2 (by simp [haf])
            have ee := rd HA.out 58 (by kernel_rfl) gg
            refine ⟨?_⟩
            rw [if_pos (by simp [Region.wanted, yielded, ee])]
            refine Gate.out ?_
            clear gg ee
            have g3 := f3 (by simp [haf])
            have e59 := rd HA.out 59 (by kernel_rfl) g3
            refine ⟨?_⟩
            go_simp
            refine hK (upd U 60 (.bool true)) _ _ ?_ ?_
            · rw [HA.out]; kernel_rfl
            · exact ⟨fb, fk, fs, oP, oM, f0, f1, f2, f3, (fun _ => rfl), f5, f6, f7, f8, f9, f10, f11, f12⟩
          refine StepsU.run rfl ?_ ?_
          · intro L U wr hF hlk haf A K hA hK
            have HA : Hid (A = putAll _ _ U) := hA
            clear hA
            simp [Aft, Region.binds] at haf
            obtain ⟨fb, fk, fs, oP, oM, f0, f1, f2, f3, f4, f5, f6, f7, f8, f9, f10, f11, f12⟩ := hF
            have g2 := f2 (by simp [haf])
            have g4 := f4 (by simp [haf])
            have e58 := rd HA.out 58 (by kernel_rfl) g2
            have e60 := rd HA.out 60 (by kernel_rfl) g4
            refine ⟨?_⟩
            go_simp
            refine hK (upd U 61 (.bool true)) _ _ ?_ ?_
            · rw [HA.out]; kernel_rfl
            · exact ⟨fb, fk, fs, oP, oM, f0, f1, f2, f3, f4, (fun _ => rfl), f6, f7, f8, f9, f10, f11, f12⟩
          refine StepsU.run rfl ?_ ?_
          · intro L U wr hF hlk haf A K hA hK
            have HA : Hid (A = putAll _ _ U) := hA
            clear hA
            simp [Aft, Region.binds] at haf
            obtain ⟨fb, fk, fs, oP, oM, f0, f1, f2, f3, f4, f5, f6, f7, f8, f9, f10, f11, f12⟩ := hF
            have g5 := f5 (by simp [haf])
            have e61 := rd HA.out 61 (by kernel_rfl) rfl
            refine ⟨?_⟩
            go_simp
            refine hK (upd U 62 (U 61)) _ _ ?_ ?_
            · rw [HA.out]; kernel_rfl
            · exact ⟨fb, fk, fs, oP, oM, f0, f1, f2, f3, f4, f5, (fun _ => g5), f7, f8, f9, f10, f11, f12⟩
          refine StepsU.cond ?_ ?_
          · intro L U wr hF hlk haf A K hA hK
            have HA : Hid (A = putAll _ _ U) := hA
            clear hA
            simp [Aft, Region.binds] at haf
            obtain ⟨fb, fk, fs, oP, oM, f0, f1, f2, f3, f4, f5, f6, f7, f8, f9, f10, f11, f12⟩ := hF
            have gg := f6 (by simp [haf])
            have ee := rd HA.out 62 (by kernel_rfl) gg
            refine ⟨?_⟩
            rw [if_neg (by simp [Region.wanted, yielded, ee])]
            refine hK (upd U 63 undef) _ _ ?_ ?_
            · rw [HA.out]; kernel_rfl
            · exact ⟨fb, fk, fs, oP, oM, f0, f1, f2, f3, f4, f5, f6, (fun _ => rfl), f8, f9, f10, f11, f12⟩
          refine StepsU.cond ?_ ?_
          · intro L U wr hF hlk haf A K hA hK
            have HA : Hid (A = putAll _ _ U) := hA
            clear hA
            simp [Aft, Region.binds] at haf
            obtain ⟨fb, fk, fs, oP, oM, f0, f1, f2, f3, f4, f5, f6, f7, f8, f9, f10, f11, f12⟩ := hF
            have gg := f6 (by simp [haf])
            have ee := rd HA.out 62 (by kernel_rfl) gg
            refine ⟨?_⟩
            rw [if_neg (by simp [Region.wanted, yielded, ee])]
            refine hK (upd U 64 undef) _ _ ?_ ?_
            · rw [HA.out]; kernel_rfl
            · exact ⟨fb, fk, fs, oP, oM, f0, f1, f2, f3, f4, f5, f6, f7, (fun _ => rfl), f9, f10, f11, f12⟩
          refine StepsU.cond ?_ ?_
          · intro L U wr hF hlk haf A K hA hK
            have HA : Hid (A = putAll _ _ U) := hA
            clear hA
            simp [Aft, Region.binds] at haf
            obtain ⟨fb, fk, fs, oP, oM, f0, f1, f2, f3, f4, f5, f6, f7, f8, f9, f10, f11, f12⟩ := hF
            have gg := f6 (by simp [haf])
            have ee := rd HA.out 62 (by kernel_rfl) gg
            refine ⟨?_⟩
            rw [if_neg (by simp [Region.wanted, yielded, ee])]
            refine hK (upd U 65 undef) _ _ ?_ ?_
            · rw [HA.out]; kernel_rfl
            · exact ⟨fb, fk, fs, oP, oM, f0, f1, f2, f3, f4, f5, f6, f7, f8, (fun _ => rfl), f10, f11, f12⟩
          refine StepsU.cond ?_ ?_
          · intro L U wr hF hlk haf A K hA hK
            have HA : Hid (A = putAll _ _ U) := hA
            clear hA
            simp [Aft, Region.binds] at haf
            obtain ⟨fb, fk, fs, oP, oM, f0, f1, f2, f3, f4, f5, f6, f7, f8, f9, f10, f11, f12⟩ := hF
            have gg := f6 (by simp [haf])
            have ee := rd HA.out 62 (by kernel_rfl) gg
            refine ⟨?_⟩
            rw [if_neg (by simp [Region.wanted, yielded, ee])]
            refine hK (upd U 66 undef) _ _ ?_ ?_
            · rw [HA.out]; kernel_rfl
            · exact ⟨fb, fk, fs, oP, oM, f0, f1, f2, f3, f4, f5, f6, f7, f8, f9, (fun _ => rfl), f11, f12⟩
          refine StepsU.run rfl ?_ ?_
          · intro L U wr hF hlk haf A K hA hK
            have HA : Hid (A = putAll _ _ U) := hA
            clear hA
            simp [Aft, Region.binds] at haf
            obtain ⟨fb, fk, fs, oP, oM, f0, f1, f2, f3, f4, f5, f6, f7, f8, f9, f10, f11, f12⟩ := hF
            have g6 := f6 (by simp [haf])
            have e62 := rd HA.out 62 (by kernel_rfl) g6
            refine ⟨?_⟩
            go_simp
            refine hK (upd U 67 (.bool true)) _ _ ?_ ?_
            · rw [HA.out]; kernel_rfl
            · exact ⟨fb, fk, fs, oP, oM, f0, f1, f2, f3, f4, f5, f6, f7, f8, f9, f10, (fun _ => rfl), f12⟩
          refine StepsU.run rfl ?_ StepsU.nil
          · intro L U wr hF hlk haf A K hA hK
            have HA : Hid (A = putAll _ _ U) := hA
            clear hA
            simp [Aft, Region.binds] at haf
            obtain ⟨fb, fk, fs, oP, oM, f0, f1, f2, f3, f4, f5, f6, f7, f8, f9, f10, f11, f12⟩ := hF
            have g11 := f11 (by simp [haf])
            have e67 := rd HA.out 67 (by kernel_rfl) rfl
            refine ⟨?_⟩
            go_simp
            refine hK (upd U 2 (U 67)) _ _ ?_ ?_
            · rw [HA.out]; kernel_rfl
            · exact ⟨fb, fk, fs, oP, oM, f0, f1, f2, f3, f4, f5, f6, f7, f8, f9, f10, f11, (fun _ => g11)⟩
        clear hbw oP oM
        intro L U9 V9 hall hF
        obtain ⟨hbw, fk, fs, oP, oM, f0, f1, f2, f3, f4, f5, f6, f7, f8, f9, f10, f11, f12⟩ := hF
        have g0 := f0 (hall 0 (by decide))
        have g1 := f1 (hall 1 (by decide))
        have g2 := f2 (hall 2 (by decide))
        have g3 := f3 (hall 3 (by decide))
        have g4 := f4 (hall 4 (by decide))
        have g5 := f5 (hall 5 (by decide))
        have g6 := f6 (hall 6 (by decide))
        have g7 := f7 (hall 7 (by decide))
        have g8 := f8 (hall 8 (by decide))
        have g9 := f9 (hall 9 (by decide))
        have g10 := f10 (hall 10 (by decide))
        have g11 := f11 (hall 11 (by decide))
        have g12 := f12 (hall 12 (by decide))
        clear hall f0 f1 f2 f3 f4 f5 f6 f7 f8 f9 f10 f11 f12
        replace hR := hR.below fk.b
        replace hRm := hRm.below fk.b
        replace hP := hP.below fk.b
        replace hN := hN.below fk.b
        replace hNm := hNm.below fk.b
        replace hM := hM.below fk.b
        replace hMm := hMm.below fk.b
        replace ltP := oP.lt
        replace ltM := oM.lt
        try clear g0
        try clear g1
        try clear g2
        try clear g3
        try clear g4
        try clear g5
        try clear g6
        try clear g7
        try clear g8
        try clear g9
        try clear g10
        try clear g11
        clear hbW
        simp only [setM_some, setM_none, setM_nil]
        clear fk fs
        have e2 : U9 2 = _ := g12
        try simp only []
        try go_at_K
        repeat (first | go_values | go_skip | go_guarded | go_step | go_upon)
        refine bodyPost_ret (v := .bool true) (by simp [results, Tryz.results4, go_sem, e2]) rfl ?_
        exact ⟨rfl, hbw⟩
    · have h3 : (cn != 0) = true := by rw [bne_iff_ne]; exact h1
      clear h1 HN HN2
      go_wp2
      generalize (w8.alloc (.cells #[.slice pM qM rM, .bool xM, .slice aM nM cM, .bool yM, .slice dM lM fM] 42 (0, 0))) = W8 at hbw oR oP oN oM ltR ltP ltN ltM hR hRm hP hN hNm hM hMm ⊢
      clear ltR oR
      clear ltN oN
      have hbW := hbw
      refine wp_region_M (by kernel_rfl) [2, 56, 57, 58, 59, 60, 61, 62, 63, 64, 65, 66, 67] [none, none, some 2, none, none, none, none, none, none, none, none, none, none, none, none, none, none, none, none, none, none, none, none, none, none, none, none, none, none, none, none, none, none, none, none, none, none, none, none, none, none, none, none, none, none, none, none, none, none, none, none, none, none, none, none, none, some 56, some 57, some 58, some 59, some 60, some 61, some 62, some 63, some 64, some 65, some 66, some 67] (fun U => by kernel_rfl) (fun L U wr => Below w.heap.size w wr ∧ KeepB W8 wr ∧ W8.heap.size ≤ wr.heap.size ∧ Blk 50 wr (w4.heap.size) #[.slice aP nP cP, .string (nT m0)] ∧ Blk 42 wr (w8.heap.size) #[.slice pM qM rM, .bool xM, .slice aM nM cM, .bool yM, .slice dM lM fM] ∧ (L 0 = true → IS (.int .i64 cn) (U 56) wr) ∧ (L 1 = true → IS (.bool true) (U 57) wr) ∧ (L 2 = true → IS (.bool true) (U 58) wr) ∧ (L 3 = true → IS undef (U 59) wr) ∧ (L 4 = true → IS undef (U 60) wr) ∧ (L 5 = true → IS (.bool true) (U 61) wr) ∧ (L 6 = true → IS (.bool true) (U 62) wr) ∧ (L 7 = true → IS undef (U 63) wr) ∧ (L 8 = true → IS undef (U 64) wr) ∧ (L 9 = true → IS undef (U 65) wr) ∧ (L 10 = true → IS undef (U 66) wr) ∧ (L 11 = true → IS (.bool true) (U 67) wr) ∧ (L 12 = true → IS (.bool true) (U 2) wr)) (by kernel_rfl) ?_ ?_ ?_
      · exact fun U => ⟨hbw.drew, KeepB.below (Below.refl _ _).drew, Nat.le_refl _, oP.drew, oM.drew, (fun h => by cases h), (fun h => by cases h), (fun h => by cases h), (fun h => by cases h), (fun h => by cases h), (fun h => by cases h), (fun h => by cases h), (fun h => by cases h), (fun h => by cases h), (fun h => by cases h), (fun h => by cases h), (fun h => by cases h), (fun h => by cases h)⟩
      · refine StepsU.run rfl ?_ ?_
        · intro L U wr hF hlk haf A K hA hK
          have HA : Hid (A = putAll _ _ U) := hA
          clear hA
          simp [Aft, Region.binds] at haf
          obtain ⟨fb, fk, fs, oP, oM, f0, f1, f2, f3, f4, f5, f6, f7, f8, f9, f10, f11, f12⟩ := hF
          have e9 : A.tmps[9]? = some (.int .i64 cn) := by rw [HA.out]; kernel_rfl
          refine ⟨?_⟩
          go_simp
          refine hK (upd U 56 (.int .i64 cn)) _ _ ?_ ?_
          · rw [HA.out]; kernel_rfl
          · exact ⟨fb, fk, fs, oP, oM, (fun _ => rfl), f1, f2, f3, f4, f5, f6, f7, f8, f9, f10, f11, f12⟩
        refine StepsU.run rfl ?_ ?_
        · intro L U wr hF hlk haf A K hA hK
          have HA : Hid (A = putAll _ _ U) := hA
          clear hA
          simp [Aft, Region.binds] at haf
          obtain ⟨fb, fk, fs, oP, oM, f0, f1, f2, f3, f4, f5, f6, f7, f8, f9, f10, f11, f12⟩ := hF
          have g0 := f0 (by simp [haf])
          have h3b := h3
          have e56 := rd HA.out 56 (by kernel_rfl) g0
          refine ⟨?_⟩
          go_simp
          refine hK (upd U 57 (.bool true)) _ _ ?_ ?_
          · rw [HA.out]; kernel_rfl
          · exact ⟨fb, fk, fs, oP, oM, f0, (fun _ => rfl), f2, f3, f4, f5, f6, f7, f8, f9, f10, f11, f12⟩
        refine StepsU.run rfl ?_ ?_
        · intro L U wr hF hlk haf A K hA hK
          have HA : Hid (A = putAll _ _ U) := hA
          clear hA
          simp [Aft, Region.binds] at haf
          obtain ⟨fb, fk, fs, oP, oM, f0, f1, f2, f3, f4, f5, f6, f7, f8, f9, f10, f11, f12⟩ := hF
          have g1 := f1 (by simp [haf])
          have e57 := rd HA.out 57 (by kernel_rfl) rfl
          refine ⟨?_⟩
          go_simp
          refine hK (upd U 58 (U 57)) _ _ ?_ ?_
          · rw [HA.out]; kernel_rfl
          · exact ⟨fb, fk, fs, oP, oM, f0, f1, (fun _ => g1), f3, f4, f5, f6, f7, f8, f9, f10, f11, f12⟩
        refine StepsU.cond ?_ ?_
        · intro L U wr hF hlk haf A K hA hK
          have HA : Hid (A = putAll _ _ U) := hA
          clear hA
          simp [Aft, Region.binds] at haf
          obtain ⟨fb, fk, fs, oP, oM, f0, f1, f2, f3, f4, f5, f6, f7, f8, f9, f10, f11, f12⟩ := hF
          have gg := f2 (by simp [haf])
          have ee := rd HA.out 58 (by kernel_rfl) gg
          refine ⟨?_⟩
          rw [if_neg (by simp [Region.wanted, yielded, ee])]
          refine hK (upd U 59 undef) _ _ ?_ ?_
          · rw [HA.out]; kernel_rfl
          · exact ⟨fb, fk, fs, oP, oM, f0, f1, f2, (fun _ => rfl), f4, f5, f6, f7, f8, f9, f10, f11, f12⟩
        refine StepsU.cond ?_ ?_
        · intro L U wr hF hlk haf A K hA hK
          have HA : Hid (A = putAll _ _ U) := hA
          clear hA
          simp [Aft, Region.binds] at haf
          obtain ⟨fb, fk, fs, oP, oM, f0, f1, f2, f3, f4, f5, f6, f7, f8, f9, f10, f11, f12⟩ := hF
          have gg := f2 (by simp [haf])
          have ee := rd HA.out 58 (by kernel_rfl) gg
          refine ⟨?_⟩
          rw [if_neg (by simp [Region.wanted, yielded, ee])]
          refine hK (upd U 60 undef) _ _ ?_ ?_
          · rw [HA.out]; kernel_rfl
          · exact ⟨fb, fk, fs, oP, oM, f0, f1, f2, f3, (fun _ => rfl), f5, f6, f7, f8, f9, f10, f11, f12⟩
        refine StepsU.run rfl ?_ ?_
        · intro L U wr hF hlk haf A K hA hK
          have HA : Hid (A = putAll _ _ U) := hA
          clear hA
          simp [Aft, Region.binds] at haf
          obtain ⟨fb, fk, fs, oP, oM, f0, f1, f2, f3, f4, f5, f6, f7, f8, f9, f10, f11, f12⟩ := hF
          have g2 := f2 (by simp [haf])
          have e58 := rd HA.out 58 (by kernel_rfl) g2
          refine ⟨?_⟩
          go_simp
          refine hK (upd U 61 (.bool true)) _ _ ?_ ?_
          · rw [HA.out]; kernel_rfl
          · exact ⟨fb, fk, fs, oP, oM, f0, f1, f2, f3, f4, (fun _ => rfl), f6, f7, f8, f9, f10, f11, f12⟩
        refine StepsU.run rfl ?_ ?_
        · intro L U wr hF hlk haf A K hA hK
          have HA : Hid (A = putAll _ _ U) := hA
          clear hA
          simp [Aft, Region.binds] at haf
          obtain ⟨fb, fk, fs, oP, oM, f0, f1, f2, f3, f4, f5, f6, f7, f8, f9, f10, f11, f12⟩ := hF
          have g5 := f5 (by simp [haf])
          have e61 := rd HA.out 61 (by kernel_rfl) rfl
          refine ⟨?_⟩
          go_simp
          refine hK (upd U 62 (U 61)) _ _ ?_ ?_
          · rw [HA.out]; kernel_rfl
          · exact ⟨fb, fk, fs, oP, oM, f0, f1, f2, f3, f4, f5, (fun _ => g5), f7, f8, f9, f10, f11, f12⟩
        refine StepsU.cond ?_ ?_
        · intro L U wr hF hlk haf A K hA hK
          have HA : Hid (A = putAll _ _ U) := hA
          clear hA
          simp [Aft, Region.binds] at haf
          obtain ⟨fb, fk, fs, oP, oM, f0, f1, f2, f3, f4, f5, f6, f7, f8, f9, f10, f11, f12⟩ := hF
          have gg := f6 (by simp [haf])
          have ee := rd HA.out 62 (by kernel_rfl) gg
          refine ⟨?_⟩
          rw [if_neg (by simp [Region.wanted, yielded, ee])]
          refine hK (upd U 63 undef) _ _ ?_ ?_
          · rw [HA.out]; kernel_rfl
          · exact ⟨fb, fk, fs, oP, oM, f0, f1, f2, f3, f4, f5, f6, (fun _ => rfl), f8, f9, f10, f11, f12⟩
        refine StepsU.cond ?_ ?_
        · intro L U wr hF hlk haf A K hA hK
          have HA : Hid (A = putAll _ _ U) := hA
          clear hA
          simp [Aft, Region.binds] at haf
          obtain ⟨fb, fk, fs, oP, oM, f0, f1, f2, f3, f4, f5, f6, f7, f8, f9, f10, f11, f12⟩ := hF
          have gg := f6 (by simp [haf])
          have ee := rd HA.out 62 (by kernel_rfl) gg
          refine ⟨?_⟩
          rw [if_neg (by simp [Region.wanted, yielded, ee])]
          refine hK (upd U 64 undef) _ _ ?_ ?_
          · rw [HA.out]; kernel_rfl
          · exact ⟨fb, fk, fs, oP, oM, f0, f1, f2, f3, f4, f5, f6, f7, (fun _ => rfl), f9, f10, f11, f12⟩
        refine StepsU.cond ?_ ?_
        · intro L U wr hF hlk haf A K hA hK
          have HA : Hid (A = putAll _ _ U) := hA
          clear hA
          simp [Aft, Region.binds] at haf
          obtain ⟨fb, fk, fs, oP, oM, f0, f1, f2, f3, f4, f5, f6, f7, f8, f9, f10, f11, f12⟩ := hF
          have gg := f6 (by simp [haf])
          have ee := rd HA.out 62 (by kernel_rfl) gg
          refine ⟨?_⟩
          rw [if_neg (by simp [Region.wanted, yielded, ee])]
          refine hK (upd U 65 undef) _ _ ?_ ?_
          · rw [HA.out]; kernel_rfl
          · exact ⟨fb, fk, fs, oP, oM, f0, f1, f2, f3, f4, f5, f6, f7, f8, (fun _ => rfl), f10, f11, f12⟩
        refine StepsU.cond ?_ ?_
        · intro L U wr hF hlk haf A K hA hK
          have HA : Hid (A = putAll _ _ U) := hA
          clear hA
          simp [Aft, Region.binds] at haf
          obtain ⟨fb, fk, fs, oP, oM, f0, f1, f2, f3, f4, f5, f6, f7, f8, f9, f10, f11, f12⟩ := hF
          have gg := f6 (by simp [haf])
          have ee := rd HA.out 62 (by kernel_rfl) gg
          refine ⟨?_⟩
          rw [if_neg (by simp [Region.wanted, yielded, ee])]
          refine hK (upd U 66 undef) _ _ ?_ ?_
          · rw [HA.out]; kernel_rfl
          · exact ⟨fb, fk, fs, oP, oM, f0, f1, f2, f3, f4, f5, f6, f7, f8, f9, (fun _ => rfl), f11, f12⟩
        refine StepsU.run rfl ?_ ?_
        · intro L U wr hF hlk haf A K hA hK
          have HA : Hid (A = putAll _ _ U) := hA
          clear hA
          simp [Aft, Region.binds] at haf
          obtain ⟨fb, fk, fs, oP, oM, f0, f1, f2, f3, f4, f5, f6, f7, f8, f9, f10, f11, f12⟩ := hF
          have g6 := f6 (by simp [haf])
          have e62 := rd HA.out 62 (by kernel_rfl) g6
          refine ⟨?_⟩
          go_simp
          refine hK (upd U 67 (.bool true)) _ _ ?_ ?_
          · rw [HA.out]; kernel_rfl
          · exact ⟨fb, fk, fs, oP, oM, f0, f1, f2, f3, f4, f5, f6, f7, f8, f9, f10, (fun _ => rfl), f12⟩
        refine StepsU.run rfl ?_ StepsU.nil
        · intro L U wr hF hlk haf A K hA hK
          have HA : Hid (A = putAll _ _ U) := hA
          clear hA
          simp [Aft, Region.binds] at haf
          obtain ⟨fb, fk, fs, oP, oM, f0, f1, f2, f3, f4, f5, f6, f7, f8, f9, f10, f11, f12⟩ := hF
          have g11 := f11 (by simp [haf])
          have e67 := rd HA.out 67 (by kernel_rfl) rfl
          refine ⟨?_⟩
          go_simp
          refine hK (upd U 2 (U 67)) _ _ ?_ ?_
          · rw [HA.out]; kernel_rfl
          · exact ⟨fb, fk, fs, oP, oM, f0, f1, f2, f3, f4, f5, f6, f7, f8, f9, f10, f11, (fun _ => g11)⟩
      clear hbw oP oM
      intro L U9 V9 hall hF
      obtain ⟨hbw, fk, fs, oP, oM, f0, f1, f2, f3, f4, f5, f6, f7, f8, f9, f10, f11, f12⟩ := hF
      have g0 := f0 (hall 0 (by decide))
      have g1 := f1 (hall 1 (by decide))
      have g2 := f2 (hall 2 (by decide))
      have g3 := f3 (hall 3 (by decide))
      have g4 := f4 (hall 4 (by decide))
      have g5 := f5 (hall 5 (by decide))
      have g6 := f6 (hall 6 (by decide))
      have g7 := f7 (hall 7 (by decide))
      have g8 := f8 (hall 8 (by decide))
      have g9 := f9 (hall 9 (by decide))
      have g10 := f10 (hall 10 (by decide))
      have g11 := f11 (hall 11 (by decide))
      have g12 := f12 (hall 12 (by decide))
      clear hall f0 f1 f2 f3 f4 f5 f6 f7 f8 f9 f10 f11 f12
      replace hR := hR.below fk.b
      replace hRm := hRm.below fk.b
      replace hP := hP.below fk.b
      replace hN := hN.below fk.b
      replace hNm := hNm.below fk.b
      replace hM := hM.below fk.b
      replace hMm := hMm.below fk.b
      replace ltP := oP.lt
      replace ltM := oM.lt
      try clear g0
      try clear g1
      try clear g2
      try clear g3
      try clear g4
      try clear g5
      try clear g6
      try clear g7
      try clear g8
      try clear g9
      try clear g10
      try clear g11
      clear hbW
      simp only [setM_some, setM_none, setM_nil]
      clear fk fs
      have e2 : U9 2 = _ := g12
      try simp only []
      try go_at_K
      repeat (first | go_values | go_skip | go_guarded | go_step | go_upon)
      refine bodyPost_ret (v := .bool true) (by simp [results, Tryz.results4, go_sem, e2]) rfl ?_
      exact ⟨rfl, hbw⟩
  · have hc2 : (co != 0) = true := by rw [bne_iff_ne]; exact hc
    clear hc
    go_wp2
    go_ret
    exact ⟨rfl, hbw⟩

end Go.Proofs.YteefniagebcagabGreatDoor
