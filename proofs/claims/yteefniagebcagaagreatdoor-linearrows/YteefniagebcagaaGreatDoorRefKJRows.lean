/- Contract of suretyref03's Plain; they prove no statement of the seat. -/
import Derived.Test.YteefniagebcagaaGreatDoorRefXJRows
import Derived.Test.YteefniagebcagaaGreatDoorRefDJRows
namespace Go.Proofs.YteefniagebcagaaGreatDoor
open Go.RowKit
set_option linter.unusedVariables false

set_option maxRecDepth 20000 in
set_option maxHeartbeats 8000000 in
theorem rplain_any (vX : Value) (a : List (Nat × Int)) (m : Int) (w : World) (hX : RTermR w vX a m) :
    Calls Tryz.prog 44 #[vX] w fun e w' => ∃ u, e = .returned u ∧ PLN a m u w' ∧ Below w.heap.size w w' := by
  obtain ⟨pX, qX, rX, xX, aX, nX, cX, rfl, hX⟩ := hX
  have ha0 := hX.arr
  have oX := ((Blk.new w 86 #[.slice pX qX rX, .bool xX, .slice aX nX cX]).alloc (.cells #[.slice none 0 0, .string ⟨#[]⟩] 79 (0, 0)))
  have oR := (Blk.new (w.alloc (.cells #[.slice pX qX rX, .bool xX, .slice aX nX cX] 86 (0, 0))) 79 #[.slice none 0 0, .string ⟨#[]⟩])
  simp only [World.size_alloc] at oR
  have hbw : Below w.heap.size w ((w.alloc (.cells #[.slice pX qX rX, .bool xX, .slice aX nX cX] 86 (0, 0))).alloc (.cells #[.slice none 0 0, .string ⟨#[]⟩] 79 (0, 0))) := by go_grown
  replace hX := hX.below hbw
  have ltX := oX.lt
  have lwX : w.heap.size ≤ w.heap.size := by omega
  have ltR := oR.lt
  have lwR : w.heap.size ≤ w.heap.size + 1 := by omega
  go_enter Tryz.func44, Tryz.ntmps44
  have HX : Hid (QArr w pX a) := ha0
  have HLN : Hid (a.length = qX) := hX.len
  have hlen := hX.n_le
  have HFA : Hid (Fine a) := hX.fine
  clear ha0
  obtain ⟨Xc0, Xc1, Xc2⟩ := oX.three
  obtain ⟨Xk0, Xk1, Xk2⟩ := oX.frozen3
  go_wp2_with fail
  refine (rshow_h _ m 400 _ hX.rest (by decide)).mono ?_
  rintro e w1 ⟨rfl, hb⟩
  clear Xc0 Xc1 Xc2 Xk0 Xk1 Xk2
  replace oX := oX.stay hb
  replace ltX := oX.lt
  replace oR := oR.stay hb
  replace ltR := oR.lt
  replace hX := hX.below hb
  replace hbw := hbw.step hb (Nat.le_refl _)
  clear hb
  have hn := below_new w1 (.cells #[.slice none 0 0, .string (nT m)] 79 (0, 0))
  have oO := Blk.new w1 79 #[.slice none 0 0, .string (nT m)]
  have neXO : w.heap.size ≠ w1.heap.size := by have := ltX; (try simp at this); omega
  have neRO : w.heap.size + 1 ≠ w1.heap.size := by have := ltR; (try simp at this); omega
  have lwO : w.heap.size ≤ w1.heap.size := by have := hbw.size; (try simp at this); omega
  replace oX := oX.stay hn
  replace ltX := oX.lt
  replace oR := oR.stay hn
  replace ltR := oR.lt
  replace hX := hX.below hn
  replace hbw := hbw.step hn (Nat.le_refl _)
  clear hn
  have ltO := oO.lt
  clear hX
  obtain ⟨Xc0, Xc1, Xc2⟩ := oX.three
  obtain ⟨Xk0, Xk1, Xk2⟩ := oX.frozen3
  go_wp2
  obtain ⟨bO, hbO⟩ : ∃ b, b = w1.heap.size := ⟨_, rfl⟩
  rw [← hbO] at oO neXO neRO lwO ltO ⊢
  clear hbO
  go_loopw [4] (fun i wl => ∃ (k : Nat) (u0 : Value), k ≤ qX ∧ i = .int .i64 k ∧ Blk 86 wl w.heap.size #[.slice pX qX rX, .bool xX, .slice aX nX cX] ∧ Blk 79 wl (w.heap.size + 1) #[.slice none 0 0, .string ⟨#[]⟩] ∧ Blk 79 wl bO #[u0, .string (nT m)] ∧ LstG 2 103 w.heap.size wl u0 k (cM (plainM (a.take k))) ∧ Below w.heap.size w wl) (fun i _ => qX - (intOf i).toNat)
  case atStart => exact ⟨0, _, Nat.zero_le _, rfl, oX, oR, oO, LstG.nil _ _ _ _, hbw⟩
  case round =>
    rename World => wl
    clear oX oR oO hbw ltX ltR ltO Xc0 Xc1 Xc2 Xk0 Xk1 Xk2
    obtain ⟨k, u0, hk, h8, oX, oR, oO, hL, hbw⟩ := hrel
    subst h8
    have ltX := oX.lt
    have ltR := oR.lt
    have ltO := oO.lt
    obtain ⟨ao0, m0, cap0, rfl⟩ := LstG.isSlice hL
    by_cases h0 : k < qX
    · obtain ⟨gE, oE, sE, aE, mE, cE, had, k1, k2, k3, k4⟩ := HX.out.at k (by rw [HLN.out]; exact h0)
      subst had
      obtain ⟨pv, hpv⟩ : ∃ x9, x9 = (a.getD k (0, 0)).1 := ⟨_, rfl⟩
      obtain ⟨pz, hpz⟩ : ∃ x9, x9 = (a.getD k (0, 0)).2 := ⟨_, rfl⟩
      rw [← hpv] at k1
      rw [← hpz] at k4
      have HPV : Hid (a.getD k (0, 0) = (pv, pz)) := by show _ = _; rw [hpv, hpz]
      clear hpv hpz
      have HPF : Hid (pz ≠ 0 ∧ pz.natAbs < lim ∧ pv < 4096) := HFA.out.at (by rw [HLN.out]; exact h0) HPV.out
      obtain ⟨Xc0, Xc1, Xc2⟩ := oX.three
      obtain ⟨Xk0, Xk1, Xk2⟩ := oX.frozen3
      go_wp2
      clear Xc0 Xc1 Xc2 Xk0 Xk1 Xk2
      have naX := hL.blk oX (by decide)
      have naR := hL.blk oR (by decide)
      have naO := hL.blk oO (by decide)
      have hLb := hbw.size
      have hLg := Nat.le_refl w.heap.size
      have geO := lwO
      have neOX := Ne.symm neXO
      have neOR := Ne.symm neRO
      have hbW := hbw
      refine wp_region_M (by kernel_rfl) [16, 17, 18, 19, 20, 21, 22, 23, 24, 25, 26, 27, 28, 29, 30, 31, 32, 33, 34] [none, none, none, none, none, none, none, none, none, none, none, none, none, none, none, none, some 16, some 17, some 18, some 19, some 20, some 21, some 22, some 23, some 24, some 25, some 26, some 27, some 28, some 29, some 30, some 31, some 32, some 33, some 34] (fun U => by kernel_rfl) (fun L U wr => Below w.heap.size w wr ∧ KeepN wl wr ∧ wl.heap.size ≤ wr.heap.size ∧ Blk 86 wr (w.heap.size) #[.slice (some ⟨gE, oE, none⟩) qX rX, .bool xX, .slice aX nX cX] ∧ Blk 79 wr (w.heap.size + 1) #[.slice none 0 0, .string ⟨#[]⟩] ∧ Blk 79 wr (bO) (bif L 19 then #[U 33, .string (nT m)] else #[.slice ao0 m0 cap0, .string (nT m)]) ∧ (L 17 = false → LstG 2 103 w.heap.size wr (.slice ao0 m0 cap0) k (cM (plainM (a.take k)))) ∧ (L 0 = true → IS (.pointer (some ⟨bO, 0, none⟩)) (U 16) wr) ∧ (L 1 = true → IS (.slice ao0 m0 cap0) (U 17) wr) ∧ (L 2 = true → IS (.pointer (some ⟨w.heap.size, 0, none⟩)) (U 18) wr) ∧ (L 3 = true → IS (.slice (some ⟨gE, oE, none⟩) qX rX) (U 19) wr) ∧ (L 4 = true → IS (.int .i64 k) (U 20) wr) ∧ (L 5 = true → IS (.pointer (some ⟨gE, oE + k * 3, none⟩)) (U 21) wr) ∧ (L 6 = true → IS (.pointer (some ⟨gE, oE + k * 3, none⟩)) (U 22) wr) ∧ (L 7 = true → IS (.int .i64 (pv : Nat)) (U 23) wr) ∧ (L 8 = true → IS (.pointer (some ⟨w.heap.size, 0, none⟩)) (U 24) wr) ∧ (L 9 = true → IS (.slice (some ⟨gE, oE, none⟩) qX rX) (U 25) wr) ∧ (L 10 = true → IS (.int .i64 k) (U 26) wr) ∧ (L 11 = true → IS (.pointer (some ⟨gE, oE + k * 3, none⟩)) (U 27) wr) ∧ (L 12 = true → IS (.pointer (some ⟨gE, oE + k * 3 + 1, none⟩)) (U 28) wr) ∧ (L 13 = true → IS (.agg #[.bool sE, .slice aE mE cE]) (U 29) wr) ∧ (L 14 = true → IS (.string (nT pz)) (U 30) wr) ∧ (L 15 = true → IS (.agg #[.int .i64 (pv : Nat), .string (nT pz)]) (U 31) wr) ∧ (L 16 = true → L 17 = false → ONE 103 #[.int .i64 (pv : Nat), .string (nT pz)] (U 32) wr) ∧ (L 17 = true → LstG 2 103 w.heap.size wr (U 33) (k + 1) ((cM (plainM (a.take k))) ++ [.int .i64 (pv : Nat), .string (nT pz)]) ∧ U 33 ≠ .slice none 0 0) ∧ (L 18 = true → IS (.pointer (some ⟨bO, 0, none⟩)) (U 34) wr) ∧ (L 19 = true → L 17 = true) ∧ (L 17 = true → L 1 = true) ∧ (L 17 = true → L 16 = true)) (by kernel_rfl) ?_ ?_ ?_
      · exact fun U => ⟨hbw.drew, KeepN.below (Below.refl _ _).drew, Nat.le_refl _, oX.drew, oR.drew, oO.drew, (fun _ => hL.below (Below.refl _ _).drew), (fun h => by cases h), (fun h => by cases h), (fun h => by cases h), (fun h => by cases h), (fun h => by cases h), (fun h => by cases h), (fun h => by cases h), (fun h => by cases h), (fun h => by cases h), (fun h => by cases h), (fun h => by cases h), (fun h => by cases h), (fun h => by cases h), (fun h => by cases h), (fun h => by cases h), (fun h => by cases h), (fun h => by cases h), (fun h => by cases h), (fun h => by cases h), (fun h => by cases h), (fun h => by cases h), (fun h => by cases h)⟩
      · refine StepsU.run rfl ?_ ?_
        · intro L U wr hF hlk haf A K hA hK
          have HA : Hid (A = putAll _ _ U) := hA
          clear hA
          simp [Aft, Region.binds] at haf
          obtain ⟨fb, fk, fs, oX, oR, wO, fl, f0, f1, f2, f3, f4, f5, f6, f7, f8, f9, f10, f11, f12, f13, f14, f15, f16, f17, f18, s19, p1, p16⟩ := hF
          have e3 : A.tmps[3]? = some (.pointer (some ⟨bO, 0, none⟩)) := by rw [HA.out]; kernel_rfl
          refine ⟨?_⟩
          go_simp
          refine hK (upd U 16 (.pointer (some ⟨bO, 0, none⟩))) _ _ ?_ ?_
          · rw [HA.out]; kernel_rfl
          · exact ⟨fb, fk, fs, oX, oR, wO, fl, (fun _ => rfl), f1, f2, f3, f4, f5, f6, f7, f8, f9, f10, f11, f12, f13, f14, f15, f16, f17, f18, s19, p1, p16⟩
        refine StepsU.run rfl ?_ ?_
        · intro L U wr hF hlk haf A K hA hK
          have HA : Hid (A = putAll _ _ U) := hA
          clear hA
          simp [Aft, Region.binds] at haf
          obtain ⟨fb, fk, fs, oX, oR, wO, fl, f0, f1, f2, f3, f4, f5, f6, f7, f8, f9, f10, f11, f12, f13, f14, f15, f16, f17, f18, s19, p1, p16⟩ := hF
          have hst9 : L 19 = false := by cases h : L 19 with | false => rfl | true => rw [p1 (s19 h)] at hlk; cases hlk
          have o9 := wO
          rw [hst9, cond_false] at o9
          have g0 := f0 (by simp [haf])
          have e16 := rd HA.out 16 (by kernel_rfl) g0
          have c0 := Blk.cell o9 0
          simp at c0
          refine ⟨?_⟩
          go_simp
          refine hK (upd U 17 (.slice ao0 m0 cap0)) _ _ ?_ ?_
          · rw [HA.out]; kernel_rfl
          · exact ⟨fb, fk, fs, oX, oR, wO, fl, f0, (fun _ => rfl), f2, f3, f4, f5, f6, f7, f8, f9, f10, f11, f12, f13, f14, f15, f16, f17, f18, s19, (fun _ => rfl), p16⟩
        refine StepsU.run rfl ?_ ?_
        · intro L U wr hF hlk haf A K hA hK
          have HA : Hid (A = putAll _ _ U) := hA
          clear hA
          simp [Aft, Region.binds] at haf
          obtain ⟨fb, fk, fs, oX, oR, wO, fl, f0, f1, f2, f3, f4, f5, f6, f7, f8, f9, f10, f11, f12, f13, f14, f15, f16, f17, f18, s19, p1, p16⟩ := hF
          have e1 : A.tmps[1]? = some (.pointer (some ⟨w.heap.size, 0, none⟩)) := by rw [HA.out]; kernel_rfl
          refine ⟨?_⟩
          go_simp
          refine hK (upd U 18 (.pointer (some ⟨w.heap.size, 0, none⟩))) _ _ ?_ ?_
          · rw [HA.out]; kernel_rfl
          · exact ⟨fb, fk, fs, oX, oR, wO, fl, f0, f1, (fun _ => rfl), f3, f4, f5, f6, f7, f8, f9, f10, f11, f12, f13, f14, f15, f16, f17, f18, s19, p1, p16⟩
        refine StepsU.run rfl ?_ ?_
        · intro L U wr hF hlk haf A K hA hK
          have HA : Hid (A = putAll _ _ U) := hA
          clear hA
          simp [Aft, Region.binds] at haf
          obtain ⟨fb, fk, fs, oX, oR, wO, fl, f0, f1, f2, f3, f4, f5, f6, f7, f8, f9, f10, f11, f12, f13, f14, f15, f16, f17, f18, s19, p1, p16⟩ := hF
          have g2 := f2 (by simp [haf])
          have e18 := rd HA.out 18 (by kernel_rfl) g2
          have c0 := Blk.cell oX 0
          simp at c0
          refine ⟨?_⟩
          go_simp
          refine hK (upd U 19 (.slice (some ⟨gE, oE, none⟩) qX rX)) _ _ ?_ ?_
          · rw [HA.out]; kernel_rfl
          · exact ⟨fb, fk, fs, oX, oR, wO, fl, f0, f1, f2, (fun _ => rfl), f4, f5, f6, f7, f8, f9, f10, f11, f12, f13, f14, f15, f16, f17, f18, s19, p1, p16⟩
        refine StepsU.run rfl ?_ ?_
        · intro L U wr hF hlk haf A K hA hK
          have HA : Hid (A = putAll _ _ U) := hA
          clear hA
          simp [Aft, Region.binds] at haf
          obtain ⟨fb, fk, fs, oX, oR, wO, fl, f0, f1, f2, f3, f4, f5, f6, f7, f8, f9, f10, f11, f12, f13, f14, f15, f16, f17, f18, s19, p1, p16⟩ := hF
          have e4 : A.tmps[4]? = some (.int .i64 k) := by rw [HA.out]; kernel_rfl
          refine ⟨?_⟩
          go_simp
          refine hK (upd U 20 (.int .i64 k)) _ _ ?_ ?_
          · rw [HA.out]; kernel_rfl
          · exact ⟨fb, fk, fs, oX, oR, wO, fl, f0, f1, f2, f3, (fun _ => rfl), f5, f6, f7, f8, f9, f10, f11, f12, f13, f14, f15, f16, f17, f18, s19, p1, p16⟩
        refine StepsU.run rfl ?_ ?_
        · intro L U wr hF hlk haf A K hA hK
          have HA : Hid (A = putAll _ _ U) := hA
          clear hA
          simp [Aft, Region.binds] at haf
          obtain ⟨fb, fk, fs, oX, oR, wO, fl, f0, f1, f2, f3, f4, f5, f6, f7, f8, f9, f10, f11, f12, f13, f14, f15, f16, f17, f18, s19, p1, p16⟩ := hF
          have g3 := f3 (by simp [haf])
          have g4 := f4 (by simp [haf])
          have e19 := rd HA.out 19 (by kernel_rfl) g3
          have e20 := rd HA.out 20 (by kernel_rfl) g4
          refine ⟨?_⟩
          go_simp
          refine hK (upd U 21 (.pointer (some ⟨gE, oE + k * 3, none⟩))) _ _ ?_ ?_
          · rw [HA.out]; kernel_rfl
          · exact ⟨fb, fk, fs, oX, oR, wO, fl, f0, f1, f2, f3, f4, (fun _ => rfl), f6, f7, f8, f9, f10, f11, f12, f13, f14, f15, f16, f17, f18, s19, p1, p16⟩
        refine StepsU.run rfl ?_ ?_
        · intro L U wr hF hlk haf A K hA hK
          have HA : Hid (A = putAll _ _ U) := hA
          clear hA
          simp [Aft, Region.binds] at haf
          obtain ⟨fb, fk, fs, oX, oR, wO, fl, f0, f1, f2, f3, f4, f5, f6, f7, f8, f9, f10, f11, f12, f13, f14, f15, f16, f17, f18, s19, p1, p16⟩ := hF
          have g5 := f5 (by simp [haf])
          have e21 := rd HA.out 21 (by kernel_rfl) g5
          refine ⟨?_⟩
          go_simp
          refine hK (upd U 22 (.pointer (some ⟨gE, oE + k * 3, none⟩))) _ _ ?_ ?_
          · rw [HA.out]; kernel_rfl
          · exact ⟨fb, fk, fs, oX, oR, wO, fl, f0, f1, f2, f3, f4, f5, (fun _ => rfl), f7, f8, f9, f10, f11, f12, f13, f14, f15, f16, f17, f18, s19, p1, p16⟩
        refine StepsU.run rfl ?_ ?_
        · intro L U wr hF hlk haf A K hA hK
          have HA : Hid (A = putAll _ _ U) := hA
          clear hA
          simp [Aft, Region.binds] at haf
          obtain ⟨fb, fk, fs, oX, oR, wO, fl, f0, f1, f2, f3, f4, f5, f6, f7, f8, f9, f10, f11, f12, f13, f14, f15, f16, f17, f18, s19, p1, p16⟩ := hF
          have g6 := f6 (by simp [haf])
          have kA0 := (fb.cell (p := ⟨gE, oE + k * 3, none⟩) (World.block_lt_of_cell? w _ k1)).trans k1
          have e22 := rd HA.out 22 (by kernel_rfl) g6
          refine ⟨?_⟩
          go_simp
          refine hK (upd U 23 (.int .i64 (pv : Nat))) _ _ ?_ ?_
          · rw [HA.out]; kernel_rfl
          · exact ⟨fb, fk, fs, oX, oR, wO, fl, f0, f1, f2, f3, f4, f5, f6, (fun _ => rfl), f8, f9, f10, f11, f12, f13, f14, f15, f16, f17, f18, s19, p1, p16⟩
        refine StepsU.run rfl ?_ ?_
        · intro L U wr hF hlk haf A K hA hK
          have HA : Hid (A = putAll _ _ U) := hA
          clear hA
          simp [Aft, Region.binds] at haf
          obtain ⟨fb, fk, fs, oX, oR, wO, fl, f0, f1, f2, f3, f4, f5, f6, f7, f8, f9, f10, f11, f12, f13, f14, f15, f16, f17, f18, s19, p1, p16⟩ := hF
          have e1 : A.tmps[1]? = some (.pointer (some ⟨w.heap.size, 0, none⟩)) := by rw [HA.out]; kernel_rfl
          refine ⟨?_⟩
          go_simp
          refine hK (upd U 24 (.pointer (some ⟨w.heap.size, 0, none⟩))) _ _ ?_ ?_
          · rw [HA.out]; kernel_rfl
          · exact ⟨fb, fk, fs, oX, oR, wO, fl, f0, f1, f2, f3, f4, f5, f6, f7, (fun _ => rfl), f9, f10, f11, f12, f13, f14, f15, f16, f17, f18, s19, p1, p16⟩
        refine StepsU.run rfl ?_ ?_
        · intro L U wr hF hlk haf A K hA hK
          have HA : Hid (A = putAll _ _ U) := hA
          clear hA
          simp [Aft, Region.binds] at haf
          obtain ⟨fb, fk, fs, oX, oR, wO, fl, f0, f1, f2, f3, f4, f5, f6, f7, f8, f9, f10, f11, f12, f13, f14, f15, f16, f17, f18, s19, p1, p16⟩ := hF
          have g8 := f8 (by simp [haf])
          have e24 := rd HA.out 24 (by kernel_rfl) g8
          have c0 := Blk.cell oX 0
          simp at c0
          refine ⟨?_⟩
          go_simp
          refine hK (upd U 25 (.slice (some ⟨gE, oE, none⟩) qX rX)) _ _ ?_ ?_
          · rw [HA.out]; kernel_rfl
          · exact ⟨fb, fk, fs, oX, oR, wO, fl, f0, f1, f2, f3, f4, f5, f6, f7, f8, (fun _ => rfl), f10, f11, f12, f13, f14, f15, f16, f17, f18, s19, p1, p16⟩
        refine StepsU.run rfl ?_ ?_
        · intro L U wr hF hlk haf A K hA hK
          have HA : Hid (A = putAll _ _ U) := hA
          clear hA
          simp [Aft, Region.binds] at haf
          obtain ⟨fb, fk, fs, oX, oR, wO, fl, f0, f1, f2, f3, f4, f5, f6, f7, f8, f9, f10, f11, f12, f13, f14, f15, f16, f17, f18, s19, p1, p16⟩ := hF
          have e4 : A.tmps[4]? = some (.int .i64 k) := by rw [HA.out]; kernel_rfl
          refine ⟨?_⟩
          go_simp
          refine hK (upd U 26 (.int .i64 k)) _ _ ?_ ?_
          · rw [HA.out]; kernel_rfl
          · exact ⟨fb, fk, fs, oX, oR, wO, fl, f0, f1, f2, f3, f4, f5, f6, f7, f8, f9, (fun _ => rfl), f11, f12, f13, f14, f15, f16, f17, f18, s19, p1, p16⟩
        refine StepsU.run rfl ?_ ?_
        · intro L U wr hF hlk haf A K hA hK
          have HA : Hid (A = putAll _ _ U) := hA
          clear hA
          simp [Aft, Region.binds] at haf
          obtain ⟨fb, fk, fs, oX, oR, wO, fl, f0, f1, f2, f3, f4, f5, f6, f7, f8, f9, f10, f11, f12, f13, f14, f15, f16, f17, f18, s19, p1, p16⟩ := hF
          have g9 := f9 (by simp [haf])
          have g10 := f10 (by simp [haf])
          have e25 := rd HA.out 25 (by kernel_rfl) g9
          have e26 := rd HA.out 26 (by kernel_rfl) g10
          refine ⟨?_⟩
          go_simp
          refine hK (upd U 27 (.pointer (some ⟨gE, oE + k * 3, none⟩))) _ _ ?_ ?_
          · rw [HA.out]; kernel_rfl
          · exact ⟨fb, fk, fs, oX, oR, wO, fl, f0, f1, f2, f3, f4, f5, f6, f7, f8, f9, f10, (fun _ => rfl), f12, f13, f14, f15, f16, f17, f18, s19, p1, p16⟩
        refine StepsU.run rfl ?_ ?_
        · intro L U wr hF hlk haf A K hA hK
          have HA : Hid (A = putAll _ _ U) := hA
          clear hA
          simp [Aft, Region.binds] at haf
          obtain ⟨fb, fk, fs, oX, oR, wO, fl, f0, f1, f2, f3, f4, f5, f6, f7, f8, f9, f10, f11, f12, f13, f14, f15, f16, f17, f18, s19, p1, p16⟩ := hF
          have g11 := f11 (by simp [haf])
          have e27 := rd HA.out 27 (by kernel_rfl) g11
          refine ⟨?_⟩
          go_simp
          refine hK (upd U 28 (.pointer (some ⟨gE, oE + k * 3 + 1, none⟩))) _ _ ?_ ?_
          · rw [HA.out]; kernel_rfl
          · exact ⟨fb, fk, fs, oX, oR, wO, fl, f0, f1, f2, f3, f4, f5, f6, f7, f8, f9, f10, f11, (fun _ => rfl), f13, f14, f15, f16, f17, f18, s19, p1, p16⟩
        refine StepsU.run rfl ?_ ?_
        · intro L U wr hF hlk haf A K hA hK
          have HA : Hid (A = putAll _ _ U) := hA
          clear hA
          simp [Aft, Region.binds] at haf
          obtain ⟨fb, fk, fs, oX, oR, wO, fl, f0, f1, f2, f3, f4, f5, f6, f7, f8, f9, f10, f11, f12, f13, f14, f15, f16, f17, f18, s19, p1, p16⟩ := hF
          have g12 := f12 (by simp [haf])
          have kA1 := (fb.cell (p := ⟨gE, oE + k * 3 + 1, none⟩) (World.block_lt_of_cell? w _ k2)).trans k2
          have kA2 := (fb.cell (p := ⟨gE, oE + k * 3 + 2, none⟩) (World.block_lt_of_cell? w _ k3)).trans k3
          have e28 := rd HA.out 28 (by kernel_rfl) g12
          refine ⟨?_⟩
          go_simp
          refine hK (upd U 29 (.agg #[.bool sE, .slice aE mE cE])) _ _ ?_ ?_
          · rw [HA.out]; kernel_rfl
          · exact ⟨fb, fk, fs, oX, oR, wO, fl, f0, f1, f2, f3, f4, f5, f6, f7, f8, f9, f10, f11, f12, (fun _ => rfl), f14, f15, f16, f17, f18, s19, p1, p16⟩
        refine StepsU.run rfl ?_ ?_
        · intro L U wr hF hlk haf A K hA hK
          have HA : Hid (A = putAll _ _ U) := hA
          clear hA
          simp [Aft, Region.binds] at haf
          obtain ⟨fb, fk, fs, oX, oR, wO, fl, f0, f1, f2, f3, f4, f5, f6, f7, f8, f9, f10, f11, f12, f13, f14, f15, f16, f17, f18, s19, p1, p16⟩ := hF
          have g13 := f13 (by simp [haf])
          have e29 := rd HA.out 29 (by kernel_rfl) g13
          refine ⟨?_⟩
          go_simp
          refine (rshow_h _ pz 900 _ (k4.below fb) (by decide)).mono ?_
          rintro e w1 ⟨rfl, hb⟩
          go_simp
          refine hK (upd U 30 (.string (nT pz))) _ _ ?_ ?_
          · rw [HA.out]; kernel_rfl
          · exact ⟨(fb.step hb (Nat.le_refl _)), (fk.trans (KeepN.below hb)), (Nat.le_trans fs hb.size), (oX.stay hb), (oR.stay hb), (Blk.stay wO hb), (fun h => (fl h).below hb), (mvN mn_is (KeepN.below hb) f0), (mvN mn_is (KeepN.below hb) f1), (mvN mn_is (KeepN.below hb) f2), (mvN mn_is (KeepN.below hb) f3), (mvN mn_is (KeepN.below hb) f4), (mvN mn_is (KeepN.below hb) f5), (mvN mn_is (KeepN.below hb) f6), (mvN mn_is (KeepN.below hb) f7), (mvN mn_is (KeepN.below hb) f8), (mvN mn_is (KeepN.below hb) f9), (mvN mn_is (KeepN.below hb) f10), (mvN mn_is (KeepN.below hb) f11), (mvN mn_is (KeepN.below hb) f12), (mvN mn_is (KeepN.below hb) f13), (fun _ => rfl), (mvN mn_is (KeepN.below hb) f15), (fun h h2 => (f16 h h2).below hb), (fun h => ⟨(f17 h).1.below hb, (f17 h).2⟩), (mvN mn_is (KeepN.below hb) f18), s19, p1, p16⟩
        refine StepsU.run rfl ?_ ?_
        · intro L U wr hF hlk haf A K hA hK
          have HA : Hid (A = putAll _ _ U) := hA
          clear hA
          simp [Aft, Region.binds] at haf
          obtain ⟨fb, fk, fs, oX, oR, wO, fl, f0, f1, f2, f3, f4, f5, f6, f7, f8, f9, f10, f11, f12, f13, f14, f15, f16, f17, f18, s19, p1, p16⟩ := hF
          have g7 := f7 (by simp [haf])
          have g14 := f14 (by simp [haf])
          have e23 := rd HA.out 23 (by kernel_rfl) g7
          have e30 := rd HA.out 30 (by kernel_rfl) g14
          refine ⟨?_⟩
          go_simp
          refine hK (upd U 31 (.agg #[.int .i64 (pv : Nat), .string (nT pz)])) _ _ ?_ ?_
          · rw [HA.out]; kernel_rfl
          · exact ⟨fb, fk, fs, oX, oR, wO, fl, f0, f1, f2, f3, f4, f5, f6, f7, f8, f9, f10, f11, f12, f13, f14, (fun _ => rfl), f16, f17, f18, s19, p1, p16⟩
        refine StepsU.run rfl ?_ ?_
        · intro L U wr hF hlk haf A K hA hK
          have HA : Hid (A = putAll _ _ U) := hA
          clear hA
          simp [Aft, Region.binds] at haf
          obtain ⟨fb, fk, fs, oX, oR, wO, fl, f0, f1, f2, f3, f4, f5, f6, f7, f8, f9, f10, f11, f12, f13, f14, f15, f16, f17, f18, s19, p1, p16⟩ := hF
          have g15 := f15 (by simp [haf])
          have e31 := rd HA.out 31 (by kernel_rfl) g15
          have hap : L 17 = false := by cases h : L 17 with | false => rfl | true => rw [p16 h] at hlk; cases hlk
          refine ⟨?_⟩
          go_simp
          have hb := below_new wr (.cells #[.int .i64 (pv : Nat), .string (nT pz)] 103 (0, 0))
          refine hK (upd U 32 (.slice (some ⟨wr.heap.size, 0, none⟩) 1 1)) _ _ ?_ ?_
          · rw [HA.out]; kernel_rfl
          · exact ⟨(fb.step hb (Nat.le_refl _)), (fk.trans (KeepN.below hb)), (Nat.le_trans fs hb.size), (oX.stay hb), (oR.stay hb), (Blk.stay wO hb), (fun h => (fl h).below hb), (mvN mn_is (KeepN.below hb) f0), (mvN mn_is (KeepN.below hb) f1), (mvN mn_is (KeepN.below hb) f2), (mvN mn_is (KeepN.below hb) f3), (mvN mn_is (KeepN.below hb) f4), (mvN mn_is (KeepN.below hb) f5), (mvN mn_is (KeepN.below hb) f6), (mvN mn_is (KeepN.below hb) f7), (mvN mn_is (KeepN.below hb) f8), (mvN mn_is (KeepN.below hb) f9), (mvN mn_is (KeepN.below hb) f10), (mvN mn_is (KeepN.below hb) f11), (mvN mn_is (KeepN.below hb) f12), (mvN mn_is (KeepN.below hb) f13), (mvN mn_is (KeepN.below hb) f14), (mvN mn_is (KeepN.below hb) f15), (fun _ _ => ⟨wr.heap.size, rfl, Blk.new wr 103 #[.int .i64 (pv : Nat), .string (nT pz)]⟩), (fun h => ⟨(f17 h).1.below hb, (f17 h).2⟩), (mvN mn_is (KeepN.below hb) f18), s19, p1, (fun _ => rfl)⟩
        refine StepsU.run rfl ?_ ?_
        · intro L U wr hF hlk haf A K hA hK
          have HA : Hid (A = putAll _ _ U) := hA
          clear hA
          simp [Aft, Region.binds] at haf
          obtain ⟨fb, fk, fs, oX, oR, wO, fl, f0, f1, f2, f3, f4, f5, f6, f7, f8, f9, f10, f11, f12, f13, f14, f15, f16, f17, f18, s19, p1, p16⟩ := hF
          have g1 := f1 (by simp [haf])
          have g16 := f16 (by simp [haf]) hlk
          obtain ⟨gb, hgb, hBb⟩ := g16
          have e17 := rd HA.out 17 (by kernel_rfl) g1
          have e32 := rd HA.out 32 (by kernel_rfl) hgb
          refine ⟨?_⟩
          refine wp_append_g (.tmp 17) (.tmp 32) 22 rfl 2 w.heap.size 103 (.agg #[.int .i64 0, .string ⟨#[]⟩]) 24 Tryz.und_monos Tryz.info_mono (by decide) rfl (by decide) (nuM _ _) (by decide) (.slice ao0 m0 cap0) k (cM (plainM (a.take k))) (by simp [Act.eval, e17]) (fl hlk) ⟨gb, 0, none⟩ 1 1 [.int .i64 (pv : Nat), .string (nT pz)] (by simp [Act.eval, e32]) rfl ?_ (by intro u hu; simp at hu; rcases hu with rfl | rfl <;> rfl) (nuM _ _) (Or.inl (by decide)) (by omega) (Nat.le_trans hLb fs) ?_
          · intro j u hj
            match j, hj with
            | 0, hj => simp at hj; subst hj; exact hBb.cell 0
            | 1, hj => simp at hj; subst hj; exact hBb.cell 1
            | j + 2, hj => simp at hj
          · intro v' w1 hL1 hA1 hnn1
            have hs19 : L 19 = false := by cases h : L 19 with | false => rfl | true => rw [s19 h] at hlk; cases hlk
            refine hK (upd U 33 v') _ _ ?_ ?_
            · rw [HA.out]; kernel_rfl
            · exact ⟨(fb.trans (hA1.bel.mono hLg)), (fk.trans hA1.keep), (Nat.le_trans fs hA1.size), ((hA1.other _ oX.lt naX).trans oX), ((hA1.other _ oR.lt naR).trans oR), (flip_a (P := fun v => Blk _ _ _ v) hs19 ((hA1.other _ (Blk.lt wO) naO).trans wO)), (fun h => by cases h), (mvN mn_is hA1.keep f0), (mvN mn_is hA1.keep f1), (mvN mn_is hA1.keep f2), (mvN mn_is hA1.keep f3), (mvN mn_is hA1.keep f4), (mvN mn_is hA1.keep f5), (mvN mn_is hA1.keep f6), (mvN mn_is hA1.keep f7), (mvN mn_is hA1.keep f8), (mvN mn_is hA1.keep f9), (mvN mn_is hA1.keep f10), (mvN mn_is hA1.keep f11), (mvN mn_is hA1.keep f12), (mvN mn_is hA1.keep f13), (mvN mn_is hA1.keep f14), (mvN mn_is hA1.keep f15), (fun _ h => by cases h), (fun _ => ⟨hL1, hnn1⟩), (mvN mn_is hA1.keep f18), (fun _ => rfl), (fun _ => by simp [haf]), (fun _ => by simp [haf])⟩
        refine StepsU.run rfl ?_ ?_
        · intro L U wr hF hlk haf A K hA hK
          have HA : Hid (A = putAll _ _ U) := hA
          clear hA
          simp [Aft, Region.binds] at haf
          obtain ⟨fb, fk, fs, oX, oR, wO, fl, f0, f1, f2, f3, f4, f5, f6, f7, f8, f9, f10, f11, f12, f13, f14, f15, f16, f17, f18, s19, p1, p16⟩ := hF
          have e3 : A.tmps[3]? = some (.pointer (some ⟨bO, 0, none⟩)) := by rw [HA.out]; kernel_rfl
          refine ⟨?_⟩
          go_simp
          refine hK (upd U 34 (.pointer (some ⟨bO, 0, none⟩))) _ _ ?_ ?_
          · rw [HA.out]; kernel_rfl
          · exact ⟨fb, fk, fs, oX, oR, wO, fl, f0, f1, f2, f3, f4, f5, f6, f7, f8, f9, f10, f11, f12, f13, f14, f15, f16, f17, (fun _ => rfl), s19, p1, p16⟩
        refine StepsU.run rfl ?_ StepsU.nil
        · intro L U wr hF hlk haf A K hA hK
          have HA : Hid (A = putAll _ _ U) := hA
          clear hA
          simp [Aft, Region.binds] at haf
          obtain ⟨fb, fk, fs, oX, oR, wO, fl, f0, f1, f2, f3, f4, f5, f6, f7, f8, f9, f10, f11, f12, f13, f14, f15, f16, f17, f18, s19, p1, p16⟩ := hF
          have g18 := f18 (by simp [haf])
          have e34 := rd HA.out 34 (by kernel_rfl) g18
          have g17 := f17 (by simp [haf])
          obtain ⟨k1, k2⟩ := g17
          obtain ⟨ao', m', cap', hv'⟩ := LstG.isSlice k1
          have e33 := rd HA.out 33 (by kernel_rfl) hv'
          have o9 := wO
          rw [hlk, cond_false] at o9
          have q0 := Blk.frozen o9 0
          have c0 := Blk.cell o9 0
          simp at c0
          have hlt := Blk.lt o9
          have hkp := keepN_stores (by decide) [.slice ao' m' cap'] 0 o9 (nuA _ _ _ _) (by intro u hu; simp at hu; subst hu; exact noU_slice _ _ _)
          have hnew : Blk 79 (stores wr (bO) 0 [.slice ao' m' cap']) (bO) #[U 33, .string (nT m)] := by rw [hv']; exact Blk.set o9 0 _
          have k1' := LstG.storesO k1 o9 (by decide) 0 [.slice ao' m' cap']
          refine ⟨?_⟩
          go_simp
          refine hK U _ _ ?_ ?_
          · exact HA.out
          · exact ⟨(below_stores geO [.slice ao' m' cap'] 0 fb), (fk.trans hkp), (by simp; exact fs), (oX.otherS neOX 0 [.slice ao' m' cap']), (oR.otherS neOR 0 [.slice ao' m' cap']), hnew, (fun h => by simp [haf] at h), (mvN mn_is hkp f0), (mvN mn_is hkp f1), (mvN mn_is hkp f2), (mvN mn_is hkp f3), (mvN mn_is hkp f4), (mvN mn_is hkp f5), (mvN mn_is hkp f6), (mvN mn_is hkp f7), (mvN mn_is hkp f8), (mvN mn_is hkp f9), (mvN mn_is hkp f10), (mvN mn_is hkp f11), (mvN mn_is hkp f12), (mvN mn_is hkp f13), (mvN mn_is hkp f14), (mvN mn_is hkp f15), (fun _ h => by simp [haf] at h), (fun _ => ⟨k1', k2⟩), (mvN mn_is hkp f18), (fun _ => by simp [haf]), p1, p16⟩
      clear hbw oX oR oO hL
      intro L U2 V2 hall hF
      obtain ⟨hbw, fk, fs, oX, oR, wO, fl, f0, f1, f2, f3, f4, f5, f6, f7, f8, f9, f10, f11, f12, f13, f14, f15, f16, f17, f18, s19, p1, p16⟩ := hF
      clear fl s19 p1 p16
      have g0 := f0 (hall 0 (by decide))
      have g1 := f1 (hall 1 (by decide))
      have g2 := f2 (hall 2 (by decide))
      have g3 := f3 (hall 3 (by decide))
      have g4 := f4 (hall 4 (by decide))
      have g5 := f5 (hall 5 (by decide))
      have g6 := f6 (hall 6 (by decide))
      have g7 := f7 (hall 7 (by decide))
      have g8 := f8 (hall 8 (by decide))
      have g9 := f9 (hall 9 (by decide))
      have g10 := f10 (hall 10 (by decide))
      have g11 := f11 (hall 11 (by decide))
      have g12 := f12 (hall 12 (by decide))
      have g13 := f13 (hall 13 (by decide))
      have g14 := f14 (hall 14 (by decide))
      have g15 := f15 (hall 15 (by decide))
      have g17 := f17 (hall 17 (by decide))
      have g18 := f18 (hall 18 (by decide))
      rw [hall 19 (by decide), cond_true] at wO
      clear hall f0 f1 f2 f3 f4 f5 f6 f7 f8 f9 f10 f11 f12 f13 f14 f15 f16 f17 f18
      replace ltX := oX.lt
      replace ltR := oR.lt
      try clear g0
      try clear g1
      try clear g2
      try clear g3
      try clear g4
      try clear g5
      try clear g6
      try clear g7
      try clear g8
      try clear g9
      try clear g10
      try clear g11
      try clear g12
      try clear g13
      try clear g14
      try clear g15
      try clear g18
      clear hbW
      simp only [setM_some, setM_none, setM_nil]
      clear fk fs
      obtain ⟨hL2, hne2⟩ := g17
      have HG := plainM_take (by rw [HLN.out]; exact h0) HPV.out
      go_wp2
      go_roundw
      case rel => exact ⟨k + 1, _, by omega, by go_num, oX, oR, wO, by rw [HG]; exact hL2, hbw⟩
      case measure => simp [intOf]; omega
    · have hkq : k = qX := by omega
      subst hkq
      rw [List.take_of_length_le (by rw [HLN.out]; exact Nat.le_refl _)] at hL
      obtain ⟨aL, cL, hv9, hlen9, -⟩ := MArr.of hL
      injection hv9 with e1 e2 e3
      subst e1
      subst e2
      subst e3
      have hL2 := hL.storesO oR (by decide) 0 [.slice ao0 m0 cap0, .string (nT m)]
      have hB2 := below_stores (show w.heap.size ≤ w.heap.size + 1 by omega) [.slice ao0 m0 cap0, .string (nT m)] 0 hbw
      obtain ⟨_, _, hv9, -, hMA⟩ := MArr.of hL2
      cases hv9
      obtain ⟨Rc0, Rc1, Rk0, Rk1⟩ := oR.two
      obtain ⟨Xc0, Xc1, Xc2⟩ := oX.three
      obtain ⟨Xk0, Xk1, Xk2⟩ := oX.frozen3
      obtain ⟨Oc0, Oc1, Ok0, Ok1⟩ := oO.two
      try simp only []
      try go_at_K
      repeat (first | go_values | go_skip | go_guarded | go_step | go_upon)
      refine bodyPost_ret (v := .agg #[.slice ao0 m0 cap0, .string (nT m)]) (by simp [results, Tryz.results44, go_sem, Rc0, Rc1]) rfl ?_
      exact ⟨_, rfl, ⟨ao0, m0, cap0, rfl, hlen9, hMA⟩, hB2⟩

end Go.Proofs.YteefniagebcagaaGreatDoor
