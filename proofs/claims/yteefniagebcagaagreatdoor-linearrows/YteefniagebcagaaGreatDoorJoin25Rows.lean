/- Joined: LinPl, LinSR, LinSm, RegB: words and contracts; no statement of the seat is proved here. -/
import Derived.Test.YteefniagebcagaaGreatDoorJoin23Rows
import Derived.Laws.StructEq
/- Contract of linear's Plain; they prove no statement of the seat. -/
namespace Go.Proofs.YteefniagebcagaaGreatDoor
open Go.RowKit
set_option linter.unusedVariables false

/-- The plain parts of a sum. -/
def plainM (a : List (Nat × Int)) : List (Int × ByteArray) := a.map fun p => ((p.1 : Int), nT p.2)
theorem plainM_take {a : List (Nat × Int)} {k v : Nat} {z : Int} (hk : k < a.length) (hp : a.getD k (0, 0) = (v, z)) : cM (plainM (a.take (k + 1))) = cM (plainM (a.take k)) ++ [.int .i64 (v : Nat), .string (nT z)] := by
  unfold plainM
  rw [List.take_succ_eq_append_getElem hk, List.map_append, cM_append]
  rw [List.getD_eq_getElem?_getD, List.getElem?_eq_getElem hk] at hp
  simp at hp
  rw [hp]; rfl

set_option maxRecDepth 20000 in
set_option maxHeartbeats 8000000 in
theorem plain_any (vX : Value) (a : List (Nat × Int)) (m : Int) (w : World) (hX : RowR w vX a m) :
    Calls Tryz.prog 43 #[vX] w fun e w' => ∃ ao n cap, e = .returned (.agg #[.slice ao n cap, .string (nT m)]) ∧ (plainM a).length = n ∧ MArr w' ao (plainM a) ∧ Below w.heap.size w w' := by
  obtain ⟨pX, qX, rX, xX, aX, nX, cX, yX, dX, lX, fX, rfl, hX, hM⟩ := hX
  have ha0 := hX.arr
  have oX := ((Blk.new w 82 #[.slice pX qX rX, .bool xX, .slice aX nX cX, .bool yX, .slice dX lX fX]).alloc (.cells #[.slice none 0 0, .string ⟨#[]⟩] 79 (0, 0)))
  have oR := (Blk.new (w.alloc (.cells #[.slice pX qX rX, .bool xX, .slice aX nX cX, .bool yX, .slice dX lX fX] 82 (0, 0))) 79 #[.slice none 0 0, .string ⟨#[]⟩])
  simp only [World.size_alloc] at oR
  have hbw : Below w.heap.size w ((w.alloc (.cells #[.slice pX qX rX, .bool xX, .slice aX nX cX, .bool yX, .slice dX lX fX] 82 (0, 0))).alloc (.cells #[.slice none 0 0, .string ⟨#[]⟩] 79 (0, 0))) := by go_grown
  replace hX := hX.below hbw
  have ltX := oX.lt
  have lwX : w.heap.size ≤ w.heap.size := by omega
  have ltR := oR.lt
  have lwR : w.heap.size ≤ w.heap.size + 1 := by omega
  go_enter Tryz.func43, Tryz.ntmps43
  have HX : Hid (PArr w pX a) := ha0
  have HMS : Hid (AInt w (.agg #[.bool yX, .slice dX lX fX]) m) := hM
  have HLN : Hid (a.length = qX) := hX.len
  have hlen := hX.n_le
  clear ha0 hM
  obtain ⟨Xc0, Xc1, Xc2, Xc3, Xc4⟩ := oX.five
  obtain ⟨Xk0, Xk1, Xk2, Xk3, Xk4⟩ := oX.frozen5
  go_wp2
  go_loopw [3, 10] (fun l i wl => ∃ (k : Nat), k ≤ qX ∧ i = .int .i64 k ∧ Blk 82 wl w.heap.size #[.slice pX qX rX, .bool xX, .slice aX nX cX, .bool yX, .slice dX lX fX] ∧ Blk 79 wl (w.heap.size + 1) #[.slice none 0 0, .string ⟨#[]⟩] ∧ LstG 2 103 w.heap.size wl l k (cM (plainM (a.take k))) ∧ Below w.heap.size w wl) (fun _ i _ => qX - (intOf i).toNat)
  case atStart => exact ⟨0, Nat.zero_le _, rfl, oX, oR, LstG.nil _ _ _ _, hbw⟩
  case round =>
    rename World => wl
    clear oX oR hbw hX ltX ltR Xc0 Xc1 Xc2 Xc3 Xc4 Xk0 Xk1 Xk2 Xk3 Xk4
    obtain ⟨k, hk, hi9, oX, oR, hL, hbw⟩ := hrel
    have ltX := oX.lt
    have ltR := oR.lt
    by_cases h0 : k < qX
    · obtain ⟨gE, oE, sE, aE, mE, cE, had, k1, k2, k3, k4⟩ := HX.out.at k (by rw [HLN.out]; exact h0)
      subst had
      obtain ⟨pv, hpv⟩ : ∃ x9, x9 = (a.getD k (0, 0)).1 := ⟨_, rfl⟩
      obtain ⟨pz, hpz⟩ : ∃ x9, x9 = (a.getD k (0, 0)).2 := ⟨_, rfl⟩
      rw [← hpv] at k1
      rw [← hpz] at k4
      have HPV : Hid (a.getD k (0, 0) = (pv, pz)) := by show _ = _; rw [hpv, hpz]
      clear hpv hpz
      have A0 := (hbw.cell (p := ⟨gE, oE + k * 3, none⟩) (World.block_lt_of_cell? w _ k1)).trans k1
      have A1 := (hbw.cell (p := ⟨gE, oE + k * 3 + 1, none⟩) (World.block_lt_of_cell? w _ k2)).trans k2
      have A2 := (hbw.cell (p := ⟨gE, oE + k * 3 + 2, none⟩) (World.block_lt_of_cell? w _ k3)).trans k3
      have hE0 := k4.below hbw
      clear k1 k2 k3 k4
      subst hi9
      obtain ⟨Xc0, Xc1, Xc2, Xc3, Xc4⟩ := oX.five
      obtain ⟨Xk0, Xk1, Xk2, Xk3, Xk4⟩ := oX.frozen5
      go_wp2
      have hn := below_new wl (.cells #[.int .i64 (pv : Nat), .bool sE, .slice aE mE cE] 116 (0, 0))
      have oP := Blk.new wl 116 #[.int .i64 (pv : Nat), .bool sE, .slice aE mE cE]
      have neXP : w.heap.size ≠ wl.heap.size := by have := ltX; (try simp at this); omega
      have neRP : w.heap.size + 1 ≠ wl.heap.size := by have := ltR; (try simp at this); omega
      have lwP : w.heap.size ≤ wl.heap.size := by have := hbw.size; (try simp at this); omega
      replace oX := oX.stay hn
      replace ltX := oX.lt
      replace oR := oR.stay hn
      replace ltR := oR.lt
      replace hE0 := hE0.below hn
      replace hL := hL.below hn
      replace hbw := hbw.step hn (Nat.le_refl _)
      clear hn
      have ltP := oP.lt
      clear Xc0 Xc1 Xc2 Xc3 Xc4 Xk0 Xk1 Xk2 Xk3 Xk4
      clear A0 A1 A2
      have naX := hL.blk oX (by decide)
      have naR := hL.blk oR (by decide)
      have naP := hL.blk oP (by decide)
      generalize (wl.alloc (.cells #[.int .i64 (pv : Nat), .bool sE, .slice aE mE cE] 116 (0, 0))) = W at hbw oX oR oP ltX ltR ltP hE0 hL ⊢
      have hLb := hbw.size
      have hLg := Nat.le_refl w.heap.size
      have hbW := hbw
      refine wp_region_M2 (by kernel_rfl) [3, 14, 15, 16, 17, 18, 19, 20, 21, 22] [none, none, none, some 3, none, none, none, none, none, none, none, none, none, none, some 14, some 15, some 16, some 17, some 18, some 19, some 20, some 21, some 22] (fun U => by kernel_rfl) (fun L U wr => Below w.heap.size w wr ∧ KeepN W wr ∧ W.heap.size ≤ wr.heap.size ∧ Blk 82 wr (w.heap.size) #[.slice (some ⟨gE, oE, none⟩) qX rX, .bool xX, .slice aX nX cX, .bool yX, .slice dX lX fX] ∧ Blk 79 wr (w.heap.size + 1) #[.slice none 0 0, .string ⟨#[]⟩] ∧ Blk 116 wr (wl.heap.size) #[.int .i64 (pv : Nat), .bool sE, .slice aE mE cE] ∧ (L 8 = false → LstG 2 103 w.heap.size wr u3 k (cM (plainM (a.take k)))) ∧ (L 9 = false → U 3 = (u3)) ∧ (L 0 = true → IS (u3) (U 14) wr) ∧ (L 1 = true → IS (.pointer (some ⟨wl.heap.size, 0, none⟩)) (U 15) wr) ∧ (L 2 = true → IS (.int .i64 (pv : Nat)) (U 16) wr) ∧ (L 3 = true → IS (.pointer (some ⟨wl.heap.size, 1, none⟩)) (U 17) wr) ∧ (L 4 = true → IS (.agg #[.bool sE, .slice aE mE cE]) (U 18) wr) ∧ (L 5 = true → IS (.string (nT pz)) (U 19) wr) ∧ (L 6 = true → IS (.agg #[.int .i64 (pv : Nat), .string (nT pz)]) (U 20) wr) ∧ (L 7 = true → L 8 = false → ONE 103 #[.int .i64 (pv : Nat), .string (nT pz)] (U 21) wr) ∧ (L 8 = true → LstG 2 103 w.heap.size wr (U 22) (k + 1) ((cM (plainM (a.take k))) ++ [.int .i64 (pv : Nat), .string (nT pz)]) ∧ U 22 ≠ .slice none 0 0) ∧ (L 9 = true → L 8 = true ∧ U 3 = U 22) ∧ (L 8 = true → L 0 = true) ∧ (L 8 = true → L 7 = true) ∧ (L 9 = true → L 0 = true)) (by kernel_rfl) ?_ ?_ ?_
      · exact ⟨hbw.drew, KeepN.below (Below.refl _ _).drew, Nat.le_refl _, oX.drew, oR.drew, oP.drew, (fun _ => hL.below (Below.refl _ _).drew), (fun _ => rfl), (fun h => by cases h), (fun h => by cases h), (fun h => by cases h), (fun h => by cases h), (fun h => by cases h), (fun h => by cases h), (fun h => by cases h), (fun h => by cases h), (fun h => by cases h), (fun h => by cases h), (fun h => by cases h), (fun h => by cases h), (fun h => by cases h)⟩
      · refine StepsU.run rfl ?_ ?_
        · intro L U wr hF hlk haf A K hA hK
          have HA : Hid (A = putAll _ _ U) := hA
          clear hA
          simp [Aft, Region.binds] at haf
          obtain ⟨fb, fk, fs, oX, oR, oP, fl, v3, f0, f1, f2, f3, f4, f5, f6, f7, f8, f9, p0, p7, z9_0⟩ := hF
          have hw : L 9 = false := by cases h : L 9 with | false => rfl | true => rw [z9_0 h] at hlk; cases hlk
          have e3 := rd HA.out 3 (by kernel_rfl) (v3 hw)
          refine ⟨?_⟩
          go_simp
          refine hK (upd U 14 (u3)) _ _ ?_ ?_
          · rw [HA.out]; kernel_rfl
          · exact ⟨fb, fk, fs, oX, oR, oP, fl, v3, (fun _ => rfl), f1, f2, f3, f4, f5, f6, f7, f8, f9, (fun _ => rfl), p7, (fun _ => rfl)⟩
        refine StepsU.run rfl ?_ ?_
        · intro L U wr hF hlk haf A K hA hK
          have HA : Hid (A = putAll _ _ U) := hA
          clear hA
          simp [Aft, Region.binds] at haf
          obtain ⟨fb, fk, fs, oX, oR, oP, fl, v3, f0, f1, f2, f3, f4, f5, f6, f7, f8, f9, p0, p7, z9_0⟩ := hF
          have e5 : A.tmps[5]? = some (.pointer (some ⟨wl.heap.size, 0, none⟩)) := by rw [HA.out]; kernel_rfl
          refine ⟨?_⟩
          go_simp
          refine hK (upd U 15 (.pointer (some ⟨wl.heap.size, 0, none⟩))) _ _ ?_ ?_
          · rw [HA.out]; kernel_rfl
          · exact ⟨fb, fk, fs, oX, oR, oP, fl, v3, f0, (fun _ => rfl), f2, f3, f4, f5, f6, f7, f8, f9, p0, p7, z9_0⟩
        refine StepsU.run rfl ?_ ?_
        · intro L U wr hF hlk haf A K hA hK
          have HA : Hid (A = putAll _ _ U) := hA
          clear hA
          simp [Aft, Region.binds] at haf
          obtain ⟨fb, fk, fs, oX, oR, oP, fl, v3, f0, f1, f2, f3, f4, f5, f6, f7, f8, f9, p0, p7, z9_0⟩ := hF
          have g1 := f1 (by simp [haf])
          have e15 := rd HA.out 15 (by kernel_rfl) g1
          have c0 := oP.cell 0
          simp at c0
          refine ⟨?_⟩
          go_simp
          refine hK (upd U 16 (.int .i64 (pv : Nat))) _ _ ?_ ?_
          · rw [HA.out]; kernel_rfl
          · exact ⟨fb, fk, fs, oX, oR, oP, fl, v3, f0, f1, (fun _ => rfl), f3, f4, f5, f6, f7, f8, f9, p0, p7, z9_0⟩
        refine StepsU.run rfl ?_ ?_
        · intro L U wr hF hlk haf A K hA hK
          have HA : Hid (A = putAll _ _ U) := hA
          clear hA
          simp [Aft, Region.binds] at haf
          obtain ⟨fb, fk, fs, oX, oR, oP, fl, v3, f0, f1, f2, f3, f4, f5, f6, f7, f8, f9, p0, p7, z9_0⟩ := hF
          have e5 : A.tmps[5]? = some (.pointer (some ⟨wl.heap.size, 0, none⟩)) := by rw [HA.out]; kernel_rfl
          refine ⟨?_⟩
          go_simp
          refine hK (upd U 17 (.pointer (some ⟨wl.heap.size, 1, none⟩))) _ _ ?_ ?_
          · rw [HA.out]; kernel_rfl
          · exact ⟨fb, fk, fs, oX, oR, oP, fl, v3, f0, f1, f2, (fun _ => rfl), f4, f5, f6, f7, f8, f9, p0, p7, z9_0⟩
        refine StepsU.run rfl ?_ ?_
        · intro L U wr hF hlk haf A K hA hK
          have HA : Hid (A = putAll _ _ U) := hA
          clear hA
          simp [Aft, Region.binds] at haf
          obtain ⟨fb, fk, fs, oX, oR, oP, fl, v3, f0, f1, f2, f3, f4, f5, f6, f7, f8, f9, p0, p7, z9_0⟩ := hF
          have g3 := f3 (by simp [haf])
          have e17 := rd HA.out 17 (by kernel_rfl) g3
          have c1 := oP.cell 1
          have c2 := oP.cell 2
          simp at c1
          simp at c2
          refine ⟨?_⟩
          go_simp
          refine hK (upd U 18 (.agg #[.bool sE, .slice aE mE cE])) _ _ ?_ ?_
          · rw [HA.out]; kernel_rfl
          · exact ⟨fb, fk, fs, oX, oR, oP, fl, v3, f0, f1, f2, f3, (fun _ => rfl), f5, f6, f7, f8, f9, p0, p7, z9_0⟩
        refine StepsU.run rfl ?_ ?_
        · intro L U wr hF hlk haf A K hA hK
          have HA : Hid (A = putAll _ _ U) := hA
          clear hA
          simp [Aft, Region.binds] at haf
          obtain ⟨fb, fk, fs, oX, oR, oP, fl, v3, f0, f1, f2, f3, f4, f5, f6, f7, f8, f9, p0, p7, z9_0⟩ := hF
          have g4 := f4 (by simp [haf])
          have e18 := rd HA.out 18 (by kernel_rfl) g4
          refine ⟨?_⟩
          go_simp
          refine (text_h _ pz _ (hE0.keepN fk)).mono ?_
          rintro e w1 ⟨rfl, hb⟩
          go_simp
          refine hK (upd U 19 (.string (nT pz))) _ _ ?_ ?_
          · rw [HA.out]; kernel_rfl
          · exact ⟨(fb.step hb (Nat.le_refl _)), (fk.trans (KeepN.below hb)), (Nat.le_trans fs hb.size), (oX.stay hb), (oR.stay hb), (oP.stay hb), (fun h => (fl h).below hb), v3, (mvN mn_is (KeepN.below hb) f0), (mvN mn_is (KeepN.below hb) f1), (mvN mn_is (KeepN.below hb) f2), (mvN mn_is (KeepN.below hb) f3), (mvN mn_is (KeepN.below hb) f4), (fun _ => rfl), (mvN mn_is (KeepN.below hb) f6), (fun h h2 => (f7 h h2).below hb), (fun h => ⟨(f8 h).1.below hb, (f8 h).2⟩), f9, p0, p7, z9_0⟩
        refine StepsU.run rfl ?_ ?_
        · intro L U wr hF hlk haf A K hA hK
          have HA : Hid (A = putAll _ _ U) := hA
          clear hA
          simp [Aft, Region.binds] at haf
          obtain ⟨fb, fk, fs, oX, oR, oP, fl, v3, f0, f1, f2, f3, f4, f5, f6, f7, f8, f9, p0, p7, z9_0⟩ := hF
          have g2 := f2 (by simp [haf])
          have g5 := f5 (by simp [haf])
          have e16 := rd HA.out 16 (by kernel_rfl) g2
          have e19 := rd HA.out 19 (by kernel_rfl) g5
          refine ⟨?_⟩
          go_simp
          refine hK (upd U 20 (.agg #[.int .i64 (pv : Nat), .string (nT pz)])) _ _ ?_ ?_
          · rw [HA.out]; kernel_rfl
          · exact ⟨fb, fk, fs, oX, oR, oP, fl, v3, f0, f1, f2, f3, f4, f5, (fun _ => rfl), f7, f8, f9, p0, p7, z9_0⟩
        refine StepsU.run rfl ?_ ?_
        · intro L U wr hF hlk haf A K hA hK
          have HA : Hid (A = putAll _ _ U) := hA
          clear hA
          simp [Aft, Region.binds] at haf
          obtain ⟨fb, fk, fs, oX, oR, oP, fl, v3, f0, f1, f2, f3, f4, f5, f6, f7, f8, f9, p0, p7, z9_0⟩ := hF
          have g6 := f6 (by simp [haf])
          have e20 := rd HA.out 20 (by kernel_rfl) g6
          have hap : L 8 = false := by cases h : L 8 with | false => rfl | true => rw [p7 h] at hlk; cases hlk
          refine ⟨?_⟩
          go_simp
          have hb := below_new wr (.cells #[.int .i64 (pv : Nat), .string (nT pz)] 103 (0, 0))
          refine hK (upd U 21 (.slice (some ⟨wr.heap.size, 0, none⟩) 1 1)) _ _ ?_ ?_
          · rw [HA.out]; kernel_rfl
          · exact ⟨(fb.step hb (Nat.le_refl _)), (fk.trans (KeepN.below hb)), (Nat.le_trans fs hb.size), (oX.stay hb), (oR.stay hb), (oP.stay hb), (fun h => (fl h).below hb), v3, (mvN mn_is (KeepN.below hb) f0), (mvN mn_is (KeepN.below hb) f1), (mvN mn_is (KeepN.below hb) f2), (mvN mn_is (KeepN.below hb) f3), (mvN mn_is (KeepN.below hb) f4), (mvN mn_is (KeepN.below hb) f5), (mvN mn_is (KeepN.below hb) f6), (fun _ _ => ⟨wr.heap.size, rfl, Blk.new wr 103 #[.int .i64 (pv : Nat), .string (nT pz)]⟩), (fun h => ⟨(f8 h).1.below hb, (f8 h).2⟩), f9, p0, (fun _ => rfl), z9_0⟩
        refine StepsU.run rfl ?_ ?_
        · intro L U wr hF hlk haf A K hA hK
          have HA : Hid (A = putAll _ _ U) := hA
          clear hA
          simp [Aft, Region.binds] at haf
          obtain ⟨fb, fk, fs, oX, oR, oP, fl, v3, f0, f1, f2, f3, f4, f5, f6, f7, f8, f9, p0, p7, z9_0⟩ := hF
          have g0 := f0 (by simp [haf])
          have g7 := f7 (by simp [haf]) hlk
          obtain ⟨gb, hgb, hBb⟩ := g7
          have e14 := rd HA.out 14 (by kernel_rfl) g0
          have e21 := rd HA.out 21 (by kernel_rfl) hgb
          refine ⟨?_⟩
          refine wp_append_g (.tmp 14) (.tmp 21) 22 rfl 2 w.heap.size 103 (.agg #[.int .i64 0, .string ⟨#[]⟩]) 24 Tryz.und_monos Tryz.info_mono (by decide) rfl (by decide) (nuM _ _) (by decide) u3 k (cM (plainM (a.take k))) (by simp [Act.eval, e14]) (fl hlk) ⟨gb, 0, none⟩ 1 1 [.int .i64 (pv : Nat), .string (nT pz)] (by simp [Act.eval, e21]) rfl ?_ (by intro u hu; simp at hu; rcases hu with rfl | rfl <;> rfl) (nuM _ _) (Or.inl (by decide)) (by omega) (Nat.le_trans hLb fs) ?_
          · intro j u hj
            match j, hj with
            | 0, hj => simp at hj; subst hj; exact hBb.cell 0
            | 1, hj => simp at hj; subst hj; exact hBb.cell 1
            | j + 2, hj => simp at hj
          · intro v' w1 hL1 hA1 hnn1
            refine hK (upd U 22 v') _ _ ?_ ?_
            · rw [HA.out]; kernel_rfl
            · exact ⟨(fb.trans (hA1.bel.mono hLg)), (fk.trans hA1.keep), (Nat.le_trans fs hA1.size), ((hA1.other _ oX.lt naX).trans oX), ((hA1.other _ oR.lt naR).trans oR), ((hA1.other _ oP.lt naP).trans oP), (fun h => by cases h), v3, (mvN mn_is hA1.keep f0), (mvN mn_is hA1.keep f1), (mvN mn_is hA1.keep f2), (mvN mn_is hA1.keep f3), (mvN mn_is hA1.keep f4), (mvN mn_is hA1.keep f5), (mvN mn_is hA1.keep f6), (fun _ h => by cases h), (fun _ => ⟨hL1, hnn1⟩), (fun h => by have h1 := (f9 h).1; rw [hlk] at h1; cases h1), (fun _ => by simp [haf]), (fun _ => by simp [haf]), z9_0⟩
        refine StepsU.run rfl ?_ StepsU.nil
        · intro L U wr hF hlk haf A K hA hK
          have HA : Hid (A = putAll _ _ U) := hA
          clear hA
          simp [Aft, Region.binds] at haf
          obtain ⟨fb, fk, fs, oX, oR, oP, fl, v3, f0, f1, f2, f3, f4, f5, f6, f7, f8, f9, p0, p7, z9_0⟩ := hF
          have e22 := rd HA.out 22 (by kernel_rfl) rfl
          refine ⟨?_⟩
          go_simp
          refine hK (upd U 3 (U 22)) _ _ ?_ ?_
          · rw [HA.out]; kernel_rfl
          · exact ⟨fb, fk, fs, oX, oR, oP, fl, (fun h => by cases h), f0, f1, f2, f3, f4, f5, f6, f7, f8, (fun _ => ⟨by simp [haf], rfl⟩), p0, p7, (fun _ => by simp [haf])⟩
      clear hbw oX oR oP hL
      intro L U1 V hall hF
      obtain ⟨hbw, fk, fs, oX, oR, oP, fl, v3, f0, f1, f2, f3, f4, f5, f6, f7, f8, f9, p0, p7, z9_0⟩ := hF
      clear fl v3 p0 p7 z9_0
      have g0 := f0 (hall 0 (by decide))
      have g1 := f1 (hall 1 (by decide))
      have g2 := f2 (hall 2 (by decide))
      have g3 := f3 (hall 3 (by decide))
      have g4 := f4 (hall 4 (by decide))
      have g5 := f5 (hall 5 (by decide))
      have g6 := f6 (hall 6 (by decide))
      have g8 := f8 (hall 8 (by decide))
      have g9 := f9 (hall 9 (by decide))
      clear hall f0 f1 f2 f3 f4 f5 f6 f7 f8 f9
      replace ltX := oX.lt
      replace ltR := oR.lt
      replace ltP := oP.lt
      try clear g0
      try clear g1
      try clear g2
      try clear g3
      try clear g4
      try clear g5
      try clear g6
      clear hbW
      simp only [setM_some, setM_none, setM_nil]
      obtain ⟨hL2, hne2⟩ := g8
      have e6 := g9.2
      rw [← e6] at hL2
      have HE6 : Hid (U1 3 = _) := e6
      clear g9 e6 fk fs oP ltP hne2
      have HG := plainM_take (by rw [HLN.out]; exact h0) HPV.out
      go_wp2
      go_roundw
      case rel => exact ⟨k + 1, by omega, by go_num, oX, oR, by rw [HG]; exact hL2, hbw⟩
      case measure => simp [intOf]; omega
    · subst hi9
      have hkq : k = qX := by omega
      subst hkq
      rw [List.take_of_length_le (by rw [HLN.out]; exact Nat.le_refl _)] at hL
      clear hk h0
      obtain ⟨Xc0, Xc1, Xc2, Xc3, Xc4⟩ := oX.five
      obtain ⟨Xk0, Xk1, Xk2, Xk3, Xk4⟩ := oX.frozen5
      go_wp2_with fail
      refine (text_h _ m _ (HMS.out.below hbw)).mono ?_
      rintro e w1 ⟨rfl, hb⟩
      clear Xc0 Xc1 Xc2 Xc3 Xc4 Xk0 Xk1 Xk2 Xk3 Xk4
      replace oX := oX.stay hb
      replace ltX := oX.lt
      replace oR := oR.stay hb
      replace ltR := oR.lt
      replace hL := hL.below hb
      replace hbw := hbw.step hb (Nat.le_refl _)
      clear hb
      obtain ⟨aL, cL, rfl, hlen, -⟩ := MArr.of hL
      have hL2 := hL.storesO oR (by decide) 0 [.slice aL k cL, .string (nT m)]
      have hB2 := below_stores (show w.heap.size ≤ w.heap.size + 1 by omega) [.slice aL k cL, .string (nT m)] 0 hbw
      obtain ⟨_, _, hv9, -, hMA⟩ := MArr.of hL2
      cases hv9
      obtain ⟨Rc0, Rc1, Rk0, Rk1⟩ := oR.two
      try simp only []
      try go_at_K
      repeat (first | go_values | go_skip | go_guarded | go_step | go_upon)
      refine bodyPost_ret (v := .agg #[.slice aL k cL, .string (nT m)]) (by simp [results, Tryz.results43, go_sem, Rc0, Rc1]) rfl ?_
      first | exact ⟨aL, k, cL, rfl, hlen, hMA, hB2⟩ | exact ⟨aL, k, ⟨cL, rfl⟩, hlen, hMA, hB2⟩

end Go.Proofs.YteefniagebcagaaGreatDoor
/- Contract of suretyref03's SameRow; they prove no statement of the seat. -/
namespace Go.Proofs.YteefniagebcagaaGreatDoor
open Go.RowKit
set_option linter.unusedVariables false

set_option maxRecDepth 20000 in
set_option maxHeartbeats 8000000 in
theorem sameRow_yes (aX aY : Option Addr) (nX cX cY : Nat) (S : ByteArray) (ms : List (Int × ByteArray)) (w : World) (hx : MArr w aX ms) (hy : MArr w aY ms) (hl : ms.length = nX) (hm : nX ≤ maxLen) :
    Calls Tryz.prog 42 #[.agg #[.slice aX nX cX, .string S], .agg #[.slice aY nX cY, .string S]] w fun e w' => e = .returned (.bool true) ∧ Below w.heap.size w w' := by
  have oX := ((Blk.new w 79 #[.slice aX nX cX, .string S]).alloc (.cells #[.slice aY nX cY, .string S] 79 (0, 0)))
  have oY := (Blk.new (w.alloc (.cells #[.slice aX nX cX, .string S] 79 (0, 0))) 79 #[.slice aY nX cY, .string S])
  simp only [World.size_alloc] at oY
  have hbw : Below w.heap.size w ((w.alloc (.cells #[.slice aX nX cX, .string S] 79 (0, 0))).alloc (.cells #[.slice aY nX cY, .string S] 79 (0, 0))) := by go_grown
  have ltX := oX.lt
  have lwX : w.heap.size ≤ w.heap.size := by omega
  have ltY := oY.lt
  have lwY : w.heap.size ≤ w.heap.size + 1 := by omega
  go_enter Tryz.func42, Tryz.ntmps42
  have HX : Hid (MArr w aX ms) := hx
  have HY : Hid (MArr w aY ms) := hy
  have HLN : Hid (ms.length = nX) := hl
  have hn : (nX : Int) ≤ 9223372036854775807 := by unfold maxLen at hm; omega
  clear hx hy hl hm
  obtain ⟨Xc0, Xc1, Xk0, Xk1⟩ := oX.two
  obtain ⟨Yc0, Yc1, Yk0, Yk1⟩ := oY.two
  go_wp2
  go_loopw [5] (fun i wl => ∃ (k : Nat), k ≤ nX ∧ i = .int .i64 k ∧ Blk 79 wl w.heap.size #[.slice aX nX cX, .string S] ∧ Blk 79 wl (w.heap.size + 1) #[.slice aY nX cY, .string S] ∧ Below w.heap.size w wl) (fun i _ => nX - (intOf i).toNat)
  case atStart => exact ⟨0, Nat.zero_le _, rfl, oX, oY, hbw⟩
  case round =>
    rename World => wl
    clear oX oY hbw ltX ltY Xc0 Xc1 Xk0 Xk1 Yc0 Yc1 Yk0 Yk1
    obtain ⟨k, hk, hi9, oX, oY, hbw⟩ := hrel
    subst hi9
    obtain ⟨X0, X1, -, -⟩ := oX.two
    obtain ⟨Y0, Y1, -, -⟩ := oY.two
    by_cases h0 : k < nX
    · obtain ⟨gE, oE, had, k1, k2⟩ := HX.out.at k (by rw [HLN.out]; exact h0)
      subst had
      obtain ⟨gF, oF, had, j1, j2⟩ := HY.out.at k (by rw [HLN.out]; exact h0)
      subst had
      obtain ⟨v, hpv⟩ : ∃ x9, x9 = (ms.getD k (0, ⟨#[]⟩)).1 := ⟨_, rfl⟩
      obtain ⟨T, hps⟩ : ∃ x9, x9 = (ms.getD k (0, ⟨#[]⟩)).2 := ⟨_, rfl⟩
      rw [← hpv] at k1 j1
      rw [← hps] at k2 j2
      clear hpv hps
      have A0 := (hbw.cell (p := ⟨gE, oE + k * 2, none⟩) (World.block_lt_of_cell? w _ k1)).trans k1
      have A1 := (hbw.cell (p := ⟨gE, oE + k * 2 + 1, none⟩) (World.block_lt_of_cell? w _ k2)).trans k2
      have B0 := (hbw.cell (p := ⟨gF, oF + k * 2, none⟩) (World.block_lt_of_cell? w _ j1)).trans j1
      have B1 := (hbw.cell (p := ⟨gF, oF + k * 2 + 1, none⟩) (World.block_lt_of_cell? w _ j2)).trans j2
      clear k1 k2 j1 j2
      go_wp2
      go_region
      go_wp2
      go_roundw
      case rel => exact ⟨k + 1, by omega, by go_num, oX.drew, oY.drew, hbw.drew⟩
      case measure => simp [intOf]; omega
    · go_wp2
      go_ret
      exact ⟨rfl, hbw⟩

end Go.Proofs.YteefniagebcagaaGreatDoor
/- Contracts of linear's sameParts and Same; they prove no statement of the seat. -/
namespace Go.Proofs.YteefniagebcagaaGreatDoor
open Go.RowKit
set_option linter.unusedVariables false

end Go.Proofs.YteefniagebcagaaGreatDoor
/- Words for regions that only read: all that lay there stays; they prove no statement of the seat. -/
namespace Go.Proofs.YteefniagebcagaaGreatDoor
open Go.RowKit
set_option linter.unusedVariables false

/-- All that lay there stays. -/
structure KeepB (w w' : World) : Prop where
  b : Below w.heap.size w w'
theorem KeepB.below {w w' : World} (h : Below w.heap.size w w') : KeepB w w' := ⟨h⟩
theorem KeepB.trans {a b c : World} (h : KeepB a b) (k : KeepB b c) : KeepB a c := ⟨h.b.step k.b (Nat.le_refl _)⟩
theorem KeepB.p {w w' : World} (h : KeepB w w') : KeepP w w' := KeepP.below h.b
def MonoB (p : Value → World → Prop) : Prop := ∀ u w w', KeepB w w' → p u w → p u w'
theorem MonoP.b {p : Value → World → Prop} (h : MonoP p) : MonoB p := fun u w w' hk => h u w w' hk.p
theorem mb_is {v : Value} : MonoB (IS v) := mp_is.b
theorem mb_rnm {z : Int} {N : Nat} : MonoB (RNM z N) := mp_rnm.b
theorem mb_row {ps : List (Nat × Int)} {m : Int} : MonoB (ROW ps m) := mp_row.b
theorem mb_t2 {p q : Value → World → Prop} (hp : MonoB p) (hq : MonoB q) : MonoB (T2 p q) := fun _ w w' hk h => by
  obtain ⟨a, b, h1, h2, h3⟩ := h
  exact ⟨a, b, h1, hp _ _ _ hk h2, hq _ _ _ hk h3⟩
theorem mvB {p : Value → World → Prop} (hp : MonoB p) {w w' : World} (hk : KeepB w w') {b : Prop} {u : Value} (h : b → p u w) : b → p u w' := fun k => hp _ _ _ hk (h k)
/-- The plain row of a sum and a number. -/
def PLN (a : List (Nat × Int)) (m : Int) : Value → World → Prop := fun u w => ∃ ao n cap, u = .agg #[.slice ao n cap, .string (nT m)] ∧ (plainM a).length = n ∧ MArr w ao (plainM a)
theorem mb_pln {a : List (Nat × Int)} {m : Int} : MonoB (PLN a m) := fun _ _ _ hk h => by
  obtain ⟨ao, n, cap, h1, h2, h3⟩ := h
  exact ⟨ao, n, cap, h1, h2, h3.below hk.b⟩
theorem plain_h (v : Value) (a : List (Nat × Int)) (m : Int) (w : World) (hX : RowR w v a m) :
    Calls Tryz.prog 43 #[v] w fun e w' => ∃ u, e = .returned u ∧ PLN a m u w' ∧ Below w.heap.size w w' := by
  refine (plain_any v a m w hX).mono ?_
  rintro e w' ⟨ao, n, cap, rfl, h1, h2, hb⟩
  exact ⟨_, rfl, ⟨ao, n, cap, rfl, h1, h2⟩, hb⟩
theorem sameRow_h (u v : Value) (a : List (Nat × Int)) (m : Int) (w : World) (hx : PLN a m u w) (hy : PLN a m v w) (hf : Fine a) :
    Calls Tryz.prog 42 #[u, v] w fun e w' => e = .returned (.bool true) ∧ Below w.heap.size w w' := by
  obtain ⟨ao, n, cap, rfl, h1, h2⟩ := hx
  obtain ⟨bo, n', cap', rfl, h1', h2'⟩ := hy
  obtain rfl := h1.symm.trans h1'
  refine sameRow_yes ao bo n cap cap' (nT m) (plainM a) w h2 h2' h1 ?_
  rw [← h1]
  unfold plainM maxLen
  rw [List.length_map]
  have := hf.len
  omega
end Go.Proofs.YteefniagebcagaaGreatDoor
