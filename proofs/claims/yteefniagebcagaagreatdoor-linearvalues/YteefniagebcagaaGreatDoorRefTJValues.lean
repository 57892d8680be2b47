/- Contract of suretyref03's At; they prove no statement of the seat. -/
import Derived.Test.YteefniagebcagaaGreatDoorRefCJValues
namespace Go.Proofs.YteefniagebcagaaGreatDoor
open Go.RowKit
set_option linter.unusedVariables false

theorem ats_past {a : List (Nat × Int)} {k pv : Nat} {pz : Int} (hr : Rise a) (hk : k < a.length) (hp : a.getD k (0, 0) = (pv, pz)) (s : Int) (zs : List Int) (hv : zs.length ≤ pv) : ats s (a.drop (k + 1)) zs = some s := by
  have h := rise_tail hr hk hp
  cases e : a.drop (k + 1) with
  | nil => rfl
  | cons q r =>
    rw [e] at h
    have := h q (List.mem_cons_self ..)
    rw [ats, if_neg (by omega)]

set_option maxRecDepth 20000 in
set_option maxHeartbeats 16000000 in
theorem rat_any (vX : Value) (a : List (Nat × Int)) (r : Int) (vo : Option Addr) (k9 vc : Nat) (zs : List Int) (w : World) (hX : RTermR w vX a r) (hvl : zs.length = k9) (hva : ArrR w vo zs) (hk9 : k9 ≤ 1000) :
    Calls Tryz.prog 38 #[vX, .slice vo k9 vc] w fun e w' => ∃ x m n c, e = .returned (.tuple #[.agg #[.bool x, .slice m n c], .int .i64 (atE a r zs)]) ∧ RNum w' (.agg #[.bool x, .slice m n c]) (atZ a r zs) 400 ∧ Below w.heap.size w w' := by
  obtain ⟨pX, qX, rX, xX, aX, nX, cX, rfl, hX⟩ := hX
  have ha0 := hX.arr
  have oX := ((Blk.new w 41 #[.slice pX qX rX, .bool xX, .slice aX nX cX]).alloc (.cells #[.bool false, .slice none 0 0] 39 (0, 0)))
  have oR := (Blk.new (w.alloc (.cells #[.slice pX qX rX, .bool xX, .slice aX nX cX] 41 (0, 0))) 39 #[.bool false, .slice none 0 0])
  simp only [World.size_alloc] at oR
  have hbw : Below w.heap.size w ((w.alloc (.cells #[.slice pX qX rX, .bool xX, .slice aX nX cX] 41 (0, 0))).alloc (.cells #[.bool false, .slice none 0 0] 39 (0, 0))) := by go_grown
  replace hX := hX.below hbw
  have ltX := oX.lt
  have lwX : w.heap.size ≤ w.heap.size := by omega
  have ltR := oR.lt
  have lwR : w.heap.size ≤ w.heap.size + 1 := by omega
  go_enter Tryz.func38, Tryz.ntmps38
  have HX : Hid (QArr w pX a) := ha0
  have HLN : Hid (a.length = qX) := hX.len
  have hlen := hX.n_le
  have HVL : Hid (zs.length = k9) := hvl
  have HVA : Hid (ArrR w vo zs) := hva
  have hS := hX.rest
  have HRI : Hid (Fine a) := hX.fine
  have HRL : Hid (r.natAbs < lim) := hX.rlim
  clear ha0 hvl hva
  obtain ⟨Xc0, Xc1, Xc2⟩ := oX.three
  obtain ⟨Xk0, Xk1, Xk2⟩ := oX.frozen3
  have hn := below_new ((w.alloc (.cells #[.slice pX qX rX, .bool xX, .slice aX nX cX] 41 (0, 0))).alloc (.cells #[.bool false, .slice none 0 0] 39 (0, 0))) (.cells #[.bool xX, .slice aX nX cX] 39 (0, 0))
  have oS := Blk.new ((w.alloc (.cells #[.slice pX qX rX, .bool xX, .slice aX nX cX] 41 (0, 0))).alloc (.cells #[.bool false, .slice none 0 0] 39 (0, 0))) 39 #[.bool xX, .slice aX nX cX]
  simp only [World.size_alloc] at oS
  have neXS : w.heap.size ≠ w.heap.size + 1 + 1 := by have := ltX; (try simp at this); omega
  have neRS : w.heap.size + 1 ≠ w.heap.size + 1 + 1 := by have := ltR; (try simp at this); omega
  have lwS : w.heap.size ≤ w.heap.size + 1 + 1 := by have := hbw.size; (try simp at this); omega
  replace oX := oX.stay hn
  replace ltX := oX.lt
  replace oR := oR.stay hn
  replace ltR := oR.lt
  replace hX := hX.below hn
  replace hbw := hbw.step hn (Nat.le_refl _)
  clear hn
  have ltS := oS.lt
  go_wp2
  go_loopw [7] (fun i wl => ∃ (k : Nat) (s : Int) (xS : Bool) (aS : Option Addr) (nS cS : Nat), k ≤ qX ∧ i = .int .i64 k ∧ Blk 41 wl w.heap.size #[.slice pX qX rX, .bool xX, .slice aX nX cX] ∧ Blk 39 wl (w.heap.size + 1) #[.bool false, .slice none 0 0] ∧ Blk 39 wl (w.heap.size + 1 + 1) #[.bool xS, .slice aS nS cS] ∧ RNum wl (.agg #[.bool xS, .slice aS nS cS]) s 400 ∧ Hid (s.natAbs < lim) ∧ Hid (ats r a zs = ats s (a.drop k) zs) ∧ Below w.heap.size w wl) (fun i _ => qX - (intOf i).toNat)
  case atStart => exact ⟨0, r, xX, aX, nX, cX, Nat.zero_le _, rfl, oX, oR, oS, hX.rest, HRL.out, rfl, hbw⟩
  case round =>
    rename World => wl
    clear oX oR oS hbw hX hS ltX ltR ltS Xc0 Xc1 Xc2 Xk0 Xk1 Xk2
    obtain ⟨k, s, xS, aS, nS, cS, hk, rfl, oX, oR, oS, hS, HSL, HI, hbw⟩ := hrel
    have ltX := oX.lt
    have ltR := oR.lt
    have ltS := oS.lt
    by_cases h0 : k < qX
    · obtain ⟨gE, oE, sE, aE, mE, cE, had, k1, k2, k3, k4⟩ := HX.out.at k (by rw [HLN.out]; exact h0)
      subst had
      obtain ⟨pv, hpv⟩ : ∃ x9, x9 = (a.getD k (0, 0)).1 := ⟨_, rfl⟩
      obtain ⟨pz, hpz⟩ : ∃ x9, x9 = (a.getD k (0, 0)).2 := ⟨_, rfl⟩
      rw [← hpv] at k1
      rw [← hpz] at k4
      have HPV : Hid (a.getD k (0, 0) = (pv, pz)) := by show _ = _; rw [hpv, hpz]
      clear hpv hpz
      have HPF : Hid (pz ≠ 0 ∧ pz.natAbs < lim ∧ pv < 4096) := HRI.out.at (by rw [HLN.out]; exact h0) HPV.out
      have A0 := (hbw.cell (p := ⟨gE, oE + k * 3, none⟩) (World.block_lt_of_cell? w _ k1)).trans k1
      have HST : Hid (ats s (a.drop k) zs = if pv < zs.length then (if (pz * zs.getD pv 0).natAbs < lim then (if (s + pz * zs.getD pv 0).natAbs < lim then ats (s + pz * zs.getD pv 0) (a.drop (k + 1)) zs else none) else none) else some s) := ats_drop (by rw [HLN.out]; exact h0) HPV.out s zs
      by_cases hv : pv < k9
      · have hv1 : ¬ (k9 : Int) ≤ pv := by omega
        have hva2 := HVA.out
        rcases hva2 with hnil | ⟨gV, oV, he2, hc2⟩
        · have := HVL.out; rw [hnil] at this; simp at this; omega
        subst he2
        obtain ⟨sV, aV, nV, cV, V0, V1, hV⟩ := hc2 pv (by rw [HVL.out]; exact hv)
        obtain ⟨z, hzd⟩ : ∃ z, z = zs.getD pv 0 := ⟨_, rfl⟩
        rw [← hzd] at hV HST
        clear hc2
        obtain ⟨Xc0, Xc1, Xc2⟩ := oX.three
        obtain ⟨Xk0, Xk1, Xk2⟩ := oX.frozen3
        go_wp2
        clear Xc0 Xc1 Xc2 Xk0 Xk1 Xk2
        clear A0
        have hbW := hbw
        refine wp_region_M (by kernel_rfl) [8, 27, 28, 29, 30, 31, 32, 33, 34, 35, 36, 37, 38, 39, 40, 41, 42] [none, none, none, none, none, none, none, none, some 8, none, none, none, none, none, none, none, none, none, none, none, none, none, none, none, none, none, none, some 27, some 28, some 29, some 30, some 31, some 32, some 33, some 34, some 35, some 36, some 37, some 38, some 39, some 40, some 41, some 42] (fun U => by kernel_rfl) (fun L U wr => Below w.heap.size w wr ∧ KeepQ wl wr ∧ wl.heap.size ≤ wr.heap.size ∧ Blk 41 wr (w.heap.size) #[.slice (some ⟨gE, oE, none⟩) qX rX, .bool xX, .slice aX nX cX] ∧ Blk 39 wr (w.heap.size + 1) #[.bool false, .slice none 0 0] ∧ Blk 39 wr (w.heap.size + 1 + 1) #[.bool xS, .slice aS nS cS] ∧ (L 0 = true → IS (.pointer (some ⟨w.heap.size, 0, none⟩)) (U 27) wr) ∧ (L 1 = true → IS (.slice (some ⟨gE, oE, none⟩) qX rX) (U 28) wr) ∧ (L 2 = true → IS (.int .i64 k) (U 29) wr) ∧ (L 3 = true → IS (.pointer (some ⟨gE, oE + k * 3, none⟩)) (U 30) wr) ∧ (L 4 = true → IS (.pointer (some ⟨gE, oE + k * 3 + 1, none⟩)) (U 31) wr) ∧ (L 5 = true → IS (.agg #[.bool sE, .slice aE mE cE]) (U 32) wr) ∧ (L 6 = true → IS (.slice (some ⟨gV, oV, none⟩) k9 vc) (U 33) wr) ∧ (L 7 = true → IS (.pointer (some ⟨w.heap.size, 0, none⟩)) (U 34) wr) ∧ (L 8 = true → IS (.slice (some ⟨gE, oE, none⟩) qX rX) (U 35) wr) ∧ (L 9 = true → IS (.int .i64 k) (U 36) wr) ∧ (L 10 = true → IS (.pointer (some ⟨gE, oE + k * 3, none⟩)) (U 37) wr) ∧ (L 11 = true → IS (.pointer (some ⟨gE, oE + k * 3, none⟩)) (U 38) wr) ∧ (L 12 = true → IS (.int .i64 (pv : Nat)) (U 39) wr) ∧ (L 13 = true → IS (.pointer (some ⟨gV, oV + pv * 2, none⟩)) (U 40) wr) ∧ (L 14 = true → IS (.agg #[.bool sV, .slice aV nV cV]) (U 41) wr) ∧ (L 15 = true → RNM (pz * z) 801 (U 42) wr) ∧ (L 16 = true → NEWU 39 wl.heap.size wr (U 8) (bif L 17 then U 42 else .agg #[.bool false, .slice none 0 0])) ∧ (L 17 = true → L 15 = true) ∧ (L 17 = true → L 16 = true)) (by kernel_rfl) ?_ ?_ ?_
        · exact fun U => ⟨hbw.drew, KeepQ.below (Below.refl _ _).drew, Nat.le_refl _, oX.drew, oR.drew, oS.drew, (fun h => by cases h), (fun h => by cases h), (fun h => by cases h), (fun h => by cases h), (fun h => by cases h), (fun h => by cases h), (fun h => by cases h), (fun h => by cases h), (fun h => by cases h), (fun h => by cases h), (fun h => by cases h), (fun h => by cases h), (fun h => by cases h), (fun h => by cases h), (fun h => by cases h), (fun h => by cases h), (fun h => by cases h), (fun h => by cases h), (fun h => by cases h)⟩
        · refine StepsU.run rfl ?_ ?_
          · intro L U wr hF hlk haf A K hA hK
            have HA : Hid (A = putAll _ _ U) := hA
            clear hA
            simp [Aft, Region.binds] at haf
            obtain ⟨fb, fk, fs, oX, oR, oS, f0, f1, f2, f3, f4, f5, f6, f7, f8, f9, f10, f11, f12, f13, f14, f15, f16, s17, m16⟩ := hF
            have e2 : A.tmps[2]? = some (.pointer (some ⟨w.heap.size, 0, none⟩)) := by rw [HA.out]; kernel_rfl
            refine ⟨?_⟩
            go_simp
            refine hK (upd U 27 (.pointer (some ⟨w.heap.size, 0, none⟩))) _ _ ?_ ?_
            · rw [HA.out]; kernel_rfl
            · exact ⟨fb, fk, fs, oX, oR, oS, (fun _ => rfl), f1, f2, f3, f4, f5, f6, f7, f8, f9, f10, f11, f12, f13, f14, f15, f16, s17, m16⟩
          refine StepsU.run rfl ?_ ?_
          · intro L U wr hF hlk haf A K hA hK
            have HA : Hid (A = putAll _ _ U) := hA
            clear hA
            simp [Aft, Region.binds] at haf
            obtain ⟨fb, fk, fs, oX, oR, oS, f0, f1, f2, f3, f4, f5, f6, f7, f8, f9, f10, f11, f12, f13, f14, f15, f16, s17, m16⟩ := hF
            have g0 := f0 (by simp [haf])
            have e27 := rd HA.out 27 (by kernel_rfl) g0
            have c0 := oX.cell 0
            simp at c0
            refine ⟨?_⟩
            go_simp
            refine hK (upd U 28 (.slice (some ⟨gE, oE, none⟩) qX rX)) _ _ ?_ ?_
            · rw [HA.out]; kernel_rfl
            · exact ⟨fb, fk, fs, oX, oR, oS, f0, (fun _ => rfl), f2, f3, f4, f5, f6, f7, f8, f9, f10, f11, f12, f13, f14, f15, f16, s17, m16⟩
          refine StepsU.run rfl ?_ ?_
          · intro L U wr hF hlk haf A K hA hK
            have HA : Hid (A = putAll _ _ U) := hA
            clear hA
            simp [Aft, Region.binds] at haf
            obtain ⟨fb, fk, fs, oX, oR, oS, f0, f1, f2, f3, f4, f5, f6, f7, f8, f9, f10, f11, f12, f13, f14, f15, f16, s17, m16⟩ := hF
            have e7 : A.tmps[7]? = some (.int .i64 k) := by rw [HA.out]; kernel_rfl
            refine ⟨?_⟩
            go_simp
            refine hK (upd U 29 (.int .i64 k)) _ _ ?_ ?_
            · rw [HA.out]; kernel_rfl
            · exact ⟨fb, fk, fs, oX, oR, oS, f0, f1, (fun _ => rfl), f3, f4, f5, f6, f7, f8, f9, f10, f11, f12, f13, f14, f15, f16, s17, m16⟩
          refine StepsU.run rfl ?_ ?_
          · intro L U wr hF hlk haf A K hA hK
            have HA : Hid (A = putAll _ _ U) := hA
            clear hA
            simp [Aft, Region.binds] at haf
            obtain ⟨fb, fk, fs, oX, oR, oS, f0, f1, f2, f3, f4, f5, f6, f7, f8, f9, f10, f11, f12, f13, f14, f15, f16, s17, m16⟩ := hF
            have g1 := f1 (by simp [haf])
            have g2 := f2 (by simp [haf])
            have e28 := rd HA.out 28 (by kernel_rfl) g1
            have e29 := rd HA.out 29 (by kernel_rfl) g2
            refine ⟨?_⟩
            go_simp
            refine hK (upd U 30 (.pointer (some ⟨gE, oE + k * 3, none⟩))) _ _ ?_ ?_
            · rw [HA.out]; kernel_rfl
            · exact ⟨fb, fk, fs, oX, oR, oS, f0, f1, f2, (fun _ => rfl), f4, f5, f6, f7, f8, f9, f10, f11, f12, f13, f14, f15, f16, s17, m16⟩
          refine StepsU.run rfl ?_ ?_
          · intro L U wr hF hlk haf A K hA hK
            have HA : Hid (A = putAll _ _ U) := hA
            clear hA
            simp [Aft, Region.binds] at haf
            obtain ⟨fb, fk, fs, oX, oR, oS, f0, f1, f2, f3, f4, f5, f6, f7, f8, f9, f10, f11, f12, f13, f14, f15, f16, s17, m16⟩ := hF
            have g3 := f3 (by simp [haf])
            have e30 := rd HA.out 30 (by kernel_rfl) g3
            refine ⟨?_⟩
            go_simp
            refine hK (upd U 31 (.pointer (some ⟨gE, oE + k * 3 + 1, none⟩))) _ _ ?_ ?_
            · rw [HA.out]; kernel_rfl
            · exact ⟨fb, fk, fs, oX, oR, oS, f0, f1, f2, f3, (fun _ => rfl), f5, f6, f7, f8, f9, f10, f11, f12, f13, f14, f15, f16, s17, m16⟩
          refine StepsU.run rfl ?_ ?_
          · intro L U wr hF hlk haf A K hA hK
            have HA : Hid (A = putAll _ _ U) := hA
            clear hA
            simp [Aft, Region.binds] at haf
            obtain ⟨fb, fk, fs, oX, oR, oS, f0, f1, f2, f3, f4, f5, f6, f7, f8, f9, f10, f11, f12, f13, f14, f15, f16, s17, m16⟩ := hF
            have g4 := f4 (by simp [haf])
            have kA1 := (fb.cell (p := ⟨gE, oE + k * 3 + 1, none⟩) (World.block_lt_of_cell? w _ k2)).trans k2
            have kA2 := (fb.cell (p := ⟨gE, oE + k * 3 + 2, none⟩) (World.block_lt_of_cell? w _ k3)).trans k3
            have e31 := rd HA.out 31 (by kernel_rfl) g4
            refine ⟨?_⟩
            go_simp
            refine hK (upd U 32 (.agg #[.bool sE, .slice aE mE cE])) _ _ ?_ ?_
            · rw [HA.out]; kernel_rfl
            · exact ⟨fb, fk, fs, oX, oR, oS, f0, f1, f2, f3, f4, (fun _ => rfl), f6, f7, f8, f9, f10, f11, f12, f13, f14, f15, f16, s17, m16⟩
          refine StepsU.run rfl ?_ ?_
          · intro L U wr hF hlk haf A K hA hK
            have HA : Hid (A = putAll _ _ U) := hA
            clear hA
            simp [Aft, Region.binds] at haf
            obtain ⟨fb, fk, fs, oX, oR, oS, f0, f1, f2, f3, f4, f5, f6, f7, f8, f9, f10, f11, f12, f13, f14, f15, f16, s17, m16⟩ := hF
            have e1 : A.tmps[1]? = some (.slice (some ⟨gV, oV, none⟩) k9 vc) := by rw [HA.out]; kernel_rfl
            refine ⟨?_⟩
            go_simp
            refine hK (upd U 33 (.slice (some ⟨gV, oV, none⟩) k9 vc)) _ _ ?_ ?_
            · rw [HA.out]; kernel_rfl
            · exact ⟨fb, fk, fs, oX, oR, oS, f0, f1, f2, f3, f4, f5, (fun _ => rfl), f7, f8, f9, f10, f11, f12, f13, f14, f15, f16, s17, m16⟩
          refine StepsU.run rfl ?_ ?_
          · intro L U wr hF hlk haf A K hA hK
            have HA : Hid (A = putAll _ _ U) := hA
            clear hA
            simp [Aft, Region.binds] at haf
            obtain ⟨fb, fk, fs, oX, oR, oS, f0, f1, f2, f3, f4, f5, f6, f7, f8, f9, f10, f11, f12, f13, f14, f15, f16, s17, m16⟩ := hF
            have e2 : A.tmps[2]? = some (.pointer (some ⟨w.heap.size, 0, none⟩)) := by rw [HA.out]; kernel_rfl
            refine ⟨?_⟩
            go_simp
            refine hK (upd U 34 (.pointer (some ⟨w.heap.size, 0, none⟩))) _ _ ?_ ?_
            · rw [HA.out]; kernel_rfl
            · exact ⟨fb, fk, fs, oX, oR, oS, f0, f1, f2, f3, f4, f5, f6, (fun _ => rfl), f8, f9, f10, f11, f12, f13, f14, f15, f16, s17, m16⟩
          refine StepsU.run rfl ?_ ?_
          · intro L U wr hF hlk haf A K hA hK
            have HA : Hid (A = putAll _ _ U) := hA
            clear hA
            simp [Aft, Region.binds] at haf
            obtain ⟨fb, fk, fs, oX, oR, oS, f0, f1, f2, f3, f4, f5, f6, f7, f8, f9, f10, f11, f12, f13, f14, f15, f16, s17, m16⟩ := hF
            have g7 := f7 (by simp [haf])
            have e34 := rd HA.out 34 (by kernel_rfl) g7
            have c0 := oX.cell 0
            simp at c0
            refine ⟨?_⟩
            go_simp
            refine hK (upd U 35 (.slice (some ⟨gE, oE, none⟩) qX rX)) _ _ ?_ ?_
            · rw [HA.out]; kernel_rfl
            · exact ⟨fb, fk, fs, oX, oR, oS, f0, f1, f2, f3, f4, f5, f6, f7, (fun _ => rfl), f9, f10, f11, f12, f13, f14, f15, f16, s17, m16⟩
          refine StepsU.run rfl ?_ ?_
          · intro L U wr hF hlk haf A K hA hK
            have HA : Hid (A = putAll _ _ U) := hA
            clear hA
            simp [Aft, Region.binds] at haf
            obtain ⟨fb, fk, fs, oX, oR, oS, f0, f1, f2, f3, f4, f5, f6, f7, f8, f9, f10, f11, f12, f13, f14, f15, f16, s17, m16⟩ := hF
            have e7 : A.tmps[7]? = some (.int .i64 k) := by rw [HA.out]; kernel_rfl
            refine ⟨?_⟩
            go_simp
            refine hK (upd U 36 (.int .i64 k)) _ _ ?_ ?_
            · rw [HA.out]; kernel_rfl
            · exact ⟨fb, fk, fs, oX, oR, oS, f0, f1, f2, f3, f4, f5, f6, f7, f8, (fun _ => rfl), f10, f11, f12, f13, f14, f15, f16, s17, m16⟩
          refine StepsU.run rfl ?_ ?_
          · intro L U wr hF hlk haf A K hA hK
            have HA : Hid (A = putAll _ _ U) := hA
            clear hA
            simp [Aft, Region.binds] at haf
            obtain ⟨fb, fk, fs, oX, oR, oS, f0, f1, f2, f3, f4, f5, f6, f7, f8, f9, f10, f11, f12, f13, f14, f15, f16, s17, m16⟩ := hF
            have g8 := f8 (by simp [haf])
            have g9 := f9 (by simp [haf])
            have e35 := rd HA.out 35 (by kernel_rfl) g8
            have e36 := rd HA.out 36 (by kernel_rfl) g9
            refine ⟨?_⟩
            go_simp
            refine hK (upd U 37 (.pointer (some ⟨gE, oE + k * 3, none⟩))) _ _ ?_ ?_
            · rw [HA.out]; kernel_rfl
            · exact ⟨fb, fk, fs, oX, oR, oS, f0, f1, f2, f3, f4, f5, f6, f7, f8, f9, (fun _ => rfl), f11, f12, f13, f14, f15, f16, s17, m16⟩
          refine StepsU.run rfl ?_ ?_
          · intro L U wr hF hlk haf A K hA hK
            have HA : Hid (A = putAll _ _ U) := hA
            clear hA
            simp [Aft, Region.binds] at haf
            obtain ⟨fb, fk, fs, oX, oR, oS, f0, f1, f2, f3, f4, f5, f6, f7, f8, f9, f10, f11, f12, f13, f14, f15, f16, s17, m16⟩ := hF
            have g10 := f10 (by simp [haf])
            have e37 := rd HA.out 37 (by kernel_rfl) g10
            refine ⟨?_⟩
            go_simp
            refine hK (upd U 38 (.pointer (some ⟨gE, oE + k * 3, none⟩))) _ _ ?_ ?_
            · rw [HA.out]; kernel_rfl
            · exact ⟨fb, fk, fs, oX, oR, oS, f0, f1, f2, f3, f4, f5, f6, f7, f8, f9, f10, (fun _ => rfl), f12, f13, f14, f15, f16, s17, m16⟩
          refine StepsU.run rfl ?_ ?_
          · intro L U wr hF hlk haf A K hA hK
            have HA : Hid (A = putAll _ _ U) := hA
            clear hA
            simp [Aft, Region.binds] at haf
            obtain ⟨fb, fk, fs, oX, oR, oS, f0, f1, f2, f3, f4, f5, f6, f7, f8, f9, f10, f11, f12, f13, f14, f15, f16, s17, m16⟩ := hF
            have g11 := f11 (by simp [haf])
            have kA0 := (fb.cell (p := ⟨gE, oE + k * 3, none⟩) (World.block_lt_of_cell? w _ k1)).trans k1
            have e38 := rd HA.out 38 (by kernel_rfl) g11
            refine ⟨?_⟩
            go_simp
            refine hK (upd U 39 (.int .i64 (pv : Nat))) _ _ ?_ ?_
            · rw [HA.out]; kernel_rfl
            · exact ⟨fb, fk, fs, oX, oR, oS, f0, f1, f2, f3, f4, f5, f6, f7, f8, f9, f10, f11, (fun _ => rfl), f13, f14, f15, f16, s17, m16⟩
          refine StepsU.run rfl ?_ ?_
          · intro L U wr hF hlk haf A K hA hK
            have HA : Hid (A = putAll _ _ U) := hA
            clear hA
            simp [Aft, Region.binds] at haf
            obtain ⟨fb, fk, fs, oX, oR, oS, f0, f1, f2, f3, f4, f5, f6, f7, f8, f9, f10, f11, f12, f13, f14, f15, f16, s17, m16⟩ := hF
            have g6 := f6 (by simp [haf])
            have g12 := f12 (by simp [haf])
            have e33 := rd HA.out 33 (by kernel_rfl) g6
            have e39 := rd HA.out 39 (by kernel_rfl) g12
            refine ⟨?_⟩
            go_simp
            refine hK (upd U 40 (.pointer (some ⟨gV, oV + pv * 2, none⟩))) _ _ ?_ ?_
            · rw [HA.out]; kernel_rfl
            · exact ⟨fb, fk, fs, oX, oR, oS, f0, f1, f2, f3, f4, f5, f6, f7, f8, f9, f10, f11, f12, (fun _ => rfl), f14, f15, f16, s17, m16⟩
          refine StepsU.run rfl ?_ ?_
          · intro L U wr hF hlk haf A K hA hK
            have HA : Hid (A = putAll _ _ U) := hA
            clear hA
            simp [Aft, Region.binds] at haf
            obtain ⟨fb, fk, fs, oX, oR, oS, f0, f1, f2, f3, f4, f5, f6, f7, f8, f9, f10, f11, f12, f13, f14, f15, f16, s17, m16⟩ := hF
            have g13 := f13 (by simp [haf])
            have kV0 := (fb.cell (p := ⟨gV, oV + pv * 2, none⟩) (World.block_lt_of_cell? w _ V0)).trans V0
            have kV1 := (fb.cell (p := ⟨gV, oV + pv * 2 + 1, none⟩) (World.block_lt_of_cell? w _ V1)).trans V1
            have e40 := rd HA.out 40 (by kernel_rfl) g13
            refine ⟨?_⟩
            go_simp
            refine hK (upd U 41 (.agg #[.bool sV, .slice aV nV cV])) _ _ ?_ ?_
            · rw [HA.out]; kernel_rfl
            · exact ⟨fb, fk, fs, oX, oR, oS, f0, f1, f2, f3, f4, f5, f6, f7, f8, f9, f10, f11, f12, f13, (fun _ => rfl), f15, f16, s17, m16⟩
          refine StepsU.run rfl ?_ ?_
          · intro L U wr hF hlk haf A K hA hK
            have HA : Hid (A = putAll _ _ U) := hA
            clear hA
            simp [Aft, Region.binds] at haf
            obtain ⟨fb, fk, fs, oX, oR, oS, f0, f1, f2, f3, f4, f5, f6, f7, f8, f9, f10, f11, f12, f13, f14, f15, f16, s17, m16⟩ := hF
            have g5 := f5 (by simp [haf])
            have e32 := rd HA.out 32 (by kernel_rfl) g5
            have g14 := f14 (by simp [haf])
            have e41 := rd HA.out 41 (by kernel_rfl) g14
            refine ⟨?_⟩
            go_simp
            refine (rMul_any _ _ pz z (pz * z) 400 400 _ ((k4.short HPF.out.2.1).below fb) (hV.below fb) (by decide) rfl).mono ?_
            rintro e w1 ⟨u1, u2, u3, u4, rfl, hr, hb⟩
            go_simp
            have hs17 : L 17 = false := by cases h : L 17 with | false => rfl | true => rw [s17 h] at hlk; cases hlk
            refine hK (upd U 42 (.agg #[.bool u1, .slice u2 u3 u4])) _ _ ?_ ?_
            · rw [HA.out]; kernel_rfl
            · exact ⟨(fb.step hb (Nat.le_refl _)), (fk.trans (KeepQ.below hb)), (Nat.le_trans fs hb.size), (oX.stay hb), (oR.stay hb), (oS.stay hb), (mvQ mq_is (KeepQ.below hb) f0), (mvQ mq_is (KeepQ.below hb) f1), (mvQ mq_is (KeepQ.below hb) f2), (mvQ mq_is (KeepQ.below hb) f3), (mvQ mq_is (KeepQ.below hb) f4), (mvQ mq_is (KeepQ.below hb) f5), (mvQ mq_is (KeepQ.below hb) f6), (mvQ mq_is (KeepQ.below hb) f7), (mvQ mq_is (KeepQ.below hb) f8), (mvQ mq_is (KeepQ.below hb) f9), (mvQ mq_is (KeepQ.below hb) f10), (mvQ mq_is (KeepQ.below hb) f11), (mvQ mq_is (KeepQ.below hb) f12), (mvQ mq_is (KeepQ.below hb) f13), (mvQ mq_is (KeepQ.below hb) f14), (fun _ => hr), (fun h => flip_v (P := fun v => NEWU _ _ _ _ v) hs17 ((fun h => (f16 h).below hb) h)), (fun _ => rfl), m16⟩
          refine StepsU.run rfl ?_ ?_
          · intro L U wr hF hlk haf A K hA hK
            have HA : Hid (A = putAll _ _ U) := hA
            clear hA
            simp [Aft, Region.binds] at haf
            obtain ⟨fb, fk, fs, oX, oR, oS, f0, f1, f2, f3, f4, f5, f6, f7, f8, f9, f10, f11, f12, f13, f14, f15, f16, s17, m16⟩ := hF
            have hst : L 17 = false := by cases h : L 17 with | false => rfl | true => rw [m16 h] at hlk; cases hlk
            refine ⟨?_⟩
            go_simp
            have hb := below_new wr (.cells #[.bool false, .slice none 0 0] 39 (0, 0))
            refine hK (upd U 8 (.pointer (some ⟨wr.heap.size, 0, none⟩))) _ _ ?_ ?_
            · rw [HA.out]; kernel_rfl
            · exact ⟨(fb.step hb (Nat.le_refl _)), (fk.trans (KeepQ.below hb)), (Nat.le_trans fs hb.size), (oX.stay hb), (oR.stay hb), (oS.stay hb), (mvQ mq_is (KeepQ.below hb) f0), (mvQ mq_is (KeepQ.below hb) f1), (mvQ mq_is (KeepQ.below hb) f2), (mvQ mq_is (KeepQ.below hb) f3), (mvQ mq_is (KeepQ.below hb) f4), (mvQ mq_is (KeepQ.below hb) f5), (mvQ mq_is (KeepQ.below hb) f6), (mvQ mq_is (KeepQ.below hb) f7), (mvQ mq_is (KeepQ.below hb) f8), (mvQ mq_is (KeepQ.below hb) f9), (mvQ mq_is (KeepQ.below hb) f10), (mvQ mq_is (KeepQ.below hb) f11), (mvQ mq_is (KeepQ.below hb) f12), (mvQ mq_is (KeepQ.below hb) f13), (mvQ mq_is (KeepQ.below hb) f14), (mvQ mq_rnm (KeepQ.below hb) f15), (fun _ => newU_zero (by simp [hst]) (NEWU.mk fs (nuI _ _ _ _))), s17, (fun _ => rfl)⟩
          refine StepsU.run rfl ?_ StepsU.nil
          · intro L U wr hF hlk haf A K hA hK
            have HA : Hid (A = putAll _ _ U) := hA
            clear hA
            simp [Aft, Region.binds] at haf
            obtain ⟨fb, fk, fs, oX, oR, oS, f0, f1, f2, f3, f4, f5, f6, f7, f8, f9, f10, f11, f12, f13, f14, f15, f16, s17, m16⟩ := hF
            have g15 := f15 (by simp [haf])
            obtain ⟨yx, ya, yn, yc, hsrc⟩ := RNum.shape g15
            have e42 := rd HA.out 42 (by kernel_rfl) hsrc
            have g16 := f16 (by simp [haf])
            rw [hlk, cond_false] at g16
            obtain ⟨b, cs, hp, hBb, hcs, hblk, hN⟩ := g16
            injection hcs with hcs
            subst hcs
            have e8 := rd HA.out 8 (by kernel_rfl) hp
            have q0 := hblk.frozen 0
            have q1 := hblk.frozen 1
            have c0 := hblk.cell 0
            have c1 := hblk.cell 1
            simp at c0
            simp at c1
            have hlt := hblk.lt
            refine ⟨?_⟩
            go_simp
            refine hK U _ _ ?_ ?_
            · exact HA.out
            · exact ⟨(below_stores (Nat.le_trans (by exact hbW.size) hBb) [.bool yx, .slice ya yn yc] 0 fb), (fk.trans (keepQ_stores (by decide) (by decide) [.bool yx, .slice ya yn yc] 0 hblk (nuI _ _ _ _) (nuI _ _ _ _))), (by simp; exact fs), (oX.otherS (Nat.ne_of_gt (Nat.lt_of_lt_of_le ltX hBb)) 0 [.bool yx, .slice ya yn yc]), (oR.otherS (Nat.ne_of_gt (Nat.lt_of_lt_of_le ltR hBb)) 0 [.bool yx, .slice ya yn yc]), (oS.otherS (Nat.ne_of_gt (Nat.lt_of_lt_of_le ltS hBb)) 0 [.bool yx, .slice ya yn yc]), (mvQ mq_is (keepQ_stores (by decide) (by decide) [.bool yx, .slice ya yn yc] 0 hblk (nuI _ _ _ _) (nuI _ _ _ _)) f0), (mvQ mq_is (keepQ_stores (by decide) (by decide) [.bool yx, .slice ya yn yc] 0 hblk (nuI _ _ _ _) (nuI _ _ _ _)) f1), (mvQ mq_is (keepQ_stores (by decide) (by decide) [.bool yx, .slice ya yn yc] 0 hblk (nuI _ _ _ _) (nuI _ _ _ _)) f2), (mvQ mq_is (keepQ_stores (by decide) (by decide) [.bool yx, .slice ya yn yc] 0 hblk (nuI _ _ _ _) (nuI _ _ _ _)) f3), (mvQ mq_is (keepQ_stores (by decide) (by decide) [.bool yx, .slice ya yn yc] 0 hblk (nuI _ _ _ _) (nuI _ _ _ _)) f4), (mvQ mq_is (keepQ_stores (by decide) (by decide) [.bool yx, .slice ya yn yc] 0 hblk (nuI _ _ _ _) (nuI _ _ _ _)) f5), (mvQ mq_is (keepQ_stores (by decide) (by decide) [.bool yx, .slice ya yn yc] 0 hblk (nuI _ _ _ _) (nuI _ _ _ _)) f6), (mvQ mq_is (keepQ_stores (by decide) (by decide) [.bool yx, .slice ya yn yc] 0 hblk (nuI _ _ _ _) (nuI _ _ _ _)) f7), (mvQ mq_is (keepQ_stores (by decide) (by decide) [.bool yx, .slice ya yn yc] 0 hblk (nuI _ _ _ _) (nuI _ _ _ _)) f8), (mvQ mq_is (keepQ_stores (by decide) (by decide) [.bool yx, .slice ya yn yc] 0 hblk (nuI _ _ _ _) (nuI _ _ _ _)) f9), (mvQ mq_is (keepQ_stores (by decide) (by decide) [.bool yx, .slice ya yn yc] 0 hblk (nuI _ _ _ _) (nuI _ _ _ _)) f10), (mvQ mq_is (keepQ_stores (by decide) (by decide) [.bool yx, .slice ya yn yc] 0 hblk (nuI _ _ _ _) (nuI _ _ _ _)) f11), (mvQ mq_is (keepQ_stores (by decide) (by decide) [.bool yx, .slice ya yn yc] 0 hblk (nuI _ _ _ _) (nuI _ _ _ _)) f12), (mvQ mq_is (keepQ_stores (by decide) (by decide) [.bool yx, .slice ya yn yc] 0 hblk (nuI _ _ _ _) (nuI _ _ _ _)) f13), (mvQ mq_is (keepQ_stores (by decide) (by decide) [.bool yx, .slice ya yn yc] 0 hblk (nuI _ _ _ _) (nuI _ _ _ _)) f14), (mvQ mq_rnm (keepQ_stores (by decide) (by decide) [.bool yx, .slice ya yn yc] 0 hblk (nuI _ _ _ _) (nuI _ _ _ _)) f15), (fun _ => by simp only [cond_true, Bool.true_or, beq_self_eq_true]; exact storedU_new hp hsrc (NEWU.overS hBb hblk [.bool yx, .slice ya yn yc] rfl (nuI _ _ _ _))), (fun _ => by simp [haf]), (fun _ => by simp [haf])⟩
        clear hbw oX oR oS
        intro L U1 V1 hall hF
        obtain ⟨hbw, fk, fs, oX, oR, oS, f0, f1, f2, f3, f4, f5, f6, f7, f8, f9, f10, f11, f12, f13, f14, f15, f16, s17, m16⟩ := hF
        clear s17 m16
        have g0 := f0 (hall 0 (by decide))
        have g1 := f1 (hall 1 (by decide))
        have g2 := f2 (hall 2 (by decide))
        have g3 := f3 (hall 3 (by decide))
        have g4 := f4 (hall 4 (by decide))
        have g5 := f5 (hall 5 (by decide))
        have g6 := f6 (hall 6 (by decide))
        have g7 := f7 (hall 7 (by decide))
        have g8 := f8 (hall 8 (by decide))
        have g9 := f9 (hall 9 (by decide))
        have g10 := f10 (hall 10 (by decide))
        have g11 := f11 (hall 11 (by decide))
        have g12 := f12 (hall 12 (by decide))
        have g13 := f13 (hall 13 (by decide))
        have g14 := f14 (hall 14 (by decide))
        have g15 := f15 (hall 15 (by decide))
        have g16 := f16 (hall 16 (by decide))
        rw [hall 17 (by decide), cond_true] at g16
        clear hall f0 f1 f2 f3 f4 f5 f6 f7 f8 f9 f10 f11 f12 f13 f14 f15 f16
        replace hS := hS.keepQ fk
        obtain ⟨bT, csT, hpT, lbT, hcsT, oT, -⟩ := g16
        obtain ⟨xT, aT, nT, cT, hvT⟩ := RNum.shape g15
        have hT : RNum _ _ _ _ := g15
        rw [hvT] at hT hcsT
        injection hcsT with hcsT
        subst hcsT
        clear hvT
        have ltT := oT.lt
        have neXT : w.heap.size ≠ bT := Nat.ne_of_lt (Nat.lt_of_lt_of_le ltX lbT)
        have neRT : w.heap.size + 1 ≠ bT := Nat.ne_of_lt (Nat.lt_of_lt_of_le ltR lbT)
        have neST : w.heap.size + 1 + 1 ≠ bT := Nat.ne_of_lt (Nat.lt_of_lt_of_le ltS lbT)
        have lwT : w.heap.size ≤ bT := Nat.le_trans hbW.size lbT
        replace ltX := oX.lt
        replace ltR := oR.lt
        replace ltS := oS.lt
        clear lbT
        try clear g0
        try clear g1
        try clear g2
        try clear g3
        try clear g4
        try clear g5
        try clear g6
        try clear g7
        try clear g8
        try clear g9
        try clear g10
        try clear g11
        try clear g12
        try clear g13
        try clear g14
        try clear g15
        clear hbW
        simp only [setM_some, setM_none, setM_nil]
        rw [hpT]
        clear hpT
        clear fk fs
        obtain ⟨Sc0, Sc1, Sk0, Sk1⟩ := oS.two
        obtain ⟨Tc0, Tc1, Tk0, Tk1⟩ := oT.two
        go_wp2_with fail
        refine (rAdd_any _ _ s (pz * z) (s + pz * z) 400 801 _ hS hT (by decide) rfl).mono ?_
        rintro e w2 ⟨xQ, aQ, nQ, cQ, rfl, hQ, hb⟩
        clear Sc0 Sc1 Sk0 Sk1
        clear Tc0 Tc1 Tk0 Tk1
        replace oX := oX.stay hb
        replace ltX := oX.lt
        replace oR := oR.stay hb
        replace ltR := oR.lt
        replace oS := oS.stay hb
        replace ltS := oS.lt
        replace oT := oT.stay hb
        replace ltT := oT.lt
        replace hS := hS.below hb
        replace hT := hT.below hb
        replace hbw := hbw.step hb (Nat.le_refl _)
        clear hb
        obtain ⟨hK, hB, hO⟩ := resNq (by decide) (by decide) oS hbw lwS xQ aQ nQ cQ
        have oX2 := oX.otherS (show w.heap.size + 1 + 1 ≠ w.heap.size by omega) 0 [.bool xQ, .slice aQ nQ cQ]
        have oR2 := oR.otherS (show w.heap.size + 1 + 1 ≠ w.heap.size + 1 by omega) 0 [.bool xQ, .slice aQ nQ cQ]
        have oT2 := oT.otherS neST 0 [.bool xQ, .slice aQ nQ cQ]
        have hT2 := hT.keepQ hK
        have hQ2 := hQ.keepQ hK
        obtain ⟨Sc0, Sc1, Sk0, Sk1⟩ := oS.two
        obtain ⟨Tc0, Tc1, -, -⟩ := Blk.two (show Blk _ ((w2.setCell ⟨w.heap.size + 1 + 1, 0, none⟩ (.bool xQ)).setCell ⟨w.heap.size + 1 + 1, 1, none⟩ (.slice aQ nQ cQ)) _ _ from oT2)
        go_wp2_with fail
        refine (toobig_r _ (pz * z) 801 (!decide ((pz * z).natAbs < lim)) _ hT2 (by decide) (by rw [← decide_not, decide_eq_decide]; omega)).mono ?_
        rintro e w9 ⟨rfl, hb⟩
        clear Tc0 Tc1
        clear Sc0 Sc1 Sk0 Sk1
        clear oX oS oR oT hS hT hQ hbw ltX ltS ltR ltT
        have oX := Blk.stay oX2 hb
        have oR := Blk.stay oR2 hb
        have oS := Blk.stay hO hb
        have hQ := RNum.below hQ2 hb
        have hbw := hB.step hb (Nat.le_refl _)
        have ltX := oX.lt
        have ltR := oR.lt
        have ltS := oS.lt
        clear hb oX2 oR2 oT2 hT2 hQ2 hK hB hO
        by_cases hm : (pz * z).natAbs < lim
        · have hmd : decide ((pz * z).natAbs < lim) = true := decide_eq_true hm
          rw [hmd]
          have HM : Hid ((pz * z).natAbs < lim) := hm
          clear hm hmd
          obtain ⟨Sc0, Sc1, Sk0, Sk1⟩ := oS.two
          go_wp2_with fail
          refine (toobig_r _ (s + pz * z) 1202 (!decide ((s + pz * z).natAbs < lim)) _ hQ (by decide) (by rw [← decide_not, decide_eq_decide]; omega)).mono ?_
          rintro e w3 ⟨rfl, hb⟩
          clear Sc0 Sc1 Sk0 Sk1
          replace oX := oX.stay hb
          replace ltX := oX.lt
          replace oR := oR.stay hb
          replace ltR := oR.lt
          replace oS := oS.stay hb
          replace ltS := oS.lt
          replace hQ := hQ.below hb
          replace hbw := hbw.step hb (Nat.le_refl _)
          clear hb
          by_cases hs : (s + pz * z).natAbs < lim
          · have hsd : decide ((s + pz * z).natAbs < lim) = true := decide_eq_true hs
            rw [hsd]
            have HS2 : Hid ((s + pz * z).natAbs < lim) := hs
            clear hs hsd
            go_wp2
            go_roundw
            case rel =>
              refine ⟨k + 1, s + pz * z, xQ, aQ, nQ, cQ, by omega, by go_num, oX, oR, oS, hQ.short HS2.out, HS2.out, ?_, hbw⟩
              show _ = _
              rw [HI.out, HST.out, if_pos (by rw [HVL.out]; exact hv), if_pos HM.out, if_pos HS2.out]
            case measure => simp [intOf]; omega
          · have hsd : decide ((s + pz * z).natAbs < lim) = false := decide_eq_false hs
            rw [hsd]
            have HN : Hid (ats r a zs = none) := by show _ = _; rw [HI.out, HST.out, if_pos (by rw [HVL.out]; exact hv), if_pos HM.out, if_neg hs]
            clear hs hsd
            obtain ⟨Rc0, Rc1, Rk0, Rk1⟩ := oR.two
            try simp only []
            try go_at_K
            repeat (first | go_values | go_skip | go_guarded | go_step | go_upon)
            refine bodyPost_ret (v := .tuple #[.agg #[.bool false, .slice none 0 0], .int .i64 11]) (by simp [results, Tryz.results38, go_sem, Rc0, Rc1]) rfl ?_
            obtain ⟨K1, B1, _⟩ := resNq (by decide) (by decide) oR hbw lwR false none 0 0
            refine ⟨false, none, 0, 0, ?_, ?_, B1⟩
            · unfold atE; rw [HN.out]; rfl
            · unfold atZ; rw [HN.out]; exact RNum.zeroN _ _
        · have hmd : decide ((pz * z).natAbs < lim) = false := decide_eq_false hm
          rw [hmd]
          have HN : Hid (ats r a zs = none) := by show _ = _; rw [HI.out, HST.out, if_pos (by rw [HVL.out]; exact hv), if_neg hm]
          clear hm hmd
          obtain ⟨Rc0, Rc1, Rk0, Rk1⟩ := oR.two
          try simp only []
          try go_at_K
          repeat (first | go_values | go_skip | go_guarded | go_step | go_upon)
          refine bodyPost_ret (v := .tuple #[.agg #[.bool false, .slice none 0 0], .int .i64 11]) (by simp [results, Tryz.results38, go_sem, Rc0, Rc1]) rfl ?_
          obtain ⟨K1, B1, _⟩ := resNq (by decide) (by decide) oR hbw lwR false none 0 0
          refine ⟨false, none, 0, 0, ?_, ?_, B1⟩
          · unfold atE; rw [HN.out]; rfl
          · unfold atZ; rw [HN.out]; exact RNum.zeroN _ _
      · have hv1 : (k9 : Int) ≤ pv := by omega
        have HPA : Hid (ats r a zs = ats s (a.drop (k + 1)) zs) := by show _ = _; rw [HI.out, HST.out, if_neg (by rw [HVL.out]; exact hv), ats_past HRI.out.1 (by rw [HLN.out]; exact h0) HPV.out s zs (by rw [HVL.out]; omega)]
        obtain ⟨Xc0, Xc1, Xc2⟩ := oX.three
        obtain ⟨Xk0, Xk1, Xk2⟩ := oX.frozen3
        go_wp2
        go_roundw
        case rel => exact ⟨k + 1, s, xS, aS, nS, cS, by omega, by go_num, oX, oR, oS, hS, HSL.out, HPA.out, hbw⟩
        case measure => simp [intOf]; omega
    · have HN : Hid (ats r a zs = some s) := by show _ = _; rw [HI.out, List.drop_eq_nil_of_le (by rw [HLN.out]; omega)]; rfl
      obtain ⟨Rc0, Rc1, Rk0, Rk1⟩ := oR.two
      obtain ⟨Sc0, Sc1, Sk0, Sk1⟩ := oS.two
      obtain ⟨Xc0, Xc1, Xc2⟩ := oX.three
      obtain ⟨Xk0, Xk1, Xk2⟩ := oX.frozen3
      try simp only []
      try go_at_K
      repeat (first | go_values | go_skip | go_guarded | go_step | go_upon)
      refine bodyPost_ret (v := .tuple #[.agg #[.bool xS, .slice aS nS cS], .int .i64 0]) (by simp [results, Tryz.results38, go_sem, Rc0, Rc1]) rfl ?_
      obtain ⟨K1, B1, _⟩ := resNq (by decide) (by decide) oR hbw lwR xS aS nS cS
      refine ⟨xS, aS, nS, cS, ?_, ?_, B1⟩
      · unfold atE; rw [HN.out]; rfl
      · unfold atZ; rw [HN.out]; exact hS.keepQ K1

end Go.Proofs.YteefniagebcagaaGreatDoor
