/- Contract of linear's Read; they prove no statement of the seat. -/
import Derived.Test.YteefniagebcagabGreatDoorLinSOJTights
namespace Go.Proofs.YteefniagebcagabGreatDoor
open Go.RowKit
set_option linter.unusedVariables false

theorem gth_ok : ∀ (ms : List (Int × ByteArray)) (cs : List (Nat × Int)), Rise cs → (∀ p ∈ cs, p.1 < 4096) → Rise (gth ms cs).2 ∧ ∀ p ∈ (gth ms cs).2, p.1 < 4096
  | [], cs, h1, h2 => ⟨h1, h2⟩
  | m :: r, cs, h1, h2 => by
    rw [gth]
    by_cases a : ¬ (0 ≤ m.1 ∧ m.1 < 4096)
    · rw [if_pos a]; exact ⟨List.Pairwise.nil, fun p hp => by cases hp⟩
    · rw [if_neg a]
      by_cases b : pcd m.2 ≠ 0
      · rw [if_pos b]; exact ⟨List.Pairwise.nil, fun p hp => by cases hp⟩
      · rw [if_neg b]
        by_cases c : ¬ (coef cs m.1.toNat + pzd m.2).natAbs < lim
        · rw [if_pos c]; exact ⟨List.Pairwise.nil, fun p hp => by cases hp⟩
        · rw [if_neg c]
          refine gth_ok r _ (setL_rise h1 _ _) fun p hp => ?_
          rcases setL_mem hp with rfl | hp
          · simp only []; omega
          · exact h2 p hp
/-- What Read tells of a row: the code. -/
def rdE (ms : List (Int × ByteArray)) (S : ByteArray) : Int := if 4096 < ms.length then 2 else if pcd S ≠ 0 then pcd S else (gth ms []).1
def rdP (ms : List (Int × ByteArray)) (S : ByteArray) : List (Nat × Int) := if rdE ms S = 0 then nz (gth ms []).2 else []
def rdM (ms : List (Int × ByteArray)) (S : ByteArray) : Int := if rdE ms S = 0 then pzd S else 0

set_option maxRecDepth 20000 in
set_option maxHeartbeats 8000000 in
theorem lread_any (aX : Option Addr) (nX cX : Nat) (S : ByteArray) (ms : List (Int × ByteArray)) (w : World) (hm : MArr w aX ms) (hl : ms.length = nX) (hs : ms.length ≤ 4096 → ∀ p ∈ ms, p.2.size ≤ 10000) (hz : S.size ≤ 10000) :
    Calls Tryz.prog 16 #[.agg #[.slice aX nX cX, .string S]] w fun e w' => ∃ v, e = .returned (.tuple #[v, .int .i64 (rdE ms S)]) ∧ RowR w' v (rdP ms S) (rdM ms S) ∧ Below w.heap.size w w' := by
  have oX := ((Blk.new w 50 #[.slice aX nX cX, .string S]).alloc (.cells #[.slice none 0 0, .bool false, .slice none 0 0, .bool false, .slice none 0 0] 42 (0, 0)))
  have oR := (Blk.new (w.alloc (.cells #[.slice aX nX cX, .string S] 50 (0, 0))) 42 #[.slice none 0 0, .bool false, .slice none 0 0, .bool false, .slice none 0 0])
  simp only [World.size_alloc] at oR
  have hbw : Below w.heap.size w ((w.alloc (.cells #[.slice aX nX cX, .string S] 50 (0, 0))).alloc (.cells #[.slice none 0 0, .bool false, .slice none 0 0, .bool false, .slice none 0 0] 42 (0, 0))) := by go_grown
  have ltX := oX.lt
  have lwX : w.heap.size ≤ w.heap.size := by omega
  have ltR := oR.lt
  have lwR : w.heap.size ≤ w.heap.size + 1 := by omega
  go_enter Tryz.func16, Tryz.ntmps16
  have HM : Hid (MArr w aX ms) := hm
  have HLN : Hid (ms.length = nX) := hl
  have HS : Hid (ms.length ≤ 4096 → ∀ p ∈ ms, p.2.size ≤ 10000) := hs
  have HSS : Hid (S.size ≤ 10000) := hz
  clear hm hl hs hz
  by_cases hn : 4096 < nX
  · have hn2 : (4096 : Int) < nX := by omega
    have HN : Hid (4096 < nX) := hn
    clear hn
    obtain ⟨Xc0, Xc1, Xk0, Xk1⟩ := oX.two
    obtain ⟨Rc0, Rc1, Rc2, Rc3, Rc4⟩ := oR.five
    obtain ⟨Rk0, Rk1, Rk2, Rk3, Rk4⟩ := oR.frozen5
    try simp only []
    try go_at_K
    repeat (first | go_values | go_skip | go_guarded | go_step | go_upon)
    refine bodyPost_ret (v := .tuple #[.agg #[.slice none 0 0, .bool false, .slice none 0 0, .bool false, .slice none 0 0], .int .i64 2]) (by simp [results, Tryz.results16, go_sem, Rc0, Rc1, Rc2, Rc3, Rc4]) rfl ?_
    have h9 : rdE ms S = 2 := if_pos (by rw [HLN.out]; exact HN.out)
    have h8 : ¬ rdE ms S = 0 := by rw [h9]; decide
    rw [show rdP ms S = [] from if_neg h8, show rdM ms S = 0 from if_neg h8, h9]
    exact ⟨_, rfl, RowR.zero _, hbw⟩
  · have hn2 : ¬ (4096 : Int) < nX := by omega
    have HN : Hid (¬ 4096 < ms.length) := by show ¬ _; rw [HLN.out]; exact hn
    have hn3 : nX ≤ 4096 := by omega
    clear hn
    obtain ⟨Xc0, Xc1, Xk0, Xk1⟩ := oX.two
    go_wp2_with fail
    refine (parse_h S _ HSS.out).mono ?_
    rintro e w1 ⟨xM, aM, nM, cM, rfl, hM, hb⟩
    clear Xc0 Xc1 Xk0 Xk1
    replace oX := oX.stay hb
    replace ltX := oX.lt
    replace oR := oR.stay hb
    replace ltR := oR.lt
    replace hbw := hbw.step hb (Nat.le_refl _)
    clear hb
    have hn := below_new w1 (.cells #[.bool xM, .slice aM nM cM] 28 (0, 0))
    have oM := Blk.new w1 28 #[.bool xM, .slice aM nM cM]
    have neXM : w.heap.size ≠ w1.heap.size := by have := ltX; (try simp at this); omega
    have neRM : w.heap.size + 1 ≠ w1.heap.size := by have := ltR; (try simp at this); omega
    have lwM : w.heap.size ≤ w1.heap.size := by have := hbw.size; (try simp at this); omega
    replace oX := oX.stay hn
    replace ltX := oX.lt
    replace oR := oR.stay hn
    replace ltR := oR.lt
    replace hM := hM.below hn
    replace hbw := hbw.step hn (Nat.le_refl _)
    clear hn
    have ltM := oM.lt
    by_cases hc : pcd S = 0
    · have HC : Hid (pcd S = 0) := hc
      have hc2 : (pcd S != 0) = false := by rw [hc]; rfl
      clear hc
      obtain ⟨Xc0, Xc1, Xk0, Xk1⟩ := oX.two
      go_wp2_with fail
      refine (gathered_any aX nX cX ms _ (HM.out.below hbw) HLN.out hn3 (HS.out (by rw [HLN.out]; exact hn3))).mono ?_
      rintro e w2 ⟨mv, co, rfl, hc1, hc3, hb⟩
      clear Xc0 Xc1 Xk0 Xk1
      replace oX := oX.stay hb
      replace ltX := oX.lt
      replace oR := oR.stay hb
      replace ltR := oR.lt
      replace oM := oM.stay hb
      replace ltM := oM.lt
      replace hM := hM.below hb
      replace hbw := hbw.step hb (Nat.le_refl _)
      clear hb
      subst hc1
      by_cases hg : (gth ms []).1 = 0
      · obtain ⟨b, l, rfl, hbb, hmp, hml⟩ := hc3 hg
        have HG : Hid ((gth ms []).1 = 0) := hg
        have hg2 : ((gth ms []).1 != 0) = false := by rw [hg]; rfl
        have HGO := gth_ok ms [] List.Pairwise.nil (fun p hp => by cases hp)
        clear hg hc3
        go_wp2
        have geR : w.heap.size ≤ w.heap.size + 1 := lwR
        have neRX : w.heap.size + 1 ≠ w.heap.size := by omega
        have hbW := hbw
        refine wp_region_M (by kernel_rfl) [3, 32, 33, 34, 35] [none, none, none, some 3, none, none, none, none, none, none, none, none, none, none, none, none, none, none, none, none, none, none, none, none, none, none, none, none, none, none, none, none, some 32, some 33, some 34, some 35] (fun U => by kernel_rfl) (fun L U wr => Below w.heap.size w wr ∧ KeepP w2 wr ∧ w2.heap.size ≤ wr.heap.size ∧ Blk 50 wr (w.heap.size) #[.slice aX nX cX, .string S] ∧ Blk 28 wr (w1.heap.size) #[.bool xM, .slice aM nM cM] ∧ BlkV 42 wr (w.heap.size + 1) (bif L 4 then U 35 else .agg #[.slice none 0 0, .bool false, .slice none 0 0, .bool false, .slice none 0 0]) ∧ (L 4 = false → Below w2.heap.size w2 wr) ∧ (L 3 = true → L 1 = true) ∧ (L 0 = true → IS (.map (some b)) (U 32) wr) ∧ (L 1 = true → TRM (nz (gth ms []).2) 0 (U 33) wr) ∧ (L 2 = true → IS (.agg #[.bool xM, .slice aM nM cM]) (U 34) wr) ∧ (L 3 = true → ROW (nz (gth ms []).2) (pzd S) (U 35) wr) ∧ (L 5 = true → IS (.int .i64 0) (U 3) wr) ∧ (L 4 = true → L 3 = true)) (by kernel_rfl) ?_ ?_ ?_
        · exact fun U => ⟨hbw.drew, KeepP.below (Below.refl _ _).drew, Nat.le_refl _, oX.drew, oM.drew, ⟨_, rfl, oR.drew⟩, (fun _ => (Below.refl _ _).drew), (fun h => by cases h), (fun h => by cases h), (fun h => by cases h), (fun h => by cases h), (fun h => by cases h), (fun h => by cases h), (fun h => by cases h)⟩
        · refine StepsU.run rfl ?_ ?_
          · intro L U wr hF hlk haf A K hA hK
            have HA : Hid (A = putAll _ _ U) := hA
            clear hA
            simp [Aft, Region.binds] at haf
            obtain ⟨fb, fk, fs, oX, oM, rR, fz, fy, f0, f1, f2, f3, f5, s4⟩ := hF
            have e6 : A.tmps[6]? = some (.map (some b)) := by rw [HA.out]; kernel_rfl
            refine ⟨?_⟩
            go_simp
            refine hK (upd U 32 (.map (some b))) _ _ ?_ ?_
            · rw [HA.out]; kernel_rfl
            · exact ⟨fb, fk, fs, oX, oM, rR, fz, fy, (fun _ => rfl), f1, f2, f3, f5, s4⟩
          refine StepsU.run rfl ?_ ?_
          · intro L U wr hF hlk haf A K hA hK
            have HA : Hid (A = putAll _ _ U) := hA
            clear hA
            simp [Aft, Region.binds] at haf
            obtain ⟨fb, fk, fs, oX, oM, rR, fz, fy, f0, f1, f2, f3, f5, s4⟩ := hF
            have hst9 : L 4 = false := by cases h : L 4 with | false => rfl | true => rw [fy (s4 h)] at hlk; cases hlk
            have fZ := fz hst9
            have g0 := f0 (by simp [haf])
            have e32 := rd HA.out 32 (by kernel_rfl) g0
            refine ⟨?_⟩
            go_simp
            refine (sumOf_any b _ l _ _ (hmp.below fZ) (hml.below fZ) HGO.1 HGO.2).mono ?_
            rintro e w1 ⟨v, rfl, hr, hb⟩
            go_simp
            refine hK (upd U 33 v) _ _ ?_ ?_
            · rw [HA.out]; kernel_rfl
            · exact ⟨(fb.step hb (Nat.le_refl _)), (fk.trans (KeepP.below hb)), (Nat.le_trans fs hb.size), (oX.stay hb), (oM.stay hb), (rR.stay hb), (fun h => (fz h).step hb (Nat.le_refl _)), (fun _ => rfl), (mvP mp_is (KeepP.below hb) f0), (fun _ => hr), (mvP mp_is (KeepP.below hb) f2), (mvP mp_row (KeepP.below hb) f3), (mvP mp_is (KeepP.below hb) f5), s4⟩
          refine StepsU.run rfl ?_ ?_
          · intro L U wr hF hlk haf A K hA hK
            have HA : Hid (A = putAll _ _ U) := hA
            clear hA
            simp [Aft, Region.binds] at haf
            obtain ⟨fb, fk, fs, oX, oM, rR, fz, fy, f0, f1, f2, f3, f5, s4⟩ := hF
            have e4 : A.tmps[4]? = some (.pointer (some ⟨w1.heap.size, 0, none⟩)) := by rw [HA.out]; kernel_rfl
            have c0 := oM.cell 0
            have c1 := oM.cell 1
            simp at c0
            simp at c1
            refine ⟨?_⟩
            go_simp
            refine hK (upd U 34 (.agg #[.bool xM, .slice aM nM cM])) _ _ ?_ ?_
            · rw [HA.out]; kernel_rfl
            · exact ⟨fb, fk, fs, oX, oM, rR, fz, fy, f0, f1, (fun _ => rfl), f3, f5, s4⟩
          refine StepsU.run rfl ?_ ?_
          · intro L U wr hF hlk haf A K hA hK
            have HA : Hid (A = putAll _ _ U) := hA
            clear hA
            simp [Aft, Region.binds] at haf
            obtain ⟨fb, fk, fs, oX, oM, rR, fz, fy, f0, f1, f2, f3, f5, s4⟩ := hF
            have g1 := f1 (by simp [haf])
            have g2 := f2 (by simp [haf])
            obtain ⟨z1, z2, z3, z4, z5, z6, z7, hv, hT1⟩ := g1
            have e33 := rd HA.out 33 (by kernel_rfl) hv
            have e34 := rd HA.out 34 (by kernel_rfl) g2
            refine ⟨?_⟩
            go_simp
            have hs4 : L 4 = false := by cases h : L 4 with | false => rfl | true => rw [s4 h] at hlk; cases hlk
            refine hK (upd U 35 (.agg #[.slice z1 z2 z3, .bool z4, .slice z5 z6 z7, .bool xM, .slice aM nM cM])) _ _ ?_ ?_
            · rw [HA.out]; kernel_rfl
            · exact ⟨fb, fk, fs, oX, oM, (flip_v (P := fun v => BlkV _ _ _ v) hs4 rR), fz, (fun _ => by simp [haf]), f0, f1, f2, (fun _ => ⟨_, _, _, _, _, _, _, _, _, _, _, rfl, hT1, hM.keepP fk⟩), f5, (fun _ => rfl)⟩
          refine StepsU.run rfl ?_ ?_
          · intro L U wr hF hlk haf A K hA hK
            have HA : Hid (A = putAll _ _ U) := hA
            clear hA
            simp [Aft, Region.binds] at haf
            obtain ⟨fb, fk, fs, oX, oM, rR, fz, fy, f0, f1, f2, f3, f5, s4⟩ := hF
            have g3 := f3 (by simp [haf])
            obtain ⟨yp, yq, yr, yx, ya, yn, yc, yy, yd, yl, yf, hsrc⟩ := RowR.shape g3
            have e35 := rd HA.out 35 (by kernel_rfl) hsrc
            have e2 : A.tmps[2]? = some (.pointer (some ⟨w.heap.size + 1, 0, none⟩)) := by rw [HA.out]; kernel_rfl
            have rV := rR
            rw [hlk, cond_false] at rV
            obtain ⟨cs, hcs, hblk⟩ := rV
            injection hcs with hcs
            subst hcs
            have q0 := hblk.frozen 0
            have q1 := hblk.frozen 1
            have q2 := hblk.frozen 2
            have q3 := hblk.frozen 3
            have q4 := hblk.frozen 4
            have c0 := hblk.cell 0
            have c1 := hblk.cell 1
            have c2 := hblk.cell 2
            have c3 := hblk.cell 3
            have c4 := hblk.cell 4
            simp at c0
            simp at c1
            simp at c2
            simp at c3
            simp at c4
            have hlt := hblk.lt
            refine ⟨?_⟩
            go_simp
            refine hK U _ _ ?_ ?_
            · exact HA.out
            · exact ⟨(below_stores geR [.slice yp yq yr, .bool yx, .slice ya yn yc, .bool yy, .slice yd yl yf] 0 fb), (fk.trans (keepP_stores (by decide) (by decide) [.slice yp yq yr, .bool yx, .slice ya yn yc, .bool yy, .slice yd yl yf] 0 hblk (nuR _ _ _ _ _ _ _ _ _ _ _) (nuR _ _ _ _ _ _ _ _ _ _ _))), (by simp; exact fs), (oX.otherS neRX 0 [.slice yp yq yr, .bool yx, .slice ya yn yc, .bool yy, .slice yd yl yf]), (oM.otherS neRM 0 [.slice yp yq yr, .bool yx, .slice ya yn yc, .bool yy, .slice yd yl yf]), (by simp only [cond_true, Bool.true_or, beq_self_eq_true]; exact ⟨_, hsrc, hblk.overS [.slice yp yq yr, .bool yx, .slice ya yn yc, .bool yy, .slice yd yl yf] 0 rfl⟩), (fun h => by cases h), fy, (mvP mp_is (keepP_stores (by decide) (by decide) [.slice yp yq yr, .bool yx, .slice ya yn yc, .bool yy, .slice yd yl yf] 0 hblk (nuR _ _ _ _ _ _ _ _ _ _ _) (nuR _ _ _ _ _ _ _ _ _ _ _)) f0), (mvP mp_trm (keepP_stores (by decide) (by decide) [.slice yp yq yr, .bool yx, .slice ya yn yc, .bool yy, .slice yd yl yf] 0 hblk (nuR _ _ _ _ _ _ _ _ _ _ _) (nuR _ _ _ _ _ _ _ _ _ _ _)) f1), (mvP mp_is (keepP_stores (by decide) (by decide) [.slice yp yq yr, .bool yx, .slice ya yn yc, .bool yy, .slice yd yl yf] 0 hblk (nuR _ _ _ _ _ _ _ _ _ _ _) (nuR _ _ _ _ _ _ _ _ _ _ _)) f2), (mvP mp_row (keepP_stores (by decide) (by decide) [.slice yp yq yr, .bool yx, .slice ya yn yc, .bool yy, .slice yd yl yf] 0 hblk (nuR _ _ _ _ _ _ _ _ _ _ _) (nuR _ _ _ _ _ _ _ _ _ _ _)) f3), (mvP mp_is (keepP_stores (by decide) (by decide) [.slice yp yq yr, .bool yx, .slice ya yn yc, .bool yy, .slice yd yl yf] 0 hblk (nuR _ _ _ _ _ _ _ _ _ _ _) (nuR _ _ _ _ _ _ _ _ _ _ _)) f5), (fun _ => by simp [haf])⟩
          refine StepsU.run rfl ?_ StepsU.nil
          · intro L U wr hF hlk haf A K hA hK
            have HA : Hid (A = putAll _ _ U) := hA
            clear hA
            simp [Aft, Region.binds] at haf
            obtain ⟨fb, fk, fs, oX, oM, rR, fz, fy, f0, f1, f2, f3, f5, s4⟩ := hF
            refine ⟨?_⟩
            go_simp
            refine hK (upd U 3 (.int .i64 0)) _ _ ?_ ?_
            · rw [HA.out]; kernel_rfl
            · exact ⟨fb, fk, fs, oX, oM, rR, fz, fy, f0, f1, f2, f3, (fun _ => rfl), s4⟩
        clear hbw oX oM oR
        intro L U3 V3 hall hF
        obtain ⟨hbw, fk, fs, oX, oM, rR, fz, fy, f0, f1, f2, f3, f5, s4⟩ := hF
        clear fz fy s4
        have g0 := f0 (hall 0 (by decide))
        have g1 := f1 (hall 1 (by decide))
        have g2 := f2 (hall 2 (by decide))
        have g3 := f3 (hall 3 (by decide))
        have g5 := f5 (hall 5 (by decide))
        rw [hall 4 (by decide), cond_true] at rR
        clear hall f0 f1 f2 f3 f5
        replace hM := hM.keepP fk
        obtain ⟨csR, hcsR, oR⟩ := rR
        obtain ⟨pR, qR, rR, xR, aR, nR, cR, yR, dR, lR, fR, hvR⟩ := RowR.shape g3
        have hR : RowR _ _ _ _ := g3
        rw [hvR] at hR hcsR
        injection hcsR with hcsR
        subst hcsR
        clear hvR
        replace ltR := oR.lt
        replace ltX := oX.lt
        replace ltM := oM.lt
        try clear g0
        try clear g1
        try clear g2
        try clear g3
        clear hbW
        simp only [setM_some, setM_none, setM_nil]
        clear fk fs
        have e3 : U3 3 = _ := g5
        obtain ⟨Rc0, Rc1, Rc2, Rc3, Rc4⟩ := oR.five
        obtain ⟨Rk0, Rk1, Rk2, Rk3, Rk4⟩ := oR.frozen5
        try simp only []
        try go_at_K
        repeat (first | go_values | go_skip | go_guarded | go_step | go_upon)
        refine bodyPost_ret (v := .tuple #[.agg #[.slice pR qR rR, .bool xR, .slice aR nR cR, .bool yR, .slice dR lR fR], .int .i64 0]) (by simp [results, Tryz.results16, go_sem, Rc0, Rc1, Rc2, Rc3, Rc4, e3]) rfl ?_
        have h9 : rdE ms S = 0 := by unfold rdE; rw [if_neg HN.out, if_neg (not_not_intro HC.out)]; exact HG.out
        rw [show rdP ms S = nz (gth ms []).2 from if_pos h9, show rdM ms S = pzd S from if_pos h9, h9]
        exact ⟨_, rfl, hR, hbw⟩
      · have HG : Hid ((gth ms []).1 ≠ 0) := hg
        have hg2 : ((gth ms []).1 != 0) = true := by rw [bne_iff_ne]; exact hg
        clear hg hc3
        obtain ⟨Rc0, Rc1, Rc2, Rc3, Rc4⟩ := oR.five
        obtain ⟨Rk0, Rk1, Rk2, Rk3, Rk4⟩ := oR.frozen5
        try simp only []
        try go_at_K
        repeat (first | go_values | go_skip | go_guarded | go_step | go_upon)
        refine bodyPost_ret (v := .tuple #[.agg #[.slice none 0 0, .bool false, .slice none 0 0, .bool false, .slice none 0 0], .int .i64 (gth ms []).1]) (by simp [results, Tryz.results16, go_sem, Rc0, Rc1, Rc2, Rc3, Rc4]) rfl ?_
        obtain ⟨K1, B1, _⟩ := resR (by decide) (by decide) oR hbw lwR none 0 0 false none 0 0 false none 0 0
        have h9 : rdE ms S = (gth ms []).1 := by unfold rdE; rw [if_neg HN.out, if_neg (not_not_intro HC.out)]
        have h8 : ¬ rdE ms S = 0 := by rw [h9]; exact HG.out
        rw [show rdP ms S = [] from if_neg h8, show rdM ms S = 0 from if_neg h8, h9]
        exact ⟨_, rfl, RowR.zero _, B1⟩
    · have HC : Hid (pcd S ≠ 0) := hc
      have hc2 : (pcd S != 0) = true := by rw [bne_iff_ne]; exact hc
      clear hc
      obtain ⟨Rc0, Rc1, Rc2, Rc3, Rc4⟩ := oR.five
      obtain ⟨Rk0, Rk1, Rk2, Rk3, Rk4⟩ := oR.frozen5
      try simp only []
      try go_at_K
      repeat (first | go_values | go_skip | go_guarded | go_step | go_upon)
      refine bodyPost_ret (v := .tuple #[.agg #[.slice none 0 0, .bool false, .slice none 0 0, .bool false, .slice none 0 0], .int .i64 (pcd S)]) (by simp [results, Tryz.results16, go_sem, Rc0, Rc1, Rc2, Rc3, Rc4]) rfl ?_
      obtain ⟨K1, B1, _⟩ := resR (by decide) (by decide) oR hbw lwR none 0 0 false none 0 0 false none 0 0
      have h9 : rdE ms S = pcd S := by unfold rdE; rw [if_neg HN.out, if_pos HC.out]
      have h8 : ¬ rdE ms S = 0 := by rw [h9]; exact HC.out
      rw [show rdP ms S = [] from if_neg h8, show rdM ms S = 0 from if_neg h8, h9]
      exact ⟨_, rfl, RowR.zero _, B1⟩

end Go.Proofs.YteefniagebcagabGreatDoor
