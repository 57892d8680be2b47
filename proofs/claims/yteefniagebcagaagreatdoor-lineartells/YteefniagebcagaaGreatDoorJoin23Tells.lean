/- Joined: LinRd, LinU, LinV, LinAw: words and contracts; no statement of the seat is proved here. -/
import Derived.Test.YteefniagebcagaaGreatDoorJoin22Tells
import Derived.Test.YteefniagebcagaaGreatDoorJoin21Tells
import Derived.Test.YteefniagebcagaaGreatDoorJoin20Tells
import Derived.Test.YteefniagebcagaaGreatDoorJoin16Tells
/- Contract of linear's Read; they prove no statement of the seat. -/
namespace Go.Proofs.YteefniagebcagaaGreatDoor
open Go.RowKit
set_option linter.unusedVariables false

theorem gth_ok : ∀ (ms : List (Int × ByteArray)) (cs : List (Nat × Int)), Rise cs → (∀ p ∈ cs, p.1 < 4096) → Rise (gth ms cs).2 ∧ ∀ p ∈ (gth ms cs).2, p.1 < 4096
  | [], cs, h1, h2 => ⟨h1, h2⟩
  | m :: r, cs, h1, h2 => by
    rw [gth]
    by_cases a : ¬ (0 ≤ m.1 ∧ m.1 < 4096)
    · rw [if_pos a]; exact ⟨List.Pairwise.nil, fun p hp => by cases hp⟩
    · rw [if_neg a]
      by_cases b : pcd m.2 ≠ 0
      · rw [if_pos b]; exact ⟨List.Pairwise.nil, fun p hp => by cases hp⟩
      · rw [if_neg b]
        by_cases c : ¬ (coef cs m.1.toNat + pzd m.2).natAbs < lim
        · rw [if_pos c]; exact ⟨List.Pairwise.nil, fun p hp => by cases hp⟩
        · rw [if_neg c]
          refine gth_ok r _ (setL_rise h1 _ _) fun p hp => ?_
          rcases setL_mem hp with rfl | hp
          · simp only []; omega
          · exact h2 p hp
/-- What Read tells of a row: the code. -/
def rdE (ms : List (Int × ByteArray)) (S : ByteArray) : Int := if 4096 < ms.length then 2 else if pcd S ≠ 0 then pcd S else (gth ms []).1
def rdP (ms : List (Int × ByteArray)) (S : ByteArray) : List (Nat × Int) := if rdE ms S = 0 then nz (gth ms []).2 else []
def rdM (ms : List (Int × ByteArray)) (S : ByteArray) : Int := if rdE ms S = 0 then pzd S else 0

set_option maxRecDepth 20000 in
set_option maxHeartbeats 8000000 in
theorem lread_any (aX : Option Addr) (nX cX : Nat) (S : ByteArray) (ms : List (Int × ByteArray)) (w : World) (hm : MArr w aX ms) (hl : ms.length = nX) (hs : ms.length ≤ 4096 → ∀ p ∈ ms, p.2.size ≤ 10000) (hz : S.size ≤ 10000) :
    Calls Tryz.prog 40 #[.agg #[.slice aX nX cX, .string S]] w fun e w' => ∃ v, e = .returned (.tuple #[v, .int .i64 (rdE ms S)]) ∧ RowR w' v (rdP ms S) (rdM ms S) ∧ Below w.heap.size w w' := by
  have oX := ((Blk.new w 79 #[.slice aX nX cX, .string S]).alloc (.cells #[.slice none 0 0, .bool false, .slice none 0 0, .bool false, .slice none 0 0] 82 (0, 0)))
  have oR := (Blk.new (w.alloc (.cells #[.slice aX nX cX, .string S] 79 (0, 0))) 82 #[.slice none 0 0, .bool false, .slice none 0 0, .bool false, .slice none 0 0])
  simp only [World.size_alloc] at oR
  have hbw : Below w.heap.size w ((w.alloc (.cells #[.slice aX nX cX, .string S] 79 (0, 0))).alloc (.cells #[.slice none 0 0, .bool false, .slice none 0 0, .bool false, .slice none 0 0] 82 (0, 0))) := by go_grown
  have ltX := oX.lt
  have lwX : w.heap.size ≤ w.heap.size := by omega
  have ltR := oR.lt
  have lwR : w.heap.size ≤ w.heap.size + 1 := by omega
  go_enter Tryz.func40, Tryz.ntmps40
  have HM : Hid (MArr w aX ms) := hm
  have HLN : Hid (ms.length = nX) := hl
  have HS : Hid (ms.length ≤ 4096 → ∀ p ∈ ms, p.2.size ≤ 10000) := hs
  have HSS : Hid (S.size ≤ 10000) := hz
  clear hm hl hs hz
  by_cases hn : 4096 < nX
  · have hn2 : (4096 : Int) < nX := by omega
    have HN : Hid (4096 < nX) := hn
    clear hn
    obtain ⟨Xc0, Xc1, Xk0, Xk1⟩ := oX.two
    obtain ⟨Rc0, Rc1, Rc2, Rc3, Rc4⟩ := oR.five
    obtain ⟨Rk0, Rk1, Rk2, Rk3, Rk4⟩ := oR.frozen5
    try simp only []
    try go_at_K
    repeat (first | go_values | go_skip | go_guarded | go_step | go_upon)
    refine bodyPost_ret (v := .tuple #[.agg #[.slice none 0 0, .bool false, .slice none 0 0, .bool false, .slice none 0 0], .int .i64 2]) (by simp [results, Tryz.results40, go_sem, Rc0, Rc1, Rc2, Rc3, Rc4]) rfl ?_
    have h9 : rdE ms S = 2 := if_pos (by rw [HLN.out]; exact HN.out)
    have h8 : ¬ rdE ms S = 0 := by rw [h9]; decide
    rw [show rdP ms S = [] from if_neg h8, show rdM ms S = 0 from if_neg h8, h9]
    exact ⟨_, rfl, RowR.zero _, hbw⟩
  · have hn2 : ¬ (4096 : Int) < nX := by omega
    have HN : Hid (¬ 4096 < ms.length) := by show ¬ _; rw [HLN.out]; exact hn
    have hn3 : nX ≤ 4096 := by omega
    clear hn
    obtain ⟨Xc0, Xc1, Xk0, Xk1⟩ := oX.two
    go_wp2_with fail
    refine (parse_h S _ HSS.out).mono ?_
    rintro e w1 ⟨xM, aM, nM, cM, rfl, hM, hb⟩
    clear Xc0 Xc1 Xk0 Xk1
    replace oX := oX.stay hb
    replace ltX := oX.lt
    replace oR := oR.stay hb
    replace ltR := oR.lt
    replace hbw := hbw.step hb (Nat.le_refl _)
    clear hb
    have hn := below_new w1 (.cells #[.bool xM, .slice aM nM cM] 31 (0, 0))
    have oM := Blk.new w1 31 #[.bool xM, .slice aM nM cM]
    have neXM : w.heap.size ≠ w1.heap.size := by have := ltX; (try simp at this); omega
    have neRM : w.heap.size + 1 ≠ w1.heap.size := by have := ltR; (try simp at this); omega
    have lwM : w.heap.size ≤ w1.heap.size := by have := hbw.size; (try simp at this); omega
    replace oX := oX.stay hn
    replace ltX := oX.lt
    replace oR := oR.stay hn
    replace ltR := oR.lt
    replace hM := hM.below hn
    replace hbw := hbw.step hn (Nat.le_refl _)
    clear hn
    have ltM := oM.lt
    by_cases hc : pcd S = 0
    · have HC : Hid (pcd S = 0) := hc
      have hc2 : (pcd S != 0) = false := by rw [hc]; rfl
      clear hc
      obtain ⟨Xc0, Xc1, Xk0, Xk1⟩ := oX.two
      go_wp2_with fail
      refine (gathered_any aX nX cX ms _ (HM.out.below hbw) HLN.out hn3 (HS.out (by rw [HLN.out]; exact hn3))).mono ?_
      rintro e w2 ⟨mv, co, rfl, hc1, hc3, hb⟩
      clear Xc0 Xc1 Xk0 Xk1
      replace oX := oX.stay hb
      replace ltX := oX.lt
      replace oR := oR.stay hb
      replace ltR := oR.lt
      replace oM := oM.stay hb
      replace ltM := oM.lt
      replace hM := hM.below hb
      replace hbw := hbw.step hb (Nat.le_refl _)
      clear hb
      subst hc1
      by_cases hg : (gth ms []).1 = 0
      · obtain ⟨b, l, rfl, hbb, hmp, hml⟩ := hc3 hg
        have HG : Hid ((gth ms []).1 = 0) := hg
        have hg2 : ((gth ms []).1 != 0) = false := by rw [hg]; rfl
        have HGO := gth_ok ms [] List.Pairwise.nil (fun p hp => by cases hp)
        clear hg hc3
        go_wp2
        have geR : w.heap.size ≤ w.heap.size + 1 := lwR
        have neRX : w.heap.size + 1 ≠ w.heap.size := by omega
        have hbW := hbw
        refine wp_region_M (by kernel_rfl) [3, 32, 33, 34, 35] [none, none, none, some 3, none, none, none, none, none, none, none, none, none, none, none, none, none, none, none, none, none, none, none, none, none, none, none, none, none, none, none, none, some 32, some 33, some 34, some 35] (fun U => by kernel_rfl) (fun L U wr => Below w.heap.size w wr ∧ KeepP w2 wr ∧ w2.heap.size ≤ wr.heap.size ∧ Blk 79 wr (w.heap.size) #[.slice aX nX cX, .string S] ∧ Blk 31 wr (w1.heap.size) #[.bool xM, .slice aM nM cM] ∧ BlkV 82 wr (w.heap.size + 1) (bif L 4 then U 35 else .agg #[.slice none 0 0, .bool false, .slice none 0 0, .bool false, .slice none 0 0]) ∧ (L 4 = false → Below w2.heap.size w2 wr) ∧ (L 3 = true → L 1 = true) ∧ (L 0 = true → IS (.map (some b)) (U 32) wr) ∧ (L 1 = true → TRM (nz (gth ms []).2) 0 (U 33) wr) ∧ (L 2 = true → IS (.agg #[.bool xM, .slice aM nM cM]) (U 34) wr) ∧ (L 3 = true → ROW (nz (gth ms []).2) (pzd S) (U 35) wr) ∧ (L 5 = true → IS (.int .i64 0) (U 3) wr) ∧ (L 4 = true → L 3 = true)) (by kernel_rfl) ?_ ?_ ?_
        · exact fun U => ⟨hbw.drew, KeepP.below (Below.refl _ _).drew, Nat.le_refl _, oX.drew, oM.drew, ⟨_, rfl, oR.drew⟩, (fun _ => (Below.refl _ _).drew), (fun h => by cases h), (fun h => by cases h), (fun h => by cases h), (fun h => by cases h), (fun h => by cases h), (fun h => by cases h), (fun h => by cases h)⟩
        · refine StepsU.run rfl ?_ ?_
          · intro L U wr hF hlk haf A K hA hK
            have HA : Hid (A = putAll _ _ U) := hA
            clear hA
            simp [Aft, Region.binds] at haf
            obtain ⟨fb, fk, fs, oX, oM, rR, fz, fy, f0, f1, f2, f3, f5, s4⟩ := hF
            have e6 : A.tmps[6]? = some (.map (some b)) := by rw [HA.out]; kernel_rfl
            refine ⟨?_⟩
            go_simp
            refine hK (upd U 32 (.map (some b))) _ _ ?_ ?_
            · rw [HA.out]; kernel_rfl
            · exact ⟨fb, fk, fs, oX, oM, rR, fz, fy, (fun _ => rfl), f1, f2, f3, f5, s4⟩
          refine StepsU.run rfl ?_ ?_
          · intro L U wr hF hlk haf A K hA hK
            have HA : Hid (A = putAll _ _ U) := hA
            clear hA
            simp [Aft, Region.binds] at haf
            obtain ⟨fb, fk, fs, oX, oM, rR, fz, fy, f0, f1, f2, f3, f5, s4⟩ := hF
            have hst9 : L 4 = false := by cases h : L 4 with | false => rfl | true => rw [fy (s4 h)] at hlk; cases hlk
            have fZ := fz hst9
            have g0 := f0 (by simp [haf])
            have e32 := rd HA.out 32 (by kernel_rfl) g0
            refine ⟨?_⟩
            go_simp
            refine (sumOf_any b _ l _ _ (hmp.below fZ) (hml.below fZ) HGO.1 HGO.2).mono ?_
            rintro e w1 ⟨v, rfl, hr, hb⟩
            go_simp
            refine hK (upd U 33 v) _ _ ?_ ?_
            · rw [HA.out]; kernel_rfl
            · exact ⟨(fb.step hb (Nat.le_refl _)), (fk.trans (KeepP.below hb)), (Nat.le_trans fs hb.size), (oX.stay hb), (oM.stay hb), (rR.stay hb), (fun h => (fz h).step hb (Nat.le_refl _)), (fun _ => rfl), (mvP mp_is (KeepP.below hb) f0), (fun _ => hr), (mvP mp_is (KeepP.below hb) f2), (mvP mp_row (KeepP.below hb) f3), (mvP mp_is (KeepP.below hb) f5), s4⟩
          refine StepsU.run rfl ?_ ?_
          · intro L U wr hF hlk haf A K hA hK
            have HA : Hid (A = putAll _ _ U) := hA
            clear hA
            simp [Aft, Region.binds] at haf
            obtain ⟨fb, fk, fs, oX, oM, rR, fz, fy, f0, f1, f2, f3, f5, s4⟩ := hF
            have e4 : A.tmps[4]? = some (.pointer (some ⟨w1.heap.size, 0, none⟩)) := by rw [HA.out]; kernel_rfl
            have c0 := oM.cell 0
            have c1 := oM.cell 1
            simp at c0
            simp at c1
            refine ⟨?_⟩
            go_simp
            refine hK (upd U 34 (.agg #[.bool xM, .slice aM nM cM])) _ _ ?_ ?_
            · rw [HA.out]; kernel_rfl
            · exact ⟨fb, fk, fs, oX, oM, rR, fz, fy, f0, f1, (fun _ => rfl), f3, f5, s4⟩
          refine StepsU.run rfl ?_ ?_
          · intro L U wr hF hlk haf A K hA hK
            have HA : Hid (A = putAll _ _ U) := hA
            clear hA
            simp [Aft, Region.binds] at haf
            obtain ⟨fb, fk, fs, oX, oM, rR, fz, fy, f0, f1, f2, f3, f5, s4⟩ := hF
            have g1 := f1 (by simp [haf])
            have g2 := f2 (by simp [haf])
            obtain ⟨z1, z2, z3, z4, z5, z6, z7, hv, hT1⟩ := g1
            have e33 := rd HA.out 33 (by kernel_rfl) hv
            have e34 := rd HA.out 34 (by kernel_rfl) g2
            refine ⟨?_⟩
            go_simp
            have hs4 : L 4 = false := by cases h : L 4 with | false => rfl | true => rw [s4 h] at hlk; cases hlk
            refine hK (upd U 35 (.agg #[.slice z1 z2 z3, .bool z4, .slice z5 z6 z7, .bool xM, .slice aM nM cM])) _ _ ?_ ?_
            · rw [HA.out]; kernel_rfl
            · exact ⟨fb, fk, fs, oX, oM, (flip_v (P := fun v => BlkV _ _ _ v) hs4 rR), fz, (fun _ => by simp [haf]), f0, f1, f2, (fun _ => ⟨_, _, _, _, _, _, _, _, _, _, _, rfl, hT1, hM.keepP fk⟩), f5, (fun _ => rfl)⟩
          refine StepsU.run rfl ?_ ?_
          · intro L U wr hF hlk haf A K hA hK
            have HA : Hid (A = putAll _ _ U) := hA
            clear hA
            simp [Aft, Region.binds] at haf
            obtain ⟨fb, fk, fs, oX, oM, rR, fz, fy, f0, f1, f2, f3, f5, s4⟩ := hF
            have g3 := f3 (by simp [haf])
            obtain ⟨yp, yq, yr, yx, ya, yn, yc, yy, yd, yl, yf, hsrc⟩ := RowR.shape g3
            have e35 := rd HA.out 35 (by kernel_rfl) hsrc
            have e2 : A.tmps[2]? = some (.pointer (some ⟨w.heap.size + 1, 0, none⟩)) := by rw [HA.out]; kernel_rfl
            have rV := rR
            rw [hlk, cond_false] at rV
            obtain ⟨cs, hcs, hblk⟩ := rV
            injection hcs with hcs
            subst hcs
            have q0 := hblk.frozen 0
            have q1 := hblk.frozen 1
            have q2 := hblk.frozen 2
            have q3 := hblk.frozen 3
            have q4 := hblk.frozen 4
            have c0 := hblk.cell 0
            have c1 := hblk.cell 1
            have c2 := hblk.cell 2
            have c3 := hblk.cell 3
            have c4 := hblk.cell 4
            simp at c0
            simp at c1
            simp at c2
            simp at c3
            simp at c4
            have hlt := hblk.lt
            refine ⟨?_⟩
            go_simp
            refine hK U _ _ ?_ ?_
            · exact HA.out
            · exact ⟨(below_stores geR [.slice yp yq yr, .bool yx, .slice ya yn yc, .bool yy, .slice yd yl yf] 0 fb), (fk.trans (keepP_stores (by decide) (by decide) [.slice yp yq yr, .bool yx, .slice ya yn yc, .bool yy, .slice yd yl yf] 0 hblk (nuR _ _ _ _ _ _ _ _ _ _ _) (nuR _ _ _ _ _ _ _ _ _ _ _))), (by simp; exact fs), (oX.otherS neRX 0 [.slice yp yq yr, .bool yx, .slice ya yn yc, .bool yy, .slice yd yl yf]), (oM.otherS neRM 0 [.slice yp yq yr, .bool yx, .slice ya yn yc, .bool yy, .slice yd yl yf]), (by simp only [cond_true, Bool.true_or, beq_self_eq_true]; exact ⟨_, hsrc, hblk.overS [.slice yp yq yr, .bool yx, .slice ya yn yc, .bool yy, .slice yd yl yf] 0 rfl⟩), (fun h => by cases h), fy, (mvP mp_is (keepP_stores (by decide) (by decide) [.slice yp yq yr, .bool yx, .slice ya yn yc, .bool yy, .slice yd yl yf] 0 hblk (nuR _ _ _ _ _ _ _ _ _ _ _) (nuR _ _ _ _ _ _ _ _ _ _ _)) f0), (mvP mp_trm (keepP_stores (by decide) (by decide) [.slice yp yq yr, .bool yx, .slice ya yn yc, .bool yy, .slice yd yl yf] 0 hblk (nuR _ _ _ _ _ _ _ _ _ _ _) (nuR _ _ _ _ _ _ _ _ _ _ _)) f1), (mvP mp_is (keepP_stores (by decide) (by decide) [.slice yp yq yr, .bool yx, .slice ya yn yc, .bool yy, .slice yd yl yf] 0 hblk (nuR _ _ _ _ _ _ _ _ _ _ _) (nuR _ _ _ _ _ _ _ _ _ _ _)) f2), (mvP mp_row (keepP_stores (by decide) (by decide) [.slice yp yq yr, .bool yx, .slice ya yn yc, .bool yy, .slice yd yl yf] 0 hblk (nuR _ _ _ _ _ _ _ _ _ _ _) (nuR _ _ _ _ _ _ _ _ _ _ _)) f3), (mvP mp_is (keepP_stores (by decide) (by decide) [.slice yp yq yr, .bool yx, .slice ya yn yc, .bool yy, .slice yd yl yf] 0 hblk (nuR _ _ _ _ _ _ _ _ _ _ _) (nuR _ _ _ _ _ _ _ _ _ _ _)) f5), (fun _ => by simp [haf])⟩
          refine StepsU.run rfl ?_ StepsU.nil
          · intro L U wr hF hlk haf A K hA hK
            have HA : Hid (A = putAll _ _ U) := hA
            clear hA
            simp [Aft, Region.binds] at haf
            obtain ⟨fb, fk, fs, oX, oM, rR, fz, fy, f0, f1, f2, f3, f5, s4⟩ := hF
            refine ⟨?_⟩
            go_simp
            refine hK (upd U 3 (.int .i64 0)) _ _ ?_ ?_
            · rw [HA.out]; kernel_rfl
            · exact ⟨fb, fk, fs, oX, oM, rR, fz, fy, f0, f1, f2, f3, (fun _ => rfl), s4⟩
        clear hbw oX oM oR
        intro L U3 V3 hall hF
        obtain ⟨hbw, fk, fs, oX, oM, rR, fz, fy, f0, f1, f2, f3, f5, s4⟩ := hF
        clear fz fy s4
        have g0 := f0 (hall 0 (by decide))
        have g1 := f1 (hall 1 (by decide))
        have g2 := f2 (hall 2 (by decide))
        have g3 := f3 (hall 3 (by decide))
        have g5 := f5 (hall 5 (by decide))
        rw [hall 4 (by decide), cond_true] at rR
        clear hall f0 f1 f2 f3 f5
        replace hM := hM.keepP fk
        obtain ⟨csR, hcsR, oR⟩ := rR
        obtain ⟨pR, qR, rR, xR, aR, nR, cR, yR, dR, lR, fR, hvR⟩ := RowR.shape g3
        have hR : RowR _ _ _ _ := g3
        rw [hvR] at hR hcsR
        injection hcsR with hcsR
        subst hcsR
        clear hvR
        replace ltR := oR.lt
        replace ltX := oX.lt
        replace ltM := oM.lt
        try clear g0
        try clear g1
        try clear g2
        try clear g3
        clear hbW
        simp only [setM_some, setM_none, setM_nil]
        clear fk fs
        have e3 : U3 3 = _ := g5
        obtain ⟨Rc0, Rc1, Rc2, Rc3, Rc4⟩ := oR.five
        obtain ⟨Rk0, Rk1, Rk2, Rk3, Rk4⟩ := oR.frozen5
        try simp only []
        try go_at_K
        repeat (first | go_values | go_skip | go_guarded | go_step | go_upon)
        refine bodyPost_ret (v := .tuple #[.agg #[.slice pR qR rR, .bool xR, .slice aR nR cR, .bool yR, .slice dR lR fR], .int .i64 0]) (by simp [results, Tryz.results40, go_sem, Rc0, Rc1, Rc2, Rc3, Rc4, e3]) rfl ?_
        have h9 : rdE ms S = 0 := by unfold rdE; rw [if_neg HN.out, if_neg (not_not_intro HC.out)]; exact HG.out
        rw [show rdP ms S = nz (gth ms []).2 from if_pos h9, show rdM ms S = pzd S from if_pos h9, h9]
        exact ⟨_, rfl, hR, hbw⟩
      · have HG : Hid ((gth ms []).1 ≠ 0) := hg
        have hg2 : ((gth ms []).1 != 0) = true := by rw [bne_iff_ne]; exact hg
        clear hg hc3
        obtain ⟨Rc0, Rc1, Rc2, Rc3, Rc4⟩ := oR.five
        obtain ⟨Rk0, Rk1, Rk2, Rk3, Rk4⟩ := oR.frozen5
        try simp only []
        try go_at_K
        repeat (first | go_values | go_skip | go_guarded | go_step | go_upon)
        refine bodyPost_ret (v := .tuple #[.agg #[.slice none 0 0, .bool false, .slice none 0 0, .bool false, .slice none 0 0], .int .i64 (gth ms []).1]) (by simp [results, Tryz.results40, go_sem, Rc0, Rc1, Rc2, Rc3, Rc4]) rfl ?_
        obtain ⟨K1, B1, _⟩ := resR (by decide) (by decide) oR hbw lwR none 0 0 false none 0 0 false none 0 0
        have h9 : rdE ms S = (gth ms []).1 := by unfold rdE; rw [if_neg HN.out, if_neg (not_not_intro HC.out)]
        have h8 : ¬ rdE ms S = 0 := by rw [h9]; exact HG.out
        rw [show rdP ms S = [] from if_neg h8, show rdM ms S = 0 from if_neg h8, h9]
        exact ⟨_, rfl, RowR.zero _, B1⟩
    · have HC : Hid (pcd S ≠ 0) := hc
      have hc2 : (pcd S != 0) = true := by rw [bne_iff_ne]; exact hc
      clear hc
      obtain ⟨Rc0, Rc1, Rc2, Rc3, Rc4⟩ := oR.five
      obtain ⟨Rk0, Rk1, Rk2, Rk3, Rk4⟩ := oR.frozen5
      try simp only []
      try go_at_K
      repeat (first | go_values | go_skip | go_guarded | go_step | go_upon)
      refine bodyPost_ret (v := .tuple #[.agg #[.slice none 0 0, .bool false, .slice none 0 0, .bool false, .slice none 0 0], .int .i64 (pcd S)]) (by simp [results, Tryz.results40, go_sem, Rc0, Rc1, Rc2, Rc3, Rc4]) rfl ?_
      obtain ⟨K1, B1, _⟩ := resR (by decide) (by decide) oR hbw lwR none 0 0 false none 0 0 false none 0 0
      have h9 : rdE ms S = pcd S := by unfold rdE; rw [if_neg HN.out, if_pos HC.out]
      have h8 : ¬ rdE ms S = 0 := by rw [h9]; exact HC.out
      rw [show rdP ms S = [] from if_neg h8, show rdM ms S = 0 from if_neg h8, h9]
      exact ⟨_, rfl, RowR.zero _, B1⟩

end Go.Proofs.YteefniagebcagaaGreatDoor
/- Contracts of linear's Text: the texts of numbers; they prove no statement of the seat. -/
namespace Go.Proofs.YteefniagebcagaaGreatDoor
open Go.RowKit
set_option linter.unusedVariables false

/-- The number's text. -/
def nT (z : Int) : ByteArray := ⟨(Lib.itoa z).toArray⟩
theorem norm_cons {x : Nat} {r : List Nat} (h : Norm r) (hr : r ≠ [] ∨ x ≠ 0) : Norm (x :: r) := by
  unfold Norm at h ⊢
  simp only [trimZ, h]
  rw [if_neg (fun k => by rcases hr with hr | hr; exact hr k.1; exact hr k.2)]
theorem dec_of : ∀ (n : Nat), 0 < n → ∃ ds, Norm ds ∧ Digs 10 ds ∧ val 10 ds = n ∧ ds ≠ [] ∧ (byt ds).reverse = (Lib.decDigits n).map UInt8.toNat := by
  intro n
  induction n using Nat.strongRecOn with
  | _ n ih =>
    intro hn
    by_cases h : n < 10
    · refine ⟨[n], norm_cons Norm.nil (Or.inr (by omega)), fun x hx => by simp at hx; omega, by simp [val], by simp, ?_⟩
      rw [Lib.decDigits_one h]
      simp [byt]
      omega
    · obtain ⟨ds, h1, h2, h3, h4, h5⟩ := ih (n / 10) (by omega) (by omega)
      refine ⟨n % 10 :: ds, norm_cons h1 (Or.inl h4), fun x hx => ?_, ?_, by simp, ?_⟩
      · rcases List.mem_cons.1 hx with rfl | hx
        · omega
        · exact h2 x hx
      · simp only [val]; omega
      · rw [Lib.decDigits, dif_neg h, List.map_append, ← h5]
        simp [byt]
        omega
theorem nT_text (z : Int) : TextOf (nT z) z := by
  unfold nT Lib.itoa
  by_cases h0 : z = 0
  · subst h0
    refine ⟨false, [], Norm.nil, Digs.nil _, fun _ => rfl, rfl, ?_⟩
    rw [if_neg (by decide), show (0 : Int).toNat = 0 from rfl, Lib.decDigits_one (by decide)]
    rfl
  · obtain ⟨ds, h1, h2, h3, h4, h5⟩ := dec_of z.natAbs (by omega)
    have hl : ¬ ds.length = 0 := fun h => h4 (List.eq_nil_of_length_eq_zero h)
    by_cases hz : z < 0
    · refine ⟨true, ds, h1, h2, fun h => absurd h hl, ?_, ?_⟩
      · rw [h3]; unfold sv; simp; omega
      · unfold bs showB
        rw [if_neg hl, if_pos hz, if_pos rfl, h5]
        simp
    · refine ⟨false, ds, h1, h2, fun _ => rfl, ?_, ?_⟩
      · rw [h3]; unfold sv; simp; omega
      · unfold bs showB
        rw [if_neg hl, if_neg hz, if_neg (by decide), h5, show z.toNat = z.natAbs by omega]
        simp
theorem TextOf.nT {S : ByteArray} {z : Int} (h : TextOf S z) : S = nT z := h.same (nT_text z)
theorem nT_size {z : Int} (hz' : z.natAbs < lim) : (nT z).size ≤ 400 := by
  obtain ⟨neg, ds, hn, hd, h1, h2, h3⟩ := nT_text z
  have hl : ds.length ≤ 309 := by
    rcases Nat.lt_or_ge 309 ds.length with k | k
    · have h4 := hn.ge (B := 10) (List.ne_nil_of_length_pos (by omega)) (by decide)
      have h5 := lim_dec (ds.length - 1) (by omega)
      rw [h2, sv_natAbs] at hz'
      omega
    · exact k
  rw [← bs_length, h3]
  unfold showB byt
  split
  · decide
  · rw [List.length_append, List.length_reverse, List.length_map]
    split <;> simp <;> omega
/-- The table of powers of ten lies there. -/
def Tab (w : World) : Prop := Lib.TabIs Tryz.prog w "internal/strconv.uint64pow10" .u64 Lib.pow10Tab
theorem Tab.below {w w' : World} (h : Tab w) (hb : Below w.heap.size w w') : Tab w' := by
  unfold Tab Lib.TabIs World.var? at h ⊢
  cases hg : Tryz.prog.globalNamed "internal/strconv.uint64pow10" with
  | none => rw [hg] at h; cases h
  | some g =>
    rw [hg] at h
    simp only [Option.bind_some] at h ⊢
    have hlt : g < w.heap.size := by
      rcases Nat.lt_or_ge g w.heap.size with h' | h'
      · exact h'
      · rw [Array.getElem?_eq_none h'] at h; cases h
    rw [hb.block g hlt]
    exact h
theorem itoa_h (n : Int) (w : World) (h0 : 0 ≤ n) (h1 : n ≤ 4096) (ht : Tab w) :
    Calls Tryz.prog 62 #[.int .i64 n] w fun e w' => e = .returned (.string (nT n)) ∧ Below w.heap.size w w' := by
  refine (Tryz.strconv_Itoa n (by omega) (by omega) w ht).mono ?_
  rintro e w' ⟨rfl, k, os, rfl⟩
  refine ⟨rfl, rfl, rfl, rfl, by show w.heap.size ≤ (w.heap ++ os).size; rw [Array.size_append]; omega, fun i hi => ?_⟩
  show ((w.drewN k).heap ++ os)[i]? = _
  rw [Array.getElem?_append_left (by show i < w.heap.size; omega)]
  rfl
theorem text_h (v : Value) (z : Int) (w : World) (hv : AInt w v z) :
    Calls Tryz.prog 31 #[v] w fun e w' => e = .returned (.string (nT z)) ∧ Below w.heap.size w w' := by
  refine (text_a v z w hv).mono ?_
  rintro e w' ⟨S, rfl, hS, hb⟩
  rw [hS.nT]
  exact ⟨rfl, hb⟩
/-- A part's text. -/
def pT (v : Nat) (z : Int) : ByteArray := nT z ++ ⟨#[42, 120]⟩ ++ nT v
/-- A term's text, by parts. -/
def lT (a : List (Nat × Int)) (r : Int) : List ByteArray := a.map (fun p => pT p.1 p.2) ++ (if r ≠ 0 ∨ a = [] then [nT r] else [])
def tT (a : List (Nat × Int)) (r : Int) : ByteArray := ⟨(Lib.join ((lT a r).map (·.data.toList)) [32, 43, 32]).toArray⟩
theorem Tryz.und_strs : Tryz.prog.underlying 23 = some (.slice 9) := by kernel_rfl
theorem Tryz.info_str : (Tryz.prog.info? 9).map (fun i => (i.zero, i.size, i.bytes)) = some (some (.string ⟨#[]⟩), 1, 16) := by kernel_rfl

end Go.Proofs.YteefniagebcagaaGreatDoor
/- Contracts of strings.Join and linear's Text; they prove no statement of the seat. -/
namespace Go.Proofs.YteefniagebcagaaGreatDoor
open Go.RowKit
set_option linter.unusedVariables false

theorem joinTail_len (sep : List UInt8) (M : Nat) : ∀ (r : List (List UInt8)), (∀ x ∈ r, x.length ≤ M) → (Lib.joinTail sep r).length ≤ r.length * (sep.length + M)
  | [], _ => by simp [Lib.joinTail]
  | x :: r, h => by
    have h1 := joinTail_len sep M r (fun y hy => h y (List.mem_cons_of_mem _ hy))
    have h2 := h x (List.mem_cons_self ..)
    unfold Lib.joinTail at h1 ⊢
    rw [List.map_cons, List.flatten_cons, List.length_append, List.length_append, List.length_cons, Nat.add_mul]
    omega
theorem join_len (sep : List UInt8) (M : Nat) (r : List (List UInt8)) (h : ∀ x ∈ r, x.length ≤ M) : (Lib.join r sep).length ≤ r.length * (sep.length + M) := by
  cases r with
  | nil => simp [Lib.join_nil]
  | cons x r =>
    rw [Lib.join_cons, List.length_append, List.length_cons, Nat.add_mul]
    have h1 := joinTail_len sep M r (fun y hy => h y (List.mem_cons_of_mem _ hy))
    have h2 := h x (List.mem_cons_self ..)
    omega
theorem join_h (base : Nat) (v : Value) (l : List ByteArray) (w : World) (h : LstG 1 9 base w v l.length (l.map Value.string)) (hl : l.length ≤ 10000) (hs : ∀ x ∈ l, x.size ≤ 1000) :
    Calls Tryz.prog 64 #[v, .string ⟨#[32, 43, 32]⟩] w fun e w' => e = .returned (.string ⟨(Lib.join (l.map (·.data.toList)) [32, 43, 32]).toArray⟩) ∧ Below w.heap.size w w' := by
  rcases h.2 with ⟨rfl, h0⟩ | ⟨g, cap, cur, rfl, h1, h2, h3, h4, _⟩
  · have e0 : l = [] := List.eq_nil_of_length_eq_zero h0
    subst e0
    refine (Tryz.strings_Join_none none 0 ⟨#[32, 43, 32]⟩ w).mono ?_
    rintro e w' ⟨rfl, rfl⟩
    exact ⟨rfl, Below.refl _ _⟩
  · have hb := (h.lt _ rfl).2
    have e9 : (Lib.join (l.map (·.data.toList)) [32, 43, 32]).length ≤ 140737488355328 := by
      have h5 := join_len [32, 43, 32] 1000 (l.map (·.data.toList)) (fun x hx => by
        obtain ⟨y, hy, rfl⟩ := List.mem_map.1 hx
        exact hs y hy)
      rw [List.length_map] at h5
      have h6 : l.length * (([32, 43, 32] : List UInt8).length + 1000) ≤ 10000 * 1003 := Nat.mul_le_mul hl (by decide)
      omega
    refine (Tryz.strings_Join g 0 cap l ⟨#[32, 43, 32]⟩ w (fun j x hj => ?_) hb (by omega) h3 e9).mono ?_
    · have hj2 : j < l.length := (List.getElem?_eq_some_iff.1 hj).1
      obtain ⟨u, hu1, hu2⟩ := h.cell j (by omega)
      rw [Nat.zero_add, hu1, ← hu2, List.getElem?_map, hj]
      rfl
    · rintro e w' ⟨rfl, hb⟩
      exact ⟨rfl, hb⟩
theorem Fine.at {l : List (Nat × Int)} (h : Fine l) {k v : Nat} {z : Int} (hk : k < l.length) (hp : l.getD k (0, 0) = (v, z)) : z ≠ 0 ∧ z.natAbs < lim ∧ v < 4096 := by
  have h1 := h.2 _ (List.getElem_mem hk)
  rw [List.getD_eq_getElem?_getD, List.getElem?_eq_getElem hk] at hp
  simp at hp
  rw [hp] at h1
  exact h1
theorem var_lim {v : Nat} (hv : v < 4096) : ((v : Nat) : Int).natAbs < lim := by
  have h : 4096 ≤ lim := by decide
  omega
theorem pT_size {v : Nat} {z : Int} (hz' : z.natAbs < lim) (hv : v < 4096) : (pT v z).size ≤ 1000 := by
  have h1 := nT_size hz'
  have h2 : (nT (v : Int)).size ≤ 400 := nT_size (var_lim hv)
  unfold pT
  rw [ByteArray.size_append, ByteArray.size_append]
  have h3 : (⟨#[42, 120]⟩ : ByteArray).size = 2 := rfl
  omega
/-- What Text gathers over the parts. -/
def gT (a : List (Nat × Int)) : List Value := a.map fun p => .string (pT p.1 p.2)
theorem gT_take {a : List (Nat × Int)} {k v : Nat} {z : Int} (hk : k < a.length) (hp : a.getD k (0, 0) = (v, z)) : gT (a.take (k + 1)) = gT (a.take k) ++ [.string (pT v z)] := by
  unfold gT
  rw [List.take_succ_eq_append_getElem hk, List.map_append]
  rw [List.getD_eq_getElem?_getD, List.getElem?_eq_getElem hk] at hp
  simp at hp
  rw [hp]; rfl
theorem lT_yes {a : List (Nat × Int)} {r : Int} (h : r ≠ 0 ∨ a = []) : (lT a r).map Value.string = gT a ++ [.string (nT r)] ∧ (lT a r).length = a.length + 1 := by
  unfold lT gT
  rw [if_pos h]
  simp [List.map_map, Function.comp_def]
theorem lT_no {a : List (Nat × Int)} {r : Int} (h : ¬ (r ≠ 0 ∨ a = [])) : (lT a r).map Value.string = gT a ∧ (lT a r).length = a.length := by
  unfold lT gT
  rw [if_neg h]
  simp [List.map_map, Function.comp_def]
theorem lT_size {a : List (Nat × Int)} {r : Int} (h : Fine a) (hr : r.natAbs < lim) : ∀ x ∈ lT a r, x.size ≤ 1000 := by
  intro x hx
  unfold lT at hx
  rcases List.mem_append.1 hx with hx | hx
  · obtain ⟨p, hp, rfl⟩ := List.mem_map.1 hx
    have := h.2 p hp
    exact pT_size this.2.1 this.2.2
  · split at hx
    · simp at hx; subst hx; have := nT_size hr; omega
    · simp at hx
theorem lT_len {a : List (Nat × Int)} {r : Int} (h : Fine a) : (lT a r).length ≤ 10000 := by
  have := h.len
  by_cases hc : r ≠ 0 ∨ a = []
  · have := (lT_yes hc).2; omega
  · have := (lT_no hc).2; omega
theorem join_t (base : Nat) (v : Value) (a : List (Nat × Int)) (r : Int) (n : Nat) (xs : List Value) (w : World) (h : LstG 1 9 base w v n xs) (hn : (lT a r).length = n) (hx : (lT a r).map Value.string = xs) (ha : Fine a) (hr : r.natAbs < lim) :
    Calls Tryz.prog 64 #[v, .string ⟨#[32, 43, 32]⟩] w fun e w' => e = .returned (.string (tT a r)) ∧ Below w.heap.size w w' := by
  subst hn hx
  exact join_h base v (lT a r) w h (lT_len ha) (lT_size ha hr)

set_option maxRecDepth 20000 in
set_option maxHeartbeats 8000000 in
theorem ltext_any (vX : Value) (a : List (Nat × Int)) (r : Int) (w : World) (hX : TermR w vX a r) (ht : Tab w) :
    Calls Tryz.prog 19 #[vX] w fun e w' => e = .returned (.string (tT a r)) ∧ Below w.heap.size w w' := by
  have hX0 := hX
  obtain ⟨pX, qX, rX, xX, aX, nX, cX, rfl, hX⟩ := hX
  have ha0 := hX.arr
  have hr0 := hX.rest
  have oX := (Blk.new w 33 #[.slice pX qX rX, .bool xX, .slice aX nX cX])
  have hbw : Below w.heap.size w (w.alloc (.cells #[.slice pX qX rX, .bool xX, .slice aX nX cX] 33 (0, 0))) := by go_grown
  replace hX := hX.below hbw
  have ltX := oX.lt
  have lwX : w.heap.size ≤ w.heap.size := by omega
  go_enter Tryz.func19, Tryz.ntmps19
  have HX : Hid (PArr w pX a) := ha0
  have HT : Hid (Tab w) := ht
  have HRS : Hid (AInt w (.agg #[.bool xX, .slice aX nX cX]) r) := hr0
  have HFN : Hid (Fine a) := hX.fine
  have HLN : Hid (a.length = qX) := hX.len
  have hlen := hX.n_le
  have HRL : Hid (r.natAbs < lim) := hr0.lt
  have HTX : Hid (TermR w (.agg #[.slice pX qX rX, .bool xX, .slice aX nX cX]) a r) := hX0
  clear ha0 hr0 ht hX0
  obtain ⟨Xc0, Xc1, Xc2⟩ := oX.three
  obtain ⟨Xk0, Xk1, Xk2⟩ := oX.frozen3
  go_wp2
  go_loopw [3, 9] (fun l i wl => ∃ (k : Nat), k ≤ qX ∧ i = .int .i64 k ∧ Blk 33 wl w.heap.size #[.slice pX qX rX, .bool xX, .slice aX nX cX] ∧ LstG 1 9 w.heap.size wl l k (gT (a.take k)) ∧ Below w.heap.size w wl) (fun _ i _ => qX - (intOf i).toNat)
  case atStart => exact ⟨0, Nat.zero_le _, rfl, oX, LstG.nil _ _ _ _, hbw⟩
  case round =>
    rename World => wl
    clear oX hbw hX ltX Xc0 Xc1 Xc2 Xk0 Xk1 Xk2
    obtain ⟨k, hk, hi9, oX, hL, hbw⟩ := hrel
    have ltX := oX.lt
    by_cases h0 : k < qX
    · obtain ⟨gE, oE, sE, aE, mE, cE, had, k1, k2, k3, k4⟩ := HX.out.at k (by rw [HLN.out]; exact h0)
      subst had
      obtain ⟨pv, hpv⟩ : ∃ x9, x9 = (a.getD k (0, 0)).1 := ⟨_, rfl⟩
      obtain ⟨pz, hpz⟩ : ∃ x9, x9 = (a.getD k (0, 0)).2 := ⟨_, rfl⟩
      rw [← hpv] at k1
      rw [← hpz] at k4
      have HPV : Hid (a.getD k (0, 0) = (pv, pz)) := by show _ = _; rw [hpv, hpz]
      clear hpv hpz
      have A0 := (hbw.cell (p := ⟨gE, oE + k * 3, none⟩) (World.block_lt_of_cell? w _ k1)).trans k1
      have A1 := (hbw.cell (p := ⟨gE, oE + k * 3 + 1, none⟩) (World.block_lt_of_cell? w _ k2)).trans k2
      have A2 := (hbw.cell (p := ⟨gE, oE + k * 3 + 2, none⟩) (World.block_lt_of_cell? w _ k3)).trans k3
      have hE0 := k4.below hbw
      clear k1 k2 k3 k4
      subst hi9
      have HF : Hid (pz ≠ 0 ∧ pz.natAbs < lim ∧ pv < 4096) := HFN.out.at (by rw [HLN.out]; exact h0) HPV.out
      obtain ⟨Xc0, Xc1, Xc2⟩ := oX.three
      obtain ⟨Xk0, Xk1, Xk2⟩ := oX.frozen3
      go_wp2
      have hn := below_new wl (.cells #[.int .i64 (pv : Nat), .bool sE, .slice aE mE cE] 116 (0, 0))
      have oP := Blk.new wl 116 #[.int .i64 (pv : Nat), .bool sE, .slice aE mE cE]
      have neXP : w.heap.size ≠ wl.heap.size := by have := ltX; (try simp at this); omega
      have lwP : w.heap.size ≤ wl.heap.size := by have := hbw.size; (try simp at this); omega
      replace oX := oX.stay hn
      replace ltX := oX.lt
      replace hE0 := hE0.below hn
      replace hL := hL.below hn
      replace hbw := hbw.step hn (Nat.le_refl _)
      clear hn
      have ltP := oP.lt
      clear Xc0 Xc1 Xc2 Xk0 Xk1 Xk2
      clear A0 A1 A2
      have naX := hL.blk oX (by decide)
      have naP := hL.blk oP (by decide)
      generalize (wl.alloc (.cells #[.int .i64 (pv : Nat), .bool sE, .slice aE mE cE] 116 (0, 0))) = W at hbw oX oP ltX ltP hE0 hL ⊢
      have hLb := hbw.size
      have hLg := Nat.le_refl w.heap.size
      have zS1 : ¬ 9223372036854775807 < (nT pz).size + 2 := by have := nT_size HF.out.2.1; omega
      have zS2 : ¬ 9223372036854775807 < (nT pz).size + 2 + (nT (pv : Nat)).size := by have := nT_size HF.out.2.1; have := nT_size (z := (pv : Int)) (var_lim HF.out.2.2); omega
      have hbW := hbw
      refine wp_region_M2 (by kernel_rfl) [3, 13, 14, 15, 16, 17, 18, 19, 20, 21, 22, 23] [none, none, none, some 3, none, none, none, none, none, none, none, none, none, some 13, some 14, some 15, some 16, some 17, some 18, some 19, some 20, some 21, some 22, some 23] (fun U => by kernel_rfl) (fun L U wr => Below w.heap.size w wr ∧ KeepN W wr ∧ W.heap.size ≤ wr.heap.size ∧ Blk 33 wr (w.heap.size) #[.slice (some ⟨gE, oE, none⟩) qX rX, .bool xX, .slice aX nX cX] ∧ Blk 116 wr (wl.heap.size) #[.int .i64 (pv : Nat), .bool sE, .slice aE mE cE] ∧ (L 10 = false → LstG 1 9 w.heap.size wr u3 k (gT (a.take k))) ∧ (L 11 = false → U 3 = (u3)) ∧ (L 0 = true → IS (u3) (U 13) wr) ∧ (L 1 = true → IS (.pointer (some ⟨wl.heap.size, 1, none⟩)) (U 14) wr) ∧ (L 2 = true → IS (.agg #[.bool sE, .slice aE mE cE]) (U 15) wr) ∧ (L 3 = true → IS (.string (nT pz)) (U 16) wr) ∧ (L 4 = true → IS (.string (nT pz ++ ⟨#[42, 120]⟩)) (U 17) wr) ∧ (L 5 = true → IS (.pointer (some ⟨wl.heap.size, 0, none⟩)) (U 18) wr) ∧ (L 6 = true → IS (.int .i64 (pv : Nat)) (U 19) wr) ∧ (L 7 = true → IS (.string (nT (pv : Nat))) (U 20) wr) ∧ (L 8 = true → IS (.string (nT pz ++ ⟨#[42, 120]⟩ ++ nT (pv : Nat))) (U 21) wr) ∧ (L 9 = true → L 10 = false → ONE 9 #[.string (nT pz ++ ⟨#[42, 120]⟩ ++ nT (pv : Nat))] (U 22) wr) ∧ (L 10 = true → LstG 1 9 w.heap.size wr (U 23) (k + 1) ((gT (a.take k)) ++ [.string (nT pz ++ ⟨#[42, 120]⟩ ++ nT (pv : Nat))]) ∧ U 23 ≠ .slice none 0 0) ∧ (L 11 = true → L 10 = true ∧ U 3 = U 23) ∧ (L 10 = true → L 0 = true) ∧ (L 10 = true → L 9 = true) ∧ (L 11 = true → L 0 = true)) (by kernel_rfl) ?_ ?_ ?_
      · exact ⟨hbw.drew, KeepN.below (Below.refl _ _).drew, Nat.le_refl _, oX.drew, oP.drew, (fun _ => hL.below (Below.refl _ _).drew), (fun _ => rfl), (fun h => by cases h), (fun h => by cases h), (fun h => by cases h), (fun h => by cases h), (fun h => by cases h), (fun h => by cases h), (fun h => by cases h), (fun h => by cases h), (fun h => by cases h), (fun h => by cases h), (fun h => by cases h), (fun h => by cases h), (fun h => by cases h), (fun h => by cases h), (fun h => by cases h)⟩
      · refine StepsU.run rfl ?_ ?_
        · intro L U wr hF hlk haf A K hA hK
          have HA : Hid (A = putAll _ _ U) := hA
          clear hA
          simp [Aft, Region.binds] at haf
          obtain ⟨fb, fk, fs, oX, oP, fl, v3, f0, f1, f2, f3, f4, f5, f6, f7, f8, f9, f10, f11, p0, p9, z11_0⟩ := hF
          have hw : L 11 = false := by cases h : L 11 with | false => rfl | true => rw [z11_0 h] at hlk; cases hlk
          have e3 := rd HA.out 3 (by kernel_rfl) (v3 hw)
          refine ⟨?_⟩
          go_simp
          refine hK (upd U 13 (u3)) _ _ ?_ ?_
          · rw [HA.out]; kernel_rfl
          · exact ⟨fb, fk, fs, oX, oP, fl, v3, (fun _ => rfl), f1, f2, f3, f4, f5, f6, f7, f8, f9, f10, f11, (fun _ => rfl), p9, (fun _ => rfl)⟩
        refine StepsU.run rfl ?_ ?_
        · intro L U wr hF hlk haf A K hA hK
          have HA : Hid (A = putAll _ _ U) := hA
          clear hA
          simp [Aft, Region.binds] at haf
          obtain ⟨fb, fk, fs, oX, oP, fl, v3, f0, f1, f2, f3, f4, f5, f6, f7, f8, f9, f10, f11, p0, p9, z11_0⟩ := hF
          have e5 : A.tmps[5]? = some (.pointer (some ⟨wl.heap.size, 0, none⟩)) := by rw [HA.out]; kernel_rfl
          refine ⟨?_⟩
          go_simp
          refine hK (upd U 14 (.pointer (some ⟨wl.heap.size, 1, none⟩))) _ _ ?_ ?_
          · rw [HA.out]; kernel_rfl
          · exact ⟨fb, fk, fs, oX, oP, fl, v3, f0, (fun _ => rfl), f2, f3, f4, f5, f6, f7, f8, f9, f10, f11, p0, p9, z11_0⟩
        refine StepsU.run rfl ?_ ?_
        · intro L U wr hF hlk haf A K hA hK
          have HA : Hid (A = putAll _ _ U) := hA
          clear hA
          simp [Aft, Region.binds] at haf
          obtain ⟨fb, fk, fs, oX, oP, fl, v3, f0, f1, f2, f3, f4, f5, f6, f7, f8, f9, f10, f11, p0, p9, z11_0⟩ := hF
          have g1 := f1 (by simp [haf])
          have e14 := rd HA.out 14 (by kernel_rfl) g1
          have c1 := oP.cell 1
          have c2 := oP.cell 2
          simp at c1
          simp at c2
          refine ⟨?_⟩
          go_simp
          refine hK (upd U 15 (.agg #[.bool sE, .slice aE mE cE])) _ _ ?_ ?_
          · rw [HA.out]; kernel_rfl
          · exact ⟨fb, fk, fs, oX, oP, fl, v3, f0, f1, (fun _ => rfl), f3, f4, f5, f6, f7, f8, f9, f10, f11, p0, p9, z11_0⟩
        refine StepsU.run rfl ?_ ?_
        · intro L U wr hF hlk haf A K hA hK
          have HA : Hid (A = putAll _ _ U) := hA
          clear hA
          simp [Aft, Region.binds] at haf
          obtain ⟨fb, fk, fs, oX, oP, fl, v3, f0, f1, f2, f3, f4, f5, f6, f7, f8, f9, f10, f11, p0, p9, z11_0⟩ := hF
          have g2 := f2 (by simp [haf])
          have e15 := rd HA.out 15 (by kernel_rfl) g2
          refine ⟨?_⟩
          go_simp
          refine (text_h _ pz _ (hE0.keepN fk)).mono ?_
          rintro e w1 ⟨rfl, hb⟩
          go_simp
          refine hK (upd U 16 (.string (nT pz))) _ _ ?_ ?_
          · rw [HA.out]; kernel_rfl
          · exact ⟨(fb.step hb (Nat.le_refl _)), (fk.trans (KeepN.below hb)), (Nat.le_trans fs hb.size), (oX.stay hb), (oP.stay hb), (fun h => (fl h).below hb), v3, (mvN mn_is (KeepN.below hb) f0), (mvN mn_is (KeepN.below hb) f1), (mvN mn_is (KeepN.below hb) f2), (fun _ => rfl), (mvN mn_is (KeepN.below hb) f4), (mvN mn_is (KeepN.below hb) f5), (mvN mn_is (KeepN.below hb) f6), (mvN mn_is (KeepN.below hb) f7), (mvN mn_is (KeepN.below hb) f8), (fun h h2 => (f9 h h2).below hb), (fun h => ⟨(f10 h).1.below hb, (f10 h).2⟩), f11, p0, p9, z11_0⟩
        refine StepsU.run rfl ?_ ?_
        · intro L U wr hF hlk haf A K hA hK
          have HA : Hid (A = putAll _ _ U) := hA
          clear hA
          simp [Aft, Region.binds] at haf
          obtain ⟨fb, fk, fs, oX, oP, fl, v3, f0, f1, f2, f3, f4, f5, f6, f7, f8, f9, f10, f11, p0, p9, z11_0⟩ := hF
          have g3 := f3 (by simp [haf])
          have e16 := rd HA.out 16 (by kernel_rfl) g3
          refine ⟨?_⟩
          go_simp
          refine hK (upd U 17 (.string (nT pz ++ ⟨#[42, 120]⟩))) _ _ ?_ ?_
          · rw [HA.out]; kernel_rfl
          · exact ⟨fb, fk, fs, oX, oP, fl, v3, f0, f1, f2, f3, (fun _ => rfl), f5, f6, f7, f8, f9, f10, f11, p0, p9, z11_0⟩
        refine StepsU.run rfl ?_ ?_
        · intro L U wr hF hlk haf A K hA hK
          have HA : Hid (A = putAll _ _ U) := hA
          clear hA
          simp [Aft, Region.binds] at haf
          obtain ⟨fb, fk, fs, oX, oP, fl, v3, f0, f1, f2, f3, f4, f5, f6, f7, f8, f9, f10, f11, p0, p9, z11_0⟩ := hF
          have e5 : A.tmps[5]? = some (.pointer (some ⟨wl.heap.size, 0, none⟩)) := by rw [HA.out]; kernel_rfl
          refine ⟨?_⟩
          go_simp
          refine hK (upd U 18 (.pointer (some ⟨wl.heap.size, 0, none⟩))) _ _ ?_ ?_
          · rw [HA.out]; kernel_rfl
          · exact ⟨fb, fk, fs, oX, oP, fl, v3, f0, f1, f2, f3, f4, (fun _ => rfl), f6, f7, f8, f9, f10, f11, p0, p9, z11_0⟩
        refine StepsU.run rfl ?_ ?_
        · intro L U wr hF hlk haf A K hA hK
          have HA : Hid (A = putAll _ _ U) := hA
          clear hA
          simp [Aft, Region.binds] at haf
          obtain ⟨fb, fk, fs, oX, oP, fl, v3, f0, f1, f2, f3, f4, f5, f6, f7, f8, f9, f10, f11, p0, p9, z11_0⟩ := hF
          have g5 := f5 (by simp [haf])
          have e18 := rd HA.out 18 (by kernel_rfl) g5
          have c0 := oP.cell 0
          simp at c0
          refine ⟨?_⟩
          go_simp
          refine hK (upd U 19 (.int .i64 (pv : Nat))) _ _ ?_ ?_
          · rw [HA.out]; kernel_rfl
          · exact ⟨fb, fk, fs, oX, oP, fl, v3, f0, f1, f2, f3, f4, f5, (fun _ => rfl), f7, f8, f9, f10, f11, p0, p9, z11_0⟩
        refine StepsU.run rfl ?_ ?_
        · intro L U wr hF hlk haf A K hA hK
          have HA : Hid (A = putAll _ _ U) := hA
          clear hA
          simp [Aft, Region.binds] at haf
          obtain ⟨fb, fk, fs, oX, oP, fl, v3, f0, f1, f2, f3, f4, f5, f6, f7, f8, f9, f10, f11, p0, p9, z11_0⟩ := hF
          have g6 := f6 (by simp [haf])
          have e19 := rd HA.out 19 (by kernel_rfl) g6
          refine ⟨?_⟩
          go_simp
          refine (itoa_h _ _ (by have := HF.out; omega) (by have := HF.out; omega) (HT.out.below fb)).mono ?_
          rintro e w1 ⟨rfl, hb⟩
          go_simp
          refine hK (upd U 20 (.string (nT (pv : Nat)))) _ _ ?_ ?_
          · rw [HA.out]; kernel_rfl
          · exact ⟨(fb.step hb (Nat.le_refl _)), (fk.trans (KeepN.below hb)), (Nat.le_trans fs hb.size), (oX.stay hb), (oP.stay hb), (fun h => (fl h).below hb), v3, (mvN mn_is (KeepN.below hb) f0), (mvN mn_is (KeepN.below hb) f1), (mvN mn_is (KeepN.below hb) f2), (mvN mn_is (KeepN.below hb) f3), (mvN mn_is (KeepN.below hb) f4), (mvN mn_is (KeepN.below hb) f5), (mvN mn_is (KeepN.below hb) f6), (fun _ => rfl), (mvN mn_is (KeepN.below hb) f8), (fun h h2 => (f9 h h2).below hb), (fun h => ⟨(f10 h).1.below hb, (f10 h).2⟩), f11, p0, p9, z11_0⟩
        refine StepsU.run rfl ?_ ?_
        · intro L U wr hF hlk haf A K hA hK
          have HA : Hid (A = putAll _ _ U) := hA
          clear hA
          simp [Aft, Region.binds] at haf
          obtain ⟨fb, fk, fs, oX, oP, fl, v3, f0, f1, f2, f3, f4, f5, f6, f7, f8, f9, f10, f11, p0, p9, z11_0⟩ := hF
          have g4 := f4 (by simp [haf])
          have g7 := f7 (by simp [haf])
          have e17 := rd HA.out 17 (by kernel_rfl) g4
          have e20 := rd HA.out 20 (by kernel_rfl) g7
          refine ⟨?_⟩
          go_simp
          refine hK (upd U 21 (.string (nT pz ++ ⟨#[42, 120]⟩ ++ nT (pv : Nat)))) _ _ ?_ ?_
          · rw [HA.out]; kernel_rfl
          · exact ⟨fb, fk, fs, oX, oP, fl, v3, f0, f1, f2, f3, f4, f5, f6, f7, (fun _ => rfl), f9, f10, f11, p0, p9, z11_0⟩
        refine StepsU.run rfl ?_ ?_
        · intro L U wr hF hlk haf A K hA hK
          have HA : Hid (A = putAll _ _ U) := hA
          clear hA
          simp [Aft, Region.binds] at haf
          obtain ⟨fb, fk, fs, oX, oP, fl, v3, f0, f1, f2, f3, f4, f5, f6, f7, f8, f9, f10, f11, p0, p9, z11_0⟩ := hF
          have g8 := f8 (by simp [haf])
          have e21 := rd HA.out 21 (by kernel_rfl) g8
          have hap : L 10 = false := by cases h : L 10 with | false => rfl | true => rw [p9 h] at hlk; cases hlk
          refine ⟨?_⟩
          go_simp
          have hb := below_new wr (.cells #[.string (nT pz ++ ⟨#[42, 120]⟩ ++ nT (pv : Nat))] 9 (0, 0))
          refine hK (upd U 22 (.slice (some ⟨wr.heap.size, 0, none⟩) 1 1)) _ _ ?_ ?_
          · rw [HA.out]; kernel_rfl
          · exact ⟨(fb.step hb (Nat.le_refl _)), (fk.trans (KeepN.below hb)), (Nat.le_trans fs hb.size), (oX.stay hb), (oP.stay hb), (fun h => (fl h).below hb), v3, (mvN mn_is (KeepN.below hb) f0), (mvN mn_is (KeepN.below hb) f1), (mvN mn_is (KeepN.below hb) f2), (mvN mn_is (KeepN.below hb) f3), (mvN mn_is (KeepN.below hb) f4), (mvN mn_is (KeepN.below hb) f5), (mvN mn_is (KeepN.below hb) f6), (mvN mn_is (KeepN.below hb) f7), (mvN mn_is (KeepN.below hb) f8), (fun _ _ => ⟨wr.heap.size, rfl, Blk.new wr 9 #[.string (nT pz ++ ⟨#[42, 120]⟩ ++ nT (pv : Nat))]⟩), (fun h => ⟨(f10 h).1.below hb, (f10 h).2⟩), f11, p0, (fun _ => rfl), z11_0⟩
        refine StepsU.run rfl ?_ ?_
        · intro L U wr hF hlk haf A K hA hK
          have HA : Hid (A = putAll _ _ U) := hA
          clear hA
          simp [Aft, Region.binds] at haf
          obtain ⟨fb, fk, fs, oX, oP, fl, v3, f0, f1, f2, f3, f4, f5, f6, f7, f8, f9, f10, f11, p0, p9, z11_0⟩ := hF
          have g0 := f0 (by simp [haf])
          have g9 := f9 (by simp [haf]) hlk
          obtain ⟨gb, hgb, hBb⟩ := g9
          have e13 := rd HA.out 13 (by kernel_rfl) g0
          have e22 := rd HA.out 22 (by kernel_rfl) hgb
          refine ⟨?_⟩
          refine wp_append_g (.tmp 13) (.tmp 22) 23 rfl 1 w.heap.size 9 (.string ⟨#[]⟩) 16 Tryz.und_strs Tryz.info_str (by decide) rfl (by decide) (nuS _) (by decide) u3 k (gT (a.take k)) (by simp [Act.eval, e13]) (fl hlk) ⟨gb, 0, none⟩ 1 1 [.string (nT pz ++ ⟨#[42, 120]⟩ ++ nT (pv : Nat))] (by simp [Act.eval, e22]) rfl ?_ (by intro u hu; simp at hu; subst hu; rfl) (nuS _) (Or.inl (by decide)) (by omega) (Nat.le_trans hLb fs) ?_
          · intro j u hj
            match j, hj with
            | 0, hj => simp at hj; subst hj; exact hBb.cell 0
            | j + 1, hj => simp at hj
          · intro v' w1 hL1 hA1 hnn1
            refine hK (upd U 23 v') _ _ ?_ ?_
            · rw [HA.out]; kernel_rfl
            · exact ⟨(fb.trans (hA1.bel.mono hLg)), (fk.trans hA1.keep), (Nat.le_trans fs hA1.size), ((hA1.other _ oX.lt naX).trans oX), ((hA1.other _ oP.lt naP).trans oP), (fun h => by cases h), v3, (mvN mn_is hA1.keep f0), (mvN mn_is hA1.keep f1), (mvN mn_is hA1.keep f2), (mvN mn_is hA1.keep f3), (mvN mn_is hA1.keep f4), (mvN mn_is hA1.keep f5), (mvN mn_is hA1.keep f6), (mvN mn_is hA1.keep f7), (mvN mn_is hA1.keep f8), (fun _ h => by cases h), (fun _ => ⟨hL1, hnn1⟩), (fun h => by have h1 := (f11 h).1; rw [hlk] at h1; cases h1), (fun _ => by simp [haf]), (fun _ => by simp [haf]), z11_0⟩
        refine StepsU.run rfl ?_ StepsU.nil
        · intro L U wr hF hlk haf A K hA hK
          have HA : Hid (A = putAll _ _ U) := hA
          clear hA
          simp [Aft, Region.binds] at haf
          obtain ⟨fb, fk, fs, oX, oP, fl, v3, f0, f1, f2, f3, f4, f5, f6, f7, f8, f9, f10, f11, p0, p9, z11_0⟩ := hF
          have e23 := rd HA.out 23 (by kernel_rfl) rfl
          refine ⟨?_⟩
          go_simp
          refine hK (upd U 3 (U 23)) _ _ ?_ ?_
          · rw [HA.out]; kernel_rfl
          · exact ⟨fb, fk, fs, oX, oP, fl, (fun h => by cases h), f0, f1, f2, f3, f4, f5, f6, f7, f8, f9, f10, (fun _ => ⟨by simp [haf], rfl⟩), p0, p9, (fun _ => by simp [haf])⟩
      clear hbw oX oP hL
      intro L U1 V hall hF
      obtain ⟨hbw, fk, fs, oX, oP, fl, v3, f0, f1, f2, f3, f4, f5, f6, f7, f8, f9, f10, f11, p0, p9, z11_0⟩ := hF
      clear fl v3 p0 p9 z11_0
      have g0 := f0 (hall 0 (by decide))
      have g1 := f1 (hall 1 (by decide))
      have g2 := f2 (hall 2 (by decide))
      have g3 := f3 (hall 3 (by decide))
      have g4 := f4 (hall 4 (by decide))
      have g5 := f5 (hall 5 (by decide))
      have g6 := f6 (hall 6 (by decide))
      have g7 := f7 (hall 7 (by decide))
      have g8 := f8 (hall 8 (by decide))
      have g10 := f10 (hall 10 (by decide))
      have g11 := f11 (hall 11 (by decide))
      clear hall f0 f1 f2 f3 f4 f5 f6 f7 f8 f9 f10 f11
      replace ltX := oX.lt
      replace ltP := oP.lt
      try clear g0
      try clear g1
      try clear g2
      try clear g3
      try clear g4
      try clear g5
      try clear g6
      try clear g7
      try clear g8
      clear hbW
      simp only [setM_some, setM_none, setM_nil]
      obtain ⟨hL2, hne2⟩ := g10
      have e6 := g11.2
      rw [← e6] at hL2
      have HE6 : Hid (U1 3 = _) := e6
      clear g11 e6 fk fs oP ltP hne2
      have HG : Hid (gT (a.take (k + 1)) = _) := gT_take (by rw [HLN.out]; exact h0) HPV.out
      go_wp2
      go_roundw
      case rel => exact ⟨k + 1, by omega, by go_num, oX, by rw [HG.out]; exact hL2, hbw⟩
      case measure => simp [intOf]; omega
    · subst hi9
      have hkq : k = qX := by omega
      subst hkq
      have HTK : Hid (a.take k = a) := List.take_of_length_le (by rw [HLN.out]; exact Nat.le_refl _)
      rw [HTK.out] at hL
      clear hk h0
      obtain ⟨Xc0, Xc1, Xc2⟩ := oX.three
      obtain ⟨Xk0, Xk1, Xk2⟩ := oX.frozen3
      go_wp2_with fail
      refine (sign_h _ r _ (HRS.out.below hbw)).mono ?_
      rintro e w1 ⟨rfl, hb⟩
      clear Xc0 Xc1 Xc2 Xk0 Xk1 Xk2
      replace oX := oX.stay hb
      replace ltX := oX.lt
      replace hL := hL.below hb
      replace hbw := hbw.step hb (Nat.le_refl _)
      clear hb
      by_cases hr : r = 0
      · have hs : (r.sign != 0) = false := by rw [hr]; rfl
        have HR : Hid (r = 0) := hr
        clear hr
        obtain ⟨Xc0, Xc1, Xc2⟩ := oX.three
        obtain ⟨Xk0, Xk1, Xk2⟩ := oX.frozen3
        go_wp2_with fail
        refine (isNum_any _ a r _ (HTX.out.below hbw)).mono ?_
        rintro e w2 ⟨rfl, hb⟩
        clear Xc0 Xc1 Xc2 Xk0 Xk1 Xk2
        replace oX := oX.stay hb
        replace ltX := oX.lt
        replace hL := hL.below hb
        replace hbw := hbw.step hb (Nat.le_refl _)
        clear hb
        by_cases hn : a = []
        · have hn2 : decide (a = []) = true := decide_eq_true hn
          have HN : Hid (a = []) := hn
          clear hn
          obtain ⟨Xc0, Xc1, Xc2⟩ := oX.three
          obtain ⟨Xk0, Xk1, Xk2⟩ := oX.frozen3
          go_wp2_with fail
          refine (text_h _ r _ (HRS.out.below hbw)).mono ?_
          rintro e w3 ⟨rfl, hb⟩
          clear Xc0 Xc1 Xc2 Xk0 Xk1 Xk2
          replace oX := oX.stay hb
          replace ltX := oX.lt
          replace hL := hL.below hb
          replace hbw := hbw.step hb (Nat.le_refl _)
          clear hb
          have hb3 := below_new w3 (.cells #[.string (nT r)] 9 (0, 0))
          have oB := Blk.new w3 9 #[.string (nT r)]
          have hL3 := hL.below hb3
          have hbw3 := hbw.step hb3 (Nat.le_refl _)
          go_wp2_with (first | (at_builtin; refine wpList_append_g rfl _ _ 23 rfl 1 w.heap.size 9 (.string ⟨#[]⟩) 16 Tryz.und_strs Tryz.info_str (by decide) rfl (by decide) (nuS _) (by decide) _ k _ rfl hL3 ⟨w3.heap.size, 0, none⟩ 1 1 [.string (nT r)] rfl rfl (by intro j u hj; match j, hj with | 0, hj => (simp at hj; subst hj; exact oB.cell 0) | j + 1, hj => (simp at hj)) (by intro u hu; simp at hu; subst hu; rfl) (nuS _) (Or.inl (by decide)) (by omega) hbw3.size ?_; intro v8 w8 hL8 hA8 hn8; have hbw8 := hbw3.trans hA8.bel; clear hA8 hn8) | (go_at_call 64; refine (join_t w.heap.size _ a r _ _ _ hL8 (by have := (lT_yes (a := a) (r := r) (Or.inr HN.out)).2; rw [this, HLN.out]) (lT_yes (a := a) (r := r) (Or.inr HN.out)).1 HFN.out HRL.out).mono ?_; rintro e w9 ⟨rfl, hb9⟩))
          go_ret
          exact ⟨rfl, hbw8.step hb9 (Nat.le_refl _)⟩
        · have hn2 : decide (a = []) = false := decide_eq_false hn
          have HN : Hid (¬ (r ≠ 0 ∨ a = [])) := fun h => h.elim (fun h => h HR.out) hn
          clear hn
          go_wp2_with (go_at_call 64; refine (join_t w.heap.size _ a r _ _ _ hL (by have := (lT_no HN.out).2; rw [this, HLN.out]) (lT_no HN.out).1 HFN.out HRL.out).mono ?_; rintro e w9 ⟨rfl, hb9⟩)
          go_ret
          exact ⟨rfl, hbw.step hb9 (Nat.le_refl _)⟩
      · have hs : (r.sign != 0) = true := by rw [bne_iff_ne]; exact fun h => hr (Int.sign_eq_zero_iff_zero.1 h)
        have HR : Hid (r ≠ 0) := hr
        clear hr
        obtain ⟨Xc0, Xc1, Xc2⟩ := oX.three
        obtain ⟨Xk0, Xk1, Xk2⟩ := oX.frozen3
        go_wp2_with fail
        refine (text_h _ r _ (HRS.out.below hbw)).mono ?_
        rintro e w2 ⟨rfl, hb⟩
        clear Xc0 Xc1 Xc2 Xk0 Xk1 Xk2
        replace oX := oX.stay hb
        replace ltX := oX.lt
        replace hL := hL.below hb
        replace hbw := hbw.step hb (Nat.le_refl _)
        clear hb
        have hb3 := below_new w2 (.cells #[.string (nT r)] 9 (0, 0))
        have oB := Blk.new w2 9 #[.string (nT r)]
        have hL3 := hL.below hb3
        have hbw3 := hbw.step hb3 (Nat.le_refl _)
        go_wp2_with (first | (at_builtin; refine wpList_append_g rfl _ _ 23 rfl 1 w.heap.size 9 (.string ⟨#[]⟩) 16 Tryz.und_strs Tryz.info_str (by decide) rfl (by decide) (nuS _) (by decide) _ k _ rfl hL3 ⟨w2.heap.size, 0, none⟩ 1 1 [.string (nT r)] rfl rfl (by intro j u hj; match j, hj with | 0, hj => (simp at hj; subst hj; exact oB.cell 0) | j + 1, hj => (simp at hj)) (by intro u hu; simp at hu; subst hu; rfl) (nuS _) (Or.inl (by decide)) (by omega) hbw3.size ?_; intro v8 w8 hL8 hA8 hn8; have hbw8 := hbw3.trans hA8.bel; clear hA8 hn8) | (go_at_call 64; refine (join_t w.heap.size _ a r _ _ _ hL8 (by have := (lT_yes (a := a) (r := r) (Or.inl HR.out)).2; rw [this, HLN.out]) (lT_yes (a := a) (r := r) (Or.inl HR.out)).1 HFN.out HRL.out).mono ?_; rintro e w9 ⟨rfl, hb9⟩))
        go_ret
        exact ⟨rfl, hbw8.step hb9 (Nat.le_refl _)⟩

end Go.Proofs.YteefniagebcagaaGreatDoor
/- Contract of suretylaw03's awake; they prove no statement of the seat. -/
namespace Go.Proofs.YteefniagebcagaaGreatDoor
open Go.RowKit
set_option linter.unusedVariables false

theorem nT_pos (d : Nat) (h : d < 10) : nT (d : Int) = ⟨#[UInt8.ofNat (48 + d)]⟩ := by
  unfold nT Lib.itoa
  rw [if_neg (by omega), show ((d : Int)).toNat = d by omega, Lib.decDigits_one h]
theorem nT_neg (d : Nat) (h : d < 10) (h0 : 0 < d) : nT (-(d : Int)) = ⟨#[45, UInt8.ofNat (48 + d)]⟩ := by
  unfold nT Lib.itoa
  rw [if_pos (by omega), show (-(d : Int)).natAbs = d by omega, Lib.decDigits_one h]
theorem text_l (v : Value) (z : Int) (S : ByteArray) (w : World) (hv : AInt w v z) (h : nT z = S) :
    Calls Tryz.prog 31 #[v] w fun e w' => e = .returned (.string S) ∧ Below w.heap.size w w' := by
  subst h
  exact text_h v z w hv
theorem ltext_l (v : Value) (a : List (Nat × Int)) (r : Int) (S : ByteArray) (w : World) (hX : TermR w v a r) (ht : Tab w) (h : tT a r = S) :
    Calls Tryz.prog 19 #[v] w fun e w' => e = .returned (.string S) ∧ Below w.heap.size w w' := by
  subst h
  exact ltext_any v a r w hX ht
theorem aw_read (ao : Option Addr) (w : World) (hm : MArr w ao [(0, ⟨#[50]⟩), (1, ⟨#[45, 52]⟩)]) :
    Calls Tryz.prog 40 #[.agg #[.slice ao 2 2, .string ⟨#[51]⟩]] w fun e w' => ∃ p q r x a n c y d l f,  e = .returned (.tuple #[.agg #[.slice p q r, .bool x, .slice a n c, .bool y, .slice d l f], .int .i64 0]) ∧ TP w' p q r x a n c [(0, 2), (1, -4)] 0 ∧ AInt w' (.agg #[.bool y, .slice d l f]) 3 ∧ Below w.heap.size w w' := by
  refine (lread_any ao 2 2 ⟨#[51]⟩ [(0, ⟨#[50]⟩), (1, ⟨#[45, 52]⟩)] w hm rfl (fun _ p hp => by simp at hp; rcases hp with rfl | rfl <;> decide) (by decide)).mono ?_
  rintro e w' ⟨v, rfl, hr, hb⟩
  have e1 : rdE [(0, ⟨#[50]⟩), (1, ⟨#[45, 52]⟩)] ⟨#[51]⟩ = 0 := by decide +kernel
  have e2 : rdP [(0, ⟨#[50]⟩), (1, ⟨#[45, 52]⟩)] ⟨#[51]⟩ = [(0, 2), (1, -4)] := by decide +kernel
  have e3 : rdM [(0, ⟨#[50]⟩), (1, ⟨#[45, 52]⟩)] ⟨#[51]⟩ = 3 := by decide +kernel
  rw [e2, e3] at hr
  rw [e1]
  obtain ⟨p, q, r, x, a, n, c, y, d, l, f, rfl, h1, h2⟩ := hr
  exact ⟨p, q, r, x, a, n, c, y, d, l, f, rfl, h1, h2, hb⟩
theorem aw_not (v : Value) (w : World) (hX : RowR w v [(0, 2), (1, -4)] 3) :
    Calls Tryz.prog 45 #[v] w fun e w' => ∃ p q r x a n c y d l f,  e = .returned (.tuple #[.agg #[.slice p q r, .bool x, .slice a n c, .bool y, .slice d l f], .int .i64 0]) ∧ TP w' p q r x a n c [(0, -2), (1, 4)] 0 ∧ AInt w' (.agg #[.bool y, .slice d l f]) (-4) ∧ Below w.heap.size w w' := by
  refine (lnot_any v _ _ w hX).mono ?_
  rintro e w' ⟨u, k, rfl, hr, hb⟩
  rcases hr with ⟨_, rfl, hr⟩ | ⟨h0, _⟩
  · obtain ⟨p, q, r, x, a, n, c, y, d, l, f, rfl, h1, h2⟩ := hr
    exact ⟨p, q, r, x, a, n, c, y, d, l, f, rfl, h1, h2, hb⟩
  · exact absurd (by decide +kernel) h0
theorem aw_tight (v : Value) (w : World) (hX : RowR w v [(0, 2), (1, -4)] 3) :
    Calls Tryz.prog 47 #[v] w fun e w' => ∃ p q r x a n c y d l f,  e = .returned (.agg #[.slice p q r, .bool x, .slice a n c, .bool y, .slice d l f]) ∧ TP w' p q r x a n c [(0, 1), (1, -2)] 0 ∧ AInt w' (.agg #[.bool y, .slice d l f]) 1 ∧ Below w.heap.size w w' := by
  refine (tight_any v _ _ w hX).mono ?_
  rintro e w' ⟨u, rfl, hr, hb⟩
  rw [show tgP [(0, 2), (1, -4)] = [(0, 1), (1, -2)] by decide +kernel, show tgM [(0, 2), (1, -4)] 3 = 1 by decide +kernel] at hr
  obtain ⟨p, q, r, x, a, n, c, y, d, l, f, rfl, h1, h2⟩ := hr
  exact ⟨p, q, r, x, a, n, c, y, d, l, f, rfl, h1, h2, hb⟩
theorem aw_n1 : nT 1 = ⟨#[49]⟩ := nT_pos 1 (by decide)
theorem aw_m4 : nT (-4) = ⟨#[45, 52]⟩ := nT_neg 4 (by decide) (by decide)
theorem aw_t1 : tT [(0, 1), (1, -2)] 0 = ⟨#[49, 42, 120, 48, 32, 43, 32, 45, 50, 42, 120, 49]⟩ := by
  unfold tT lT
  simp only [List.map_cons, List.map_nil, pT]
  rw [aw_n1, show nT (-2) = ⟨#[45, 50]⟩ from nT_neg 2 (by decide) (by decide), show nT ((0 : Nat) : Int) = ⟨#[48]⟩ from nT_pos 0 (by decide), show nT ((1 : Nat) : Int) = ⟨#[49]⟩ from nT_pos 1 (by decide)]
  rfl
theorem aw_t2 : tT [(0, -2), (1, 4)] 0 = ⟨#[45, 50, 42, 120, 48, 32, 43, 32, 52, 42, 120, 49]⟩ := by
  unfold tT lT
  simp only [List.map_cons, List.map_nil, pT]
  rw [show nT 4 = ⟨#[52]⟩ from nT_pos 4 (by decide), show nT (-2) = ⟨#[45, 50]⟩ from nT_neg 2 (by decide) (by decide), show nT ((0 : Nat) : Int) = ⟨#[48]⟩ from nT_pos 0 (by decide), show nT ((1 : Nat) : Int) = ⟨#[49]⟩ from nT_pos 1 (by decide)]
  rfl

set_option maxRecDepth 20000 in
set_option maxHeartbeats 8000000 in
theorem awake3_any (w : World) (ht : Tab w) :
    Calls Tryz.prog 9 #[] w fun e w' => e = .returned (.bool true) ∧ Below w.heap.size w w' := by
  have HTB : Hid (Tab w) := ht
  clear ht
  have hbw := Below.refl w.heap.size w
  go_enter Tryz.func9, Tryz.ntmps9
  have hn := below_new w (.cells #[.int .i64 0, .string ⟨#[50]⟩, .int .i64 1, .string ⟨#[45, 52]⟩] 103 (0, 0))
  have oA := Blk.new w 103 #[.int .i64 0, .string ⟨#[50]⟩, .int .i64 1, .string ⟨#[45, 52]⟩]
  have lwA : w.heap.size ≤ w.heap.size := by have := hbw.size; (try simp at this); omega
  replace hbw := hbw.step hn (Nat.le_refl _)
  clear hn
  have ltA := oA.lt
  have HMA : Hid (MArr (w.alloc (.cells #[.int .i64 0, .string ⟨#[50]⟩, .int .i64 1, .string ⟨#[45, 52]⟩] 103 (0, 0))) (some ⟨w.heap.size, 0, none⟩) [(0, ⟨#[50]⟩), (1, ⟨#[45, 52]⟩)]) := Or.inr ⟨w.heap.size, 0, rfl, fun i hi => by match i, hi with | 0, _ => exact ⟨oA.cell 0, oA.cell 1⟩ | 1, _ => exact ⟨oA.cell 2, oA.cell 3⟩ | i + 2, hi => simp at hi; omega⟩
  go_wp2_with fail
  refine (aw_read _ _ HMA.out).mono ?_
  rintro e w1 ⟨pR, qR, rR, xR, aR, nR, cR, yR, dR, lR, fR, rfl, hR, hRm, hb⟩
  replace oA := oA.stay hb
  replace ltA := oA.lt
  replace hbw := hbw.step hb (Nat.le_refl _)
  clear hb
  have hn := below_new w1 (.cells #[.slice pR qR rR, .bool xR, .slice aR nR cR, .bool yR, .slice dR lR fR] 82 (0, 0))
  have oR := Blk.new w1 82 #[.slice pR qR rR, .bool xR, .slice aR nR cR, .bool yR, .slice dR lR fR]
  have neAR : w.heap.size ≠ w1.heap.size := by have := ltA; (try simp at this); omega
  have lwR : w.heap.size ≤ w1.heap.size := by have := hbw.size; (try simp at this); omega
  replace oA := oA.stay hn
  replace ltA := oA.lt
  replace hR := hR.below hn
  replace hRm := hRm.below hn
  replace hbw := hbw.step hn (Nat.le_refl _)
  clear hn
  have ltR := oR.lt
  obtain ⟨Rc0, Rc1, Rc2, Rc3, Rc4⟩ := oR.five
  obtain ⟨Rk0, Rk1, Rk2, Rk3, Rk4⟩ := oR.frozen5
  go_wp2_with fail
  refine (aw_not _ _ ⟨_, _, _, _, _, _, _, _, _, _, _, rfl, hR, hRm⟩).mono ?_
  rintro e w2 ⟨pN, qN, rN, xN, aN, nN, cN, yN, dN, lN, fN, rfl, hN, hNm, hb⟩
  clear Rc0 Rc1 Rc2 Rc3 Rc4 Rk0 Rk1 Rk2 Rk3 Rk4
  replace oA := oA.stay hb
  replace ltA := oA.lt
  replace oR := oR.stay hb
  replace ltR := oR.lt
  replace hR := hR.below hb
  replace hRm := hRm.below hb
  replace hbw := hbw.step hb (Nat.le_refl _)
  clear hb
  have hn := below_new w2 (.cells #[.slice pN qN rN, .bool xN, .slice aN nN cN, .bool yN, .slice dN lN fN] 82 (0, 0))
  have oN := Blk.new w2 82 #[.slice pN qN rN, .bool xN, .slice aN nN cN, .bool yN, .slice dN lN fN]
  have neAN : w.heap.size ≠ w2.heap.size := by have := ltA; (try simp at this); omega
  have neRN : w1.heap.size ≠ w2.heap.size := by have := ltR; (try simp at this); omega
  have lwN : w.heap.size ≤ w2.heap.size := by have := hbw.size; (try simp at this); omega
  replace oA := oA.stay hn
  replace ltA := oA.lt
  replace oR := oR.stay hn
  replace ltR := oR.lt
  replace hR := hR.below hn
  replace hRm := hRm.below hn
  replace hN := hN.below hn
  replace hNm := hNm.below hn
  replace hbw := hbw.step hn (Nat.le_refl _)
  clear hn
  have ltN := oN.lt
  obtain ⟨Rc0, Rc1, Rc2, Rc3, Rc4⟩ := oR.five
  obtain ⟨Rk0, Rk1, Rk2, Rk3, Rk4⟩ := oR.frozen5
  go_wp2_with fail
  refine (aw_tight _ _ ⟨_, _, _, _, _, _, _, _, _, _, _, rfl, hR, hRm⟩).mono ?_
  rintro e w3 ⟨pT, qT, rT, xT, aT, nT, cT, yT, dT, lT, fT, rfl, hT, hTm, hb⟩
  clear Rc0 Rc1 Rc2 Rc3 Rc4 Rk0 Rk1 Rk2 Rk3 Rk4
  replace oA := oA.stay hb
  replace ltA := oA.lt
  replace oR := oR.stay hb
  replace ltR := oR.lt
  replace oN := oN.stay hb
  replace ltN := oN.lt
  replace hR := hR.below hb
  replace hRm := hRm.below hb
  replace hN := hN.below hb
  replace hNm := hNm.below hb
  replace hbw := hbw.step hb (Nat.le_refl _)
  clear hb
  have hn := below_new w3 (.cells #[.slice pT qT rT, .bool xT, .slice aT nT cT, .bool yT, .slice dT lT fT] 82 (0, 0))
  have oT := Blk.new w3 82 #[.slice pT qT rT, .bool xT, .slice aT nT cT, .bool yT, .slice dT lT fT]
  have neAT : w.heap.size ≠ w3.heap.size := by have := ltA; (try simp at this); omega
  have neRT : w1.heap.size ≠ w3.heap.size := by have := ltR; (try simp at this); omega
  have neNT : w2.heap.size ≠ w3.heap.size := by have := ltN; (try simp at this); omega
  have lwT : w.heap.size ≤ w3.heap.size := by have := hbw.size; (try simp at this); omega
  replace oA := oA.stay hn
  replace ltA := oA.lt
  replace oR := oR.stay hn
  replace ltR := oR.lt
  replace oN := oN.stay hn
  replace ltN := oN.lt
  replace hR := hR.below hn
  replace hRm := hRm.below hn
  replace hN := hN.below hn
  replace hNm := hNm.below hn
  replace hT := hT.below hn
  replace hTm := hTm.below hn
  replace hbw := hbw.step hn (Nat.le_refl _)
  clear hn
  have ltT := oT.lt
  obtain ⟨Tc0, Tc1, Tc2, Tc3, Tc4⟩ := oT.five
  obtain ⟨Tk0, Tk1, Tk2, Tk3, Tk4⟩ := oT.frozen5
  go_wp2_with fail
  refine (ltext_l _ _ _ _ _ hT.val (HTB.out.below hbw) aw_t1).mono ?_
  rintro e w4 ⟨rfl, hb⟩
  clear Tc0 Tc1 Tc2 Tc3 Tc4 Tk0 Tk1 Tk2 Tk3 Tk4
  replace oA := oA.stay hb
  replace ltA := oA.lt
  replace oR := oR.stay hb
  replace ltR := oR.lt
  replace oN := oN.stay hb
  replace ltN := oN.lt
  replace oT := oT.stay hb
  replace ltT := oT.lt
  replace hR := hR.below hb
  replace hRm := hRm.below hb
  replace hN := hN.below hb
  replace hNm := hNm.below hb
  replace hT := hT.below hb
  replace hTm := hTm.below hb
  replace hbw := hbw.step hb (Nat.le_refl _)
  clear hb
  obtain ⟨Tc0, Tc1, Tc2, Tc3, Tc4⟩ := oT.five
  obtain ⟨Tk0, Tk1, Tk2, Tk3, Tk4⟩ := oT.frozen5
  go_wp2_with fail
  refine (text_l _ _ _ _ hTm aw_n1).mono ?_
  rintro e w5 ⟨rfl, hb⟩
  clear Tc0 Tc1 Tc2 Tc3 Tc4 Tk0 Tk1 Tk2 Tk3 Tk4
  replace oA := oA.stay hb
  replace ltA := oA.lt
  replace oR := oR.stay hb
  replace ltR := oR.lt
  replace oN := oN.stay hb
  replace ltN := oN.lt
  replace oT := oT.stay hb
  replace ltT := oT.lt
  replace hR := hR.below hb
  replace hRm := hRm.below hb
  replace hN := hN.below hb
  replace hNm := hNm.below hb
  replace hT := hT.below hb
  replace hTm := hTm.below hb
  replace hbw := hbw.step hb (Nat.le_refl _)
  clear hb
  obtain ⟨Nc0, Nc1, Nc2, Nc3, Nc4⟩ := oN.five
  obtain ⟨Nk0, Nk1, Nk2, Nk3, Nk4⟩ := oN.frozen5
  go_wp2_with fail
  refine (ltext_l _ _ _ _ _ hN.val (HTB.out.below hbw) aw_t2).mono ?_
  rintro e w6 ⟨rfl, hb⟩
  clear Nc0 Nc1 Nc2 Nc3 Nc4 Nk0 Nk1 Nk2 Nk3 Nk4
  replace oA := oA.stay hb
  replace ltA := oA.lt
  replace oR := oR.stay hb
  replace ltR := oR.lt
  replace oN := oN.stay hb
  replace ltN := oN.lt
  replace oT := oT.stay hb
  replace ltT := oT.lt
  replace hR := hR.below hb
  replace hRm := hRm.below hb
  replace hN := hN.below hb
  replace hNm := hNm.below hb
  replace hT := hT.below hb
  replace hTm := hTm.below hb
  replace hbw := hbw.step hb (Nat.le_refl _)
  clear hb
  obtain ⟨Nc0, Nc1, Nc2, Nc3, Nc4⟩ := oN.five
  obtain ⟨Nk0, Nk1, Nk2, Nk3, Nk4⟩ := oN.frozen5
  go_wp2_with fail
  refine (text_l _ _ _ _ hNm aw_m4).mono ?_
  rintro e w7 ⟨rfl, hb⟩
  clear Nc0 Nc1 Nc2 Nc3 Nc4 Nk0 Nk1 Nk2 Nk3 Nk4
  replace oA := oA.stay hb
  replace ltA := oA.lt
  replace oR := oR.stay hb
  replace ltR := oR.lt
  replace oN := oN.stay hb
  replace ltN := oN.lt
  replace oT := oT.stay hb
  replace ltT := oT.lt
  replace hR := hR.below hb
  replace hRm := hRm.below hb
  replace hN := hN.below hb
  replace hNm := hNm.below hb
  replace hT := hT.below hb
  replace hTm := hTm.below hb
  replace hbw := hbw.step hb (Nat.le_refl _)
  clear hb
  go_wp2
  go_ret
  exact ⟨rfl, hbw⟩

end Go.Proofs.YteefniagebcagaaGreatDoor
