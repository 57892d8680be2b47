/- Contract of linear's AtMost, and the walk of suretylaw03.LinearAtMost; they prove no statement of the seat. -/
import Derived.Test.YteefniagebcagabGreatDoorLinHxJAtMost
namespace Go.Proofs.YteefniagebcagabGreatDoor
open Go.RowKit
set_option linter.unusedVariables false

set_option maxRecDepth 20000 in
set_option maxHeartbeats 8000000 in
theorem atMost_any (vX : Value) (a : List (Nat × Int)) (r : Int) (w : World) (hX : TermR w vX a r) :
    Calls Tryz.prog 12 #[vX] w fun e w' => ∃ v, e = .returned v ∧ RowR w' v a (-r) ∧ Below w.heap.size w w' := by
  obtain ⟨pX, qX, rX, xX, aX, nX, cX, rfl, hX⟩ := hX
  have oX := ((Blk.new w 30 #[.slice pX qX rX, .bool xX, .slice aX nX cX]).alloc (.cells #[.slice none 0 0, .bool false, .slice none 0 0, .bool false, .slice none 0 0] 42 (0, 0)))
  have oR := (Blk.new (w.alloc (.cells #[.slice pX qX rX, .bool xX, .slice aX nX cX] 30 (0, 0))) 42 #[.slice none 0 0, .bool false, .slice none 0 0, .bool false, .slice none 0 0])
  simp only [World.size_alloc] at oR
  have hbw : Below w.heap.size w ((w.alloc (.cells #[.slice pX qX rX, .bool xX, .slice aX nX cX] 30 (0, 0))).alloc (.cells #[.slice none 0 0, .bool false, .slice none 0 0, .bool false, .slice none 0 0] 42 (0, 0))) := by go_grown
  replace hX := hX.below hbw
  have ltX := oX.lt
  have lwX : w.heap.size ≤ w.heap.size := by omega
  have ltR := oR.lt
  have lwR : w.heap.size ≤ w.heap.size + 1 := by omega
  go_enter Tryz.func12, Tryz.ntmps12
  go_wp2
  generalize ((w.alloc (.cells #[.slice pX qX rX, .bool xX, .slice aX nX cX] 30 (0, 0))).alloc (.cells #[.slice none 0 0, .bool false, .slice none 0 0, .bool false, .slice none 0 0] 42 (0, 0))) = W0 at hbw oX oR ltX ltR hX ⊢
  have geR : w.heap.size ≤ w.heap.size + 1 := lwR
  have neRX : w.heap.size + 1 ≠ w.heap.size := by omega
  have hbW := hbw
  refine wp_region_M (by kernel_rfl) [3, 4, 5, 6, 7, 8, 9, 10] [none, none, none, some 3, some 4, some 5, some 6, some 7, some 8, some 9, some 10] (fun U => by kernel_rfl) (fun L U wr => Below w.heap.size w wr ∧ KeepP W0 wr ∧ W0.heap.size ≤ wr.heap.size ∧ Blk 30 wr (w.heap.size) #[.slice pX qX rX, .bool xX, .slice aX nX cX] ∧ BlkV 42 wr (w.heap.size + 1) (bif L 8 then U 10 else .agg #[.slice none 0 0, .bool false, .slice none 0 0, .bool false, .slice none 0 0]) ∧ (L 0 = true → IS (.pointer (some ⟨w.heap.size, 0, none⟩)) (U 3) wr) ∧ (L 1 = true → IS (.slice pX qX rX) (U 4) wr) ∧ (L 2 = true → PTS a (U 5) wr) ∧ (L 3 = true → TRM a 0 (U 6) wr) ∧ (L 4 = true → IS (.pointer (some ⟨w.heap.size, 1, none⟩)) (U 7) wr) ∧ (L 5 = true → IS (.agg #[.bool xX, .slice aX nX cX]) (U 8) wr) ∧ (L 6 = true → INT (-r) (U 9) wr) ∧ (L 7 = true → ROW a (-r) (U 10) wr) ∧ (L 8 = true → L 7 = true)) (by kernel_rfl) ?_ ?_ ?_
  · exact fun U => ⟨hbw.drew, KeepP.below (Below.refl _ _).drew, Nat.le_refl _, oX.drew, ⟨_, rfl, oR.drew⟩, (fun h => by cases h), (fun h => by cases h), (fun h => by cases h), (fun h => by cases h), (fun h => by cases h), (fun h => by cases h), (fun h => by cases h), (fun h => by cases h), (fun h => by cases h)⟩
  · refine StepsU.run rfl ?_ ?_
    · intro L U wr hF hlk haf A K hA hK
      have HA : Hid (A = putAll _ _ U) := hA
      clear hA
      simp [Aft, Region.binds] at haf
      obtain ⟨fb, fk, fs, oX, rR, f0, f1, f2, f3, f4, f5, f6, f7, s8⟩ := hF
      have e1 : A.tmps[1]? = some (.pointer (some ⟨w.heap.size, 0, none⟩)) := by rw [HA.out]; kernel_rfl
      refine ⟨?_⟩
      go_simp
      refine hK (upd U 3 (.pointer (some ⟨w.heap.size, 0, none⟩))) _ _ ?_ ?_
      · rw [HA.out]; kernel_rfl
      · exact ⟨fb, fk, fs, oX, rR, (fun _ => rfl), f1, f2, f3, f4, f5, f6, f7, s8⟩
    refine StepsU.run rfl ?_ ?_
    · intro L U wr hF hlk haf A K hA hK
      have HA : Hid (A = putAll _ _ U) := hA
      clear hA
      simp [Aft, Region.binds] at haf
      obtain ⟨fb, fk, fs, oX, rR, f0, f1, f2, f3, f4, f5, f6, f7, s8⟩ := hF
      have g0 := f0 (by simp [haf])
      have e3 := rd HA.out 3 (by kernel_rfl) g0
      have c0 := oX.cell 0
      simp at c0
      refine ⟨?_⟩
      go_simp
      refine hK (upd U 4 (.slice pX qX rX)) _ _ ?_ ?_
      · rw [HA.out]; kernel_rfl
      · exact ⟨fb, fk, fs, oX, rR, f0, (fun _ => rfl), f2, f3, f4, f5, f6, f7, s8⟩
    refine StepsU.run rfl ?_ ?_
    · intro L U wr hF hlk haf A K hA hK
      have HA : Hid (A = putAll _ _ U) := hA
      clear hA
      simp [Aft, Region.binds] at haf
      obtain ⟨fb, fk, fs, oX, rR, f0, f1, f2, f3, f4, f5, f6, f7, s8⟩ := hF
      have g1 := f1 (by simp [haf])
      have e4 := rd HA.out 4 (by kernel_rfl) g1
      refine ⟨?_⟩
      go_simp
      refine (clone_any _ _ _ a _ (hX.arr.keepP fk) hX.len hX.cap1 hX.cap2 hX.none (by have := hX.n_le; omega)).mono ?_
      rintro e w1 ⟨ao, n, cap, rfl, hr, hb⟩
      go_simp
      refine hK (upd U 5 (.slice ao n cap)) _ _ ?_ ?_
      · rw [HA.out]; kernel_rfl
      · exact ⟨(fb.step hb (Nat.le_refl _)), (fk.trans (KeepP.below hb)), (Nat.le_trans fs hb.size), (oX.stay hb), (rR.stay hb), (mvP mp_is (KeepP.below hb) f0), (mvP mp_is (KeepP.below hb) f1), (fun _ => hr), (mvP mp_trm (KeepP.below hb) f3), (mvP mp_is (KeepP.below hb) f4), (mvP mp_is (KeepP.below hb) f5), (mvP mp_int (KeepP.below hb) f6), (mvP mp_row (KeepP.below hb) f7), s8⟩
    refine StepsU.run rfl ?_ ?_
    · intro L U wr hF hlk haf A K hA hK
      have HA : Hid (A = putAll _ _ U) := hA
      clear hA
      simp [Aft, Region.binds] at haf
      obtain ⟨fb, fk, fs, oX, rR, f0, f1, f2, f3, f4, f5, f6, f7, s8⟩ := hF
      have g2 := f2 (by simp [haf])
      obtain ⟨ao, n, cap, hv, h1, h2, h3, h4, h5⟩ := g2
      have e5 := rd HA.out 5 (by kernel_rfl) hv
      refine ⟨?_⟩
      go_simp
      refine hK (upd U 6 (.agg #[.slice ao n cap, .bool false, .slice none 0 0])) _ _ ?_ ?_
      · rw [HA.out]; kernel_rfl
      · exact ⟨fb, fk, fs, oX, rR, f0, f1, f2, (fun _ => ⟨_, _, _, _, _, _, _, rfl, ⟨h1, h2, h3, h4, h5, AInt.zero _, hX.fine⟩⟩), f4, f5, f6, f7, s8⟩
    refine StepsU.run rfl ?_ ?_
    · intro L U wr hF hlk haf A K hA hK
      have HA : Hid (A = putAll _ _ U) := hA
      clear hA
      simp [Aft, Region.binds] at haf
      obtain ⟨fb, fk, fs, oX, rR, f0, f1, f2, f3, f4, f5, f6, f7, s8⟩ := hF
      have e1 : A.tmps[1]? = some (.pointer (some ⟨w.heap.size, 0, none⟩)) := by rw [HA.out]; kernel_rfl
      refine ⟨?_⟩
      go_simp
      refine hK (upd U 7 (.pointer (some ⟨w.heap.size, 1, none⟩))) _ _ ?_ ?_
      · rw [HA.out]; kernel_rfl
      · exact ⟨fb, fk, fs, oX, rR, f0, f1, f2, f3, (fun _ => rfl), f5, f6, f7, s8⟩
    refine StepsU.run rfl ?_ ?_
    · intro L U wr hF hlk haf A K hA hK
      have HA : Hid (A = putAll _ _ U) := hA
      clear hA
      simp [Aft, Region.binds] at haf
      obtain ⟨fb, fk, fs, oX, rR, f0, f1, f2, f3, f4, f5, f6, f7, s8⟩ := hF
      have g4 := f4 (by simp [haf])
      have e7 := rd HA.out 7 (by kernel_rfl) g4
      have c1 := oX.cell 1
      have c2 := oX.cell 2
      simp at c1
      simp at c2
      refine ⟨?_⟩
      go_simp
      refine hK (upd U 8 (.agg #[.bool xX, .slice aX nX cX])) _ _ ?_ ?_
      · rw [HA.out]; kernel_rfl
      · exact ⟨fb, fk, fs, oX, rR, f0, f1, f2, f3, f4, (fun _ => rfl), f6, f7, s8⟩
    refine StepsU.run rfl ?_ ?_
    · intro L U wr hF hlk haf A K hA hK
      have HA : Hid (A = putAll _ _ U) := hA
      clear hA
      simp [Aft, Region.binds] at haf
      obtain ⟨fb, fk, fs, oX, rR, f0, f1, f2, f3, f4, f5, f6, f7, s8⟩ := hF
      have g5 := f5 (by simp [haf])
      have e8 := rd HA.out 8 (by kernel_rfl) g5
      refine ⟨?_⟩
      go_simp
      refine (neg_h _ r _ (hX.rest.keepP fk)).mono ?_
      rintro e w1 ⟨u1, u2, u3, u4, rfl, hr, hb⟩
      go_simp
      refine hK (upd U 9 (.agg #[.bool u1, .slice u2 u3 u4])) _ _ ?_ ?_
      · rw [HA.out]; kernel_rfl
      · exact ⟨(fb.step hb (Nat.le_refl _)), (fk.trans (KeepP.below hb)), (Nat.le_trans fs hb.size), (oX.stay hb), (rR.stay hb), (mvP mp_is (KeepP.below hb) f0), (mvP mp_is (KeepP.below hb) f1), (mvP mp_pts (KeepP.below hb) f2), (mvP mp_trm (KeepP.below hb) f3), (mvP mp_is (KeepP.below hb) f4), (mvP mp_is (KeepP.below hb) f5), (fun _ => hr), (mvP mp_row (KeepP.below hb) f7), s8⟩
    refine StepsU.run rfl ?_ ?_
    · intro L U wr hF hlk haf A K hA hK
      have HA : Hid (A = putAll _ _ U) := hA
      clear hA
      simp [Aft, Region.binds] at haf
      obtain ⟨fb, fk, fs, oX, rR, f0, f1, f2, f3, f4, f5, f6, f7, s8⟩ := hF
      have g3 := f3 (by simp [haf])
      have g6 := f6 (by simp [haf])
      obtain ⟨y1, y2, y3, y4, y5, y6, y7, hv, hT1⟩ := g3
      obtain ⟨y8, y9, ya, yb, hv2⟩ := AInt.shape g6
      have hT2 : AInt _ _ _ := g6
      rw [hv2] at hT2
      have e6 := rd HA.out 6 (by kernel_rfl) hv
      have e9 := rd HA.out 9 (by kernel_rfl) hv2
      refine ⟨?_⟩
      go_simp
      have hs8 : L 8 = false := by cases h : L 8 with | false => rfl | true => rw [s8 h] at hlk; cases hlk
      refine hK (upd U 10 (.agg #[.slice y1 y2 y3, .bool y4, .slice y5 y6 y7, .bool y8, .slice y9 ya yb])) _ _ ?_ ?_
      · rw [HA.out]; kernel_rfl
      · exact ⟨fb, fk, fs, oX, (flip_v (P := fun v => BlkV _ _ _ v) hs8 rR), f0, f1, f2, f3, f4, f5, f6, (fun _ => ⟨_, _, _, _, _, _, _, _, _, _, _, rfl, hT1, hT2⟩), (fun _ => rfl)⟩
    refine StepsU.run rfl ?_ StepsU.nil
    · intro L U wr hF hlk haf A K hA hK
      have HA : Hid (A = putAll _ _ U) := hA
      clear hA
      simp [Aft, Region.binds] at haf
      obtain ⟨fb, fk, fs, oX, rR, f0, f1, f2, f3, f4, f5, f6, f7, s8⟩ := hF
      have g7 := f7 (by simp [haf])
      obtain ⟨yp, yq, yr, yx, ya, yn, yc, yy, yd, yl, yf, hsrc⟩ := RowR.shape g7
      have e10 := rd HA.out 10 (by kernel_rfl) hsrc
      have e2 : A.tmps[2]? = some (.pointer (some ⟨w.heap.size + 1, 0, none⟩)) := by rw [HA.out]; kernel_rfl
      have rV := rR
      rw [hlk, cond_false] at rV
      obtain ⟨cs, hcs, hblk⟩ := rV
      injection hcs with hcs
      subst hcs
      have q0 := hblk.frozen 0
      have q1 := hblk.frozen 1
      have q2 := hblk.frozen 2
      have q3 := hblk.frozen 3
      have q4 := hblk.frozen 4
      have c0 := hblk.cell 0
      have c1 := hblk.cell 1
      have c2 := hblk.cell 2
      have c3 := hblk.cell 3
      have c4 := hblk.cell 4
      simp at c0
      simp at c1
      simp at c2
      simp at c3
      simp at c4
      have hlt := hblk.lt
      refine ⟨?_⟩
      go_simp
      refine hK U _ _ ?_ ?_
      · exact HA.out
      · exact ⟨(below_stores geR [.slice yp yq yr, .bool yx, .slice ya yn yc, .bool yy, .slice yd yl yf] 0 fb), (fk.trans (keepP_stores (by decide) (by decide) [.slice yp yq yr, .bool yx, .slice ya yn yc, .bool yy, .slice yd yl yf] 0 hblk (nuR _ _ _ _ _ _ _ _ _ _ _) (nuR _ _ _ _ _ _ _ _ _ _ _))), (by simp; exact fs), (oX.otherS neRX 0 [.slice yp yq yr, .bool yx, .slice ya yn yc, .bool yy, .slice yd yl yf]), (by simp only [cond_true, Bool.true_or, beq_self_eq_true]; exact ⟨_, hsrc, hblk.overS [.slice yp yq yr, .bool yx, .slice ya yn yc, .bool yy, .slice yd yl yf] 0 rfl⟩), (mvP mp_is (keepP_stores (by decide) (by decide) [.slice yp yq yr, .bool yx, .slice ya yn yc, .bool yy, .slice yd yl yf] 0 hblk (nuR _ _ _ _ _ _ _ _ _ _ _) (nuR _ _ _ _ _ _ _ _ _ _ _)) f0), (mvP mp_is (keepP_stores (by decide) (by decide) [.slice yp yq yr, .bool yx, .slice ya yn yc, .bool yy, .slice yd yl yf] 0 hblk (nuR _ _ _ _ _ _ _ _ _ _ _) (nuR _ _ _ _ _ _ _ _ _ _ _)) f1), (mvP mp_pts (keepP_stores (by decide) (by decide) [.slice yp yq yr, .bool yx, .slice ya yn yc, .bool yy, .slice yd yl yf] 0 hblk (nuR _ _ _ _ _ _ _ _ _ _ _) (nuR _ _ _ _ _ _ _ _ _ _ _)) f2), (mvP mp_trm (keepP_stores (by decide) (by decide) [.slice yp yq yr, .bool yx, .slice ya yn yc, .bool yy, .slice yd yl yf] 0 hblk (nuR _ _ _ _ _ _ _ _ _ _ _) (nuR _ _ _ _ _ _ _ _ _ _ _)) f3), (mvP mp_is (keepP_stores (by decide) (by decide) [.slice yp yq yr, .bool yx, .slice ya yn yc, .bool yy, .slice yd yl yf] 0 hblk (nuR _ _ _ _ _ _ _ _ _ _ _) (nuR _ _ _ _ _ _ _ _ _ _ _)) f4), (mvP mp_is (keepP_stores (by decide) (by decide) [.slice yp yq yr, .bool yx, .slice ya yn yc, .bool yy, .slice yd yl yf] 0 hblk (nuR _ _ _ _ _ _ _ _ _ _ _) (nuR _ _ _ _ _ _ _ _ _ _ _)) f5), (mvP mp_int (keepP_stores (by decide) (by decide) [.slice yp yq yr, .bool yx, .slice ya yn yc, .bool yy, .slice yd yl yf] 0 hblk (nuR _ _ _ _ _ _ _ _ _ _ _) (nuR _ _ _ _ _ _ _ _ _ _ _)) f6), (mvP mp_row (keepP_stores (by decide) (by decide) [.slice yp yq yr, .bool yx, .slice ya yn yc, .bool yy, .slice yd yl yf] 0 hblk (nuR _ _ _ _ _ _ _ _ _ _ _) (nuR _ _ _ _ _ _ _ _ _ _ _)) f7), (fun _ => by simp [haf])⟩
  clear hbw oX oR
  intro L U1 V1 hall hF
  obtain ⟨hbw, fk, fs, oX, rR, f0, f1, f2, f3, f4, f5, f6, f7, s8⟩ := hF
  clear s8
  have g0 := f0 (hall 0 (by decide))
  have g1 := f1 (hall 1 (by decide))
  have g2 := f2 (hall 2 (by decide))
  have g3 := f3 (hall 3 (by decide))
  have g4 := f4 (hall 4 (by decide))
  have g5 := f5 (hall 5 (by decide))
  have g6 := f6 (hall 6 (by decide))
  have g7 := f7 (hall 7 (by decide))
  rw [hall 8 (by decide), cond_true] at rR
  clear hall f0 f1 f2 f3 f4 f5 f6 f7
  replace hX := hX.keepP fk
  obtain ⟨csR, hcsR, oR⟩ := rR
  obtain ⟨pR, qR, rR, xR, aR, nR, cR, yR, dR, lR, fR, hvR⟩ := RowR.shape g7
  have hR : RowR _ _ _ _ := g7
  rw [hvR] at hR hcsR
  injection hcsR with hcsR
  subst hcsR
  clear hvR
  replace ltR := oR.lt
  replace ltX := oX.lt
  try clear g0
  try clear g1
  try clear g2
  try clear g3
  try clear g4
  try clear g5
  try clear g6
  try clear g7
  clear hbW
  simp only [setM_some, setM_none, setM_nil]
  clear fk fs
  obtain ⟨Rc0, Rc1, Rc2, Rc3, Rc4⟩ := oR.five
  obtain ⟨Rk0, Rk1, Rk2, Rk3, Rk4⟩ := oR.frozen5
  try simp only []
  try go_at_K
  repeat (first | go_values | go_skip | go_guarded | go_step | go_upon)
  refine bodyPost_ret (v := .agg #[.slice pR qR rR, .bool xR, .slice aR nR cR, .bool yR, .slice dR lR fR]) (by simp [results, Tryz.results12, go_sem, Rc0, Rc1, Rc2, Rc3, Rc4]) rfl ?_
  exact ⟨_, rfl, hR, hbw⟩

theorem atE_shift {a : List (Nat × Int)} {r : Int} {zs : List Int} {x : Int} {co : Int} {b : Bool} {c2 : Int} (hr : Rise a) (h1 : x = atZ a r zs ∧ co = atE a r zs) (h2 : b = hBit (atE a 0 zs) (atZ a 0 zs) (-r) ∧ c2 = atE a 0 zs) (h3 : co = 0) (h4 : c2 = 0) : b = decide (x.sign ≤ 0) := by
  obtain ⟨rfl, rfl⟩ := h1
  obtain ⟨rfl, rfl⟩ := h2
  rw [hBit_is hr h4, at_evl hr h3, decide_eq_decide]
  constructor
  · intro h
    rcases Int.lt_or_eq_of_le (show r + evl a zs ≤ 0 by omega) with k | k
    · rw [Int.sign_eq_neg_one_of_neg k]; decide
    · rw [k]; decide
  · intro h
    apply Classical.byContradiction
    intro k
    rw [Int.sign_eq_one_of_pos (by omega)] at h
    exact absurd h (by decide)

set_option maxRecDepth 20000 in
set_option maxHeartbeats 16000000 in
theorem linearAtMost_any (aX : Option Addr) (nX cX : Nat) (ms : List (Int × ByteArray)) (vo : Option Addr) (vn vc : Nat) (ss : List ByteArray) (w : World) (ht : Tab w) (hm : MArr w aX ms) (hl : ms.length = nX) (hx : nX ≤ maxLen) (hs : SArr w vo ss) (hsn : ss.length = vn) (hvn : vn ≤ maxLen) :
    Calls Tryz.prog 3 #[.slice aX nX cX, .slice vo vn vc] w fun e w' => e = .returned (.bool true) ∧ Below w.heap.size w w' := by
  have HTB : Hid (Tab w) := ht
  have HM : Hid (MArr w aX ms) := hm
  have HLN : Hid (ms.length = nX) := hl
  have HXN : Hid (nX ≤ maxLen) := hx
  have HSA : Hid (SArr w vo ss) := hs
  have HSN : Hid (ss.length = vn) := hsn
  have HVN : Hid (vn ≤ maxLen) := hvn
  clear ht hm hl hs hsn hvn hx
  have hbw := Below.refl w.heap.size w
  go_enter Tryz.func3, Tryz.ntmps3
  go_wp2_with fail
  refine (awake3_any _ (HTB.out.below hbw)).mono ?_
  rintro e w1 ⟨rfl, hb⟩
  replace hbw := hbw.step hb (Nat.le_refl _)
  clear hb
  go_wp2_with fail
  refine (few_any aX nX cX ms _ (HM.out.below hbw) HLN.out HXN.out).mono ?_
  rintro e w2 ⟨aA0, nA0, cA0, rfl, hnA0, hmA0, hb⟩
  replace hbw := hbw.step hb (Nat.le_refl _)
  clear hb
  go_wp2_with fail
  refine (term_any aA0 nA0 cA0 (fewM ms) _ hmA0 hnA0 (by rw [← hnA0]; have := fewM_len ms; unfold maxLen; omega) (fewM_size ms)).mono ?_
  rintro e w3 ⟨_, ps, r, ok, rfl, ⟨pA, qA, rA, xA, aA, nA, cA, rfl, hA⟩, HT, hb⟩
  replace hmA0 := hmA0.below hb
  replace hbw := hbw.step hb (Nat.le_refl _)
  clear hb
  clear hmA0 hnA0
  have hn := below_new w3 (.cells #[.slice pA qA rA, .bool xA, .slice aA nA cA] 30 (0, 0))
  have oA := Blk.new w3 30 #[.slice pA qA rA, .bool xA, .slice aA nA cA]
  have lwA : w.heap.size ≤ w3.heap.size := by have := hbw.size; (try simp at this); omega
  replace hA := hA.below hn
  replace hbw := hbw.step hn (Nat.le_refl _)
  clear hn
  have ltA := oA.lt
  go_wp2_with fail
  refine (values_any vo vn vc ss _ (HSA.out.below hbw) HSN.out HVN.out).mono ?_
  rintro e w4 ⟨a1, c1, a2, c2, k9, rfl, hk9, hA1, hA2, hb⟩
  replace oA := oA.stay hb
  replace ltA := oA.lt
  replace hA := hA.below hb
  replace hbw := hbw.step hb (Nat.le_refl _)
  clear hb
  clear hA2
  have HK9 : Hid ((valZ ss).length = k9) := hk9
  have HK8 : Hid (k9 ≤ 1000) := by show _ ≤ _; rw [← hk9]; exact Nat.le_trans (valZ_len ss) (by decide)
  clear hk9 HT
  cases ok
  · go_wp2
    go_ret
    exact ⟨rfl, hbw⟩
  · have HF : Hid (Rise ps) := hA.fine.1
    obtain ⟨Ac0, Ac1, Ac2⟩ := oA.three
    obtain ⟨Ak0, Ak1, Ak2⟩ := oA.frozen3
    go_wp2_with fail
    refine (at_h _ ps r a1 k9 c1 (valZ ss) _ hA.val HK9.out hA1 HK8.out).mono ?_
    rintro e w5 ⟨xV, aV, nV, cV, z, co, rfl, hV, H1, hb⟩
    clear Ac0 Ac1 Ac2 Ak0 Ak1 Ak2
    replace oA := oA.stay hb
    replace ltA := oA.lt
    replace hA := hA.below hb
    replace hA1 := hA1.below hb
    replace hbw := hbw.step hb (Nat.le_refl _)
    clear hb
    have hn := below_new w5 (.cells #[.bool xV, .slice aV nV cV] 28 (0, 0))
    have oV := Blk.new w5 28 #[.bool xV, .slice aV nV cV]
    have neAV : w3.heap.size ≠ w5.heap.size := by have := ltA; (try simp at this); omega
    have lwV : w.heap.size ≤ w5.heap.size := by have := hbw.size; (try simp at this); omega
    replace oA := oA.stay hn
    replace ltA := oA.lt
    replace hA := hA.below hn
    replace hA1 := hA1.below hn
    replace hV := hV.below hn
    replace hbw := hbw.step hn (Nat.le_refl _)
    clear hn
    have ltV := oV.lt
    obtain ⟨Ac0, Ac1, Ac2⟩ := oA.three
    obtain ⟨Ak0, Ak1, Ak2⟩ := oA.frozen3
    go_wp2_with fail
    refine (atMost_any _ ps r _ hA.val).mono ?_
    rintro e w6 ⟨_, rfl, ⟨pR, qR, rR, xR, aR, nR, cR, yR, dR, lR, fR, rfl, hR, hRm⟩, hb⟩
    clear Ac0 Ac1 Ac2 Ak0 Ak1 Ak2
    replace oA := oA.stay hb
    replace ltA := oA.lt
    replace oV := oV.stay hb
    replace ltV := oV.lt
    replace hA := hA.below hb
    replace hA1 := hA1.below hb
    replace hV := hV.below hb
    replace hbw := hbw.step hb (Nat.le_refl _)
    clear hb
    have hn := below_new w6 (.cells #[.slice pR qR rR, .bool xR, .slice aR nR cR, .bool yR, .slice dR lR fR] 42 (0, 0))
    have oR := Blk.new w6 42 #[.slice pR qR rR, .bool xR, .slice aR nR cR, .bool yR, .slice dR lR fR]
    have neAR : w3.heap.size ≠ w6.heap.size := by have := ltA; (try simp at this); omega
    have neVR : w5.heap.size ≠ w6.heap.size := by have := ltV; (try simp at this); omega
    have lwR : w.heap.size ≤ w6.heap.size := by have := hbw.size; (try simp at this); omega
    replace oA := oA.stay hn
    replace ltA := oA.lt
    replace oV := oV.stay hn
    replace ltV := oV.lt
    replace hA := hA.below hn
    replace hA1 := hA1.below hn
    replace hV := hV.below hn
    replace hR := hR.below hn
    replace hRm := hRm.below hn
    replace hbw := hbw.step hn (Nat.le_refl _)
    clear hn
    have ltR := oR.lt
    obtain ⟨Rc0, Rc1, Rc2, Rc3, Rc4⟩ := oR.five
    obtain ⟨Rk0, Rk1, Rk2, Rk3, Rk4⟩ := oR.frozen5
    go_wp2_with fail
    refine (holds_h _ ps (-r) a1 k9 c1 (valZ ss) _ ⟨_, _, _, _, _, _, _, _, _, _, _, rfl, hR, hRm⟩ HK9.out hA1 HK8.out).mono ?_
    rintro e w7 ⟨b2, e2, rfl, H2, hb⟩
    clear Rc0 Rc1 Rc2 Rc3 Rc4 Rk0 Rk1 Rk2 Rk3 Rk4
    replace oA := oA.stay hb
    replace ltA := oA.lt
    replace oV := oV.stay hb
    replace ltV := oV.lt
    replace oR := oR.stay hb
    replace ltR := oR.lt
    replace hA := hA.below hb
    replace hA1 := hA1.below hb
    replace hV := hV.below hb
    replace hR := hR.below hb
    replace hRm := hRm.below hb
    replace hbw := hbw.step hb (Nat.le_refl _)
    clear hb
    obtain ⟨Rc0, Rc1, Rc2, Rc3, Rc4⟩ := oR.five
    obtain ⟨Rk0, Rk1, Rk2, Rk3, Rk4⟩ := oR.frozen5
    go_wp2_with fail
    refine (lrest_any _ ps 0 _ hR.val).mono ?_
    rintro e w8 ⟨xQ, aQ, nQ, cQ, rfl, hQ, hb⟩
    clear Rc0 Rc1 Rc2 Rc3 Rc4 Rk0 Rk1 Rk2 Rk3 Rk4
    replace oA := oA.stay hb
    replace ltA := oA.lt
    replace oV := oV.stay hb
    replace ltV := oV.lt
    replace oR := oR.stay hb
    replace ltR := oR.lt
    replace hA := hA.below hb
    replace hA1 := hA1.below hb
    replace hV := hV.below hb
    replace hR := hR.below hb
    replace hRm := hRm.below hb
    replace hbw := hbw.step hb (Nat.le_refl _)
    clear hb
    go_wp2_with fail
    refine (sign_h _ 0 _ hQ).mono ?_
    rintro e w9 ⟨rfl, hb⟩
    replace oA := oA.stay hb
    replace ltA := oA.lt
    replace oV := oV.stay hb
    replace ltV := oV.lt
    replace oR := oR.stay hb
    replace ltR := oR.lt
    replace hA := hA.below hb
    replace hA1 := hA1.below hb
    replace hV := hV.below hb
    replace hR := hR.below hb
    replace hRm := hRm.below hb
    replace hQ := hQ.below hb
    replace hbw := hbw.step hb (Nat.le_refl _)
    clear hb
    have f1 : co = 0 → e2 = 0 → b2 = decide (z.sign ≤ 0) := fun h3 h4 => atE_shift HF.out H1.out H2.out h3 h4
    clear H1 H2
    have key : ∀ e : Int, e = 0 ∨ (e != 0) = true := fun e => by by_cases h : e = 0; (exact Or.inl h); (exact Or.inr (bne_iff_ne.2 h))
    rcases key co with rfl | g1
    · rcases key e2 with rfl | g2
      · have f2 := f1 rfl rfl
        subst f2
        clear f1 key
        obtain ⟨Vc0, Vc1, Vk0, Vk1⟩ := oV.two
        go_wp2_with fail
        refine (sign_h _ z _ hV).mono ?_
        rintro e w10 ⟨rfl, hb⟩
        clear Vc0 Vc1 Vk0 Vk1
        replace oA := oA.stay hb
        replace ltA := oA.lt
        replace oV := oV.stay hb
        replace ltV := oV.lt
        replace oR := oR.stay hb
        replace ltR := oR.lt
        replace hA := hA.below hb
        replace hA1 := hA1.below hb
        replace hV := hV.below hb
        replace hR := hR.below hb
        replace hRm := hRm.below hb
        replace hQ := hQ.below hb
        replace hbw := hbw.step hb (Nat.le_refl _)
        clear hb
        go_wp2
        go_ret
        exact ⟨by simp, hbw⟩
      · clear f1 key
        go_wp2
        go_ret
        exact ⟨rfl, hbw⟩
    · clear f1 key
      go_wp2
      go_ret
      exact ⟨rfl, hbw⟩

end Go.Proofs.YteefniagebcagabGreatDoor
