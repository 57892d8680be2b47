/- Contract of suretyref03's Tight; they prove no statement of the seat. -/
import Derived.Test.YteefniagebcagaaGreatDoorRefGJRows
import Derived.Test.YteefniagebcagaaGreatDoorRDivJRows
import Derived.Test.YteefniagebcagaaGreatDoorJoin20Rows
import Derived.Test.YteefniagebcagaaGreatDoorLinZJRows
namespace Go.Proofs.YteefniagebcagaaGreatDoor
open Go.RowKit
set_option linter.unusedVariables false

theorem fdiv_lim {m g : Int} (hg : 0 < g) (hm : m.natAbs < lim) : (m.fdiv g).natAbs < lim := by
  have h : (m.fdiv g).natAbs ≤ m.natAbs := by
    rw [Int.fdiv_eq_ediv_of_nonneg _ (by omega)]
    have h1 := Int.mul_ediv_self_le (x := m) (k := g) (by omega)
    have h2 := Int.lt_mul_ediv_self_add (x := m) (k := g) hg
    generalize m / g = q at h1 h2 ⊢
    rcases Int.lt_or_le q 0 with k | k
    · have h3 := Int.mul_le_mul_of_nonpos_right (show (1 : Int) ≤ g by omega) (show q + 1 ≤ 0 by omega)
      rw [Int.mul_add, Int.mul_one, Int.one_mul] at h3
      omega
    · have h3 := Int.mul_le_mul_of_nonneg_right (show (1 : Int) ≤ g by omega) k
      rw [Int.one_mul] at h3
      omega
  omega
theorem sign_small {g : Int} (h0 : 0 ≤ g) : decide ((g - 1).sign ≤ 0) = decide (g.natAbs < 2) := by
  rw [decide_eq_decide]
  constructor
  · intro h
    apply Classical.byContradiction
    intro k
    rw [Int.sign_eq_one_of_pos (by omega)] at h
    exact absurd h (by decide)
  · intro h
    rcases Int.lt_or_eq_of_le (show g - 1 ≤ 0 by omega) with k | k
    · rw [Int.sign_eq_neg_one_of_neg k]; decide
    · rw [k]; decide
theorem divP_step {a : List (Nat × Int)} {k pv : Nat} {pz g : Int} (hk : k < a.length) (hp : a.getD k (0, 0) = (pv, pz)) : divP (a.take (k + 1)) g = divP (a.take k) g ++ [(pv, pz.fdiv g)] := by
  unfold divP
  rw [take_one hk hp, List.map_append]; rfl
theorem rcmp_s (va vb : Value) (x y r : Int) (L M : Nat) (w : World) (ha : RNum w va x L) (hb : RNum w vb y M) (hL : L ≤ 100000) (hM : M ≤ 100000) (hr : (x - y).sign = r) :
    Calls Tryz.prog 83 #[va, vb] w fun e w' => e = .returned (.int .i64 r) ∧ Below w.heap.size w w' := by
  subst hr
  exact rCmp_any va vb x y L M w ha hb hL hM
theorem rdiv_h (va vb : Value) (x y : Int) (w : World) (ha : RNum w va x 400) (hb : RNum w vb y 400) (hy0 : 0 < y) (hx : x.natAbs < lim) :
    Calls Tryz.prog 84 #[va, vb] w fun e w' => ∃ s a n c s' a' n' c', e = .returned (.tuple #[.agg #[.bool s, .slice a n c], .agg #[.bool s', .slice a' n' c'], .int .i64 0]) ∧ RNum w' (.agg #[.bool s, .slice a n c]) (x.fdiv y) 400 ∧ RNum w' (.agg #[.bool s', .slice a' n' c']) (x.fmod y) 1000 ∧ Below w.heap.size w w' := by
  refine (rDiv_any va vb x y w ha hb (by omega)).mono ?_
  rintro e w' ⟨s, a, n, c, s', a', n', c', rfl, h1, h2, hb⟩
  exact ⟨s, a, n, c, s', a', n', c', rfl, h1.short (fdiv_lim hy0 hx), h2, hb⟩

set_option maxRecDepth 20000 in
set_option maxHeartbeats 16000000 in
theorem rtight_any (vX : Value) (a : List (Nat × Int)) (m : Int) (w : World) (hX : RTermR w vX a m) :
    Calls Tryz.prog 48 #[vX] w fun e w' => ∃ v, e = .returned v ∧ RTermR w' v (tgP a) (tgM a m) ∧ Below w.heap.size w w' := by
  obtain ⟨pX, qX, rX, xX, aX, nX, cX, rfl, hX⟩ := hX
  have ha0 := hX.arr
  have oX := ((Blk.new w 86 #[.slice pX qX rX, .bool xX, .slice aX nX cX]).alloc (.cells #[.slice none 0 0, .bool false, .slice none 0 0] 86 (0, 0)))
  have oR := (Blk.new (w.alloc (.cells #[.slice pX qX rX, .bool xX, .slice aX nX cX] 86 (0, 0))) 86 #[.slice none 0 0, .bool false, .slice none 0 0])
  simp only [World.size_alloc] at oR
  have hbw : Below w.heap.size w ((w.alloc (.cells #[.slice pX qX rX, .bool xX, .slice aX nX cX] 86 (0, 0))).alloc (.cells #[.slice none 0 0, .bool false, .slice none 0 0] 86 (0, 0))) := by go_grown
  replace hX := hX.below hbw
  have ltX := oX.lt
  have lwX : w.heap.size ≤ w.heap.size := by omega
  have ltR := oR.lt
  have lwR : w.heap.size ≤ w.heap.size + 1 := by omega
  go_enter Tryz.func48, Tryz.ntmps48
  have HX : Hid (QArr w pX a) := ha0
  have HLN : Hid (a.length = qX) := hX.len
  have hlen := hX.n_le
  have HFA : Hid (Fine a) := hX.fine
  have HML : Hid (m.natAbs < lim) := hX.rlim
  clear ha0
  obtain ⟨Xc0, Xc1, Xc2⟩ := oX.three
  obtain ⟨Xk0, Xk1, Xk2⟩ := oX.frozen3
  go_wp2_with fail
  refine (rcommon_any pX qX rX a _ hX.arr hX.len hX.fine).mono ?_
  rintro e w1 ⟨xG, aG, nG, cG, rfl, hG, hb⟩
  clear Xc0 Xc1 Xc2 Xk0 Xk1 Xk2
  replace oX := oX.stay hb
  replace ltX := oX.lt
  replace oR := oR.stay hb
  replace ltR := oR.lt
  replace hX := hX.below hb
  replace hbw := hbw.step hb (Nat.le_refl _)
  clear hb
  have hn := below_new w1 (.cells #[.bool xG, .slice aG nG cG] 39 (0, 0))
  have oG := Blk.new w1 39 #[.bool xG, .slice aG nG cG]
  have neXG : w.heap.size ≠ w1.heap.size := by have := ltX; (try simp at this); omega
  have neRG : w.heap.size + 1 ≠ w1.heap.size := by have := ltR; (try simp at this); omega
  have lwG : w.heap.size ≤ w1.heap.size := by have := hbw.size; (try simp at this); omega
  replace oX := oX.stay hn
  replace ltX := oX.lt
  replace oR := oR.stay hn
  replace ltR := oR.lt
  replace hX := hX.below hn
  replace hG := hG.below hn
  replace hbw := hbw.step hn (Nat.le_refl _)
  clear hn
  have ltG := oG.lt
  obtain ⟨gz, hgz⟩ : ∃ g, g = cm a := ⟨_, rfl⟩
  have HGZ : Hid (cm a = gz) := hgz.symm
  have HG0 : Hid (0 ≤ gz) := by show _ ≤ _; rw [hgz]; exact cm_nonneg a
  rw [← hgz] at hG
  clear hgz
  have hsg := sign_small HG0.out
  obtain ⟨sg, hsq⟩ : ∃ sg, sg = (gz - 1).sign := ⟨_, rfl⟩
  have HSQ : Hid ((gz - 1).sign = sg) := hsq.symm
  rw [← hsq] at hsg
  clear hsq
  go_wp2
  by_cases hg : gz.natAbs < 2
  · have HSG : Hid (sg ≤ 0) := show sg ≤ 0 from of_decide_eq_true (by rw [hsg]; exact decide_eq_true hg)
    have HGT : Hid ((cm a).natAbs < 2) := by show _ < _; rw [HGZ.out]; exact hg
    clear hsg hg
    generalize (w1.alloc (.cells #[.bool xG, .slice aG nG cG] 39 (0, 0))) = W1 at hbw oX oR oG ltX ltR ltG hX hG ⊢
    have hbW := hbw
    refine wp_region_M (by kernel_rfl) [12, 13, 14, 15] [none, none, none, none, none, none, none, none, none, none, none, none, some 12, some 13, some 14, some 15] (fun U => by kernel_rfl) (fun L U wr => Below w.heap.size w wr ∧ KeepB W1 wr ∧ W1.heap.size ≤ wr.heap.size ∧ Blk 86 wr (w.heap.size) #[.slice pX qX rX, .bool xX, .slice aX nX cX] ∧ Blk 86 wr (w.heap.size + 1) #[.slice none 0 0, .bool false, .slice none 0 0] ∧ Blk 39 wr (w1.heap.size) #[.bool xG, .slice aG nG cG] ∧ (L 0 = true → IS (.agg #[.bool xG, .slice aG nG cG]) (U 12) wr) ∧ (L 1 = true → RNM 1 20 (U 13) wr) ∧ (L 2 = true → IS (.int .i64 sg) (U 14) wr) ∧ (L 3 = true → IS (.bool true) (U 15) wr)) (by kernel_rfl) ?_ ?_ ?_
    · exact fun U => ⟨hbw.drew, KeepB.below (Below.refl _ _).drew, Nat.le_refl _, oX.drew, oR.drew, oG.drew, (fun h => by cases h), (fun h => by cases h), (fun h => by cases h), (fun h => by cases h)⟩
    · refine StepsU.run rfl ?_ ?_
      · intro L U wr hF hlk haf A K hA hK
        have HA : Hid (A = putAll _ _ U) := hA
        clear hA
        simp [Aft, Region.binds] at haf
        obtain ⟨fb, fk, fs, oX, oR, oG, f0, f1, f2, f3⟩ := hF
        have e3 : A.tmps[3]? = some (.pointer (some ⟨w1.heap.size, 0, none⟩)) := by rw [HA.out]; kernel_rfl
        have c0 := Blk.cell oG 0
        have c1 := Blk.cell oG 1
        simp at c0
        simp at c1
        refine ⟨?_⟩
        go_simp
        refine hK (upd U 12 (.agg #[.bool xG, .slice aG nG cG])) _ _ ?_ ?_
        · rw [HA.out]; kernel_rfl
        · exact ⟨fb, fk, fs, oX, oR, oG, (fun _ => rfl), f1, f2, f3⟩
      refine StepsU.run rfl ?_ ?_
      · intro L U wr hF hlk haf A K hA hK
        have HA : Hid (A = putAll _ _ U) := hA
        clear hA
        simp [Aft, Region.binds] at haf
        obtain ⟨fb, fk, fs, oX, oR, oG, f0, f1, f2, f3⟩ := hF
        refine ⟨?_⟩
        go_simp
        refine (rfrom_any 1 _ (by decide) (by decide)).mono ?_
        rintro e w1 ⟨u1, u2, u3, u4, rfl, hr, hb⟩
        go_simp
        refine hK (upd U 13 (.agg #[.bool u1, .slice u2 u3 u4])) _ _ ?_ ?_
        · rw [HA.out]; kernel_rfl
        · exact ⟨(fb.step hb (Nat.le_refl _)), (fk.trans (KeepB.below hb)), (Nat.le_trans fs hb.size), (oX.stay hb), (oR.stay hb), (oG.stay hb), (mvB mb_is (KeepB.below hb) f0), (fun _ => hr), (mvB mb_is (KeepB.below hb) f2), (mvB mb_is (KeepB.below hb) f3)⟩
      refine StepsU.run rfl ?_ ?_
      · intro L U wr hF hlk haf A K hA hK
        have HA : Hid (A = putAll _ _ U) := hA
        clear hA
        simp [Aft, Region.binds] at haf
        obtain ⟨fb, fk, fs, oX, oR, oG, f0, f1, f2, f3⟩ := hF
        have g0 := f0 (by simp [haf])
        have e12 := rd HA.out 12 (by kernel_rfl) g0
        have g1 := f1 (by simp [haf])
        have e13 := rd HA.out 13 (by kernel_rfl) rfl
        refine ⟨?_⟩
        go_simp
        refine (rcmp_s _ _ gz 1 sg 400 20 _ (hG.below fk.b) g1 (by decide) (by decide) HSQ.out).mono ?_
        rintro e w1 ⟨rfl, hb⟩
        go_simp
        refine hK (upd U 14 (.int .i64 sg)) _ _ ?_ ?_
        · rw [HA.out]; kernel_rfl
        · exact ⟨(fb.step hb (Nat.le_refl _)), (fk.trans (KeepB.below hb)), (Nat.le_trans fs hb.size), (oX.stay hb), (oR.stay hb), (oG.stay hb), (mvB mb_is (KeepB.below hb) f0), (mvB mb_rnm (KeepB.below hb) f1), (fun _ => rfl), (mvB mb_is (KeepB.below hb) f3)⟩
      refine StepsU.run rfl ?_ StepsU.nil
      · intro L U wr hF hlk haf A K hA hK
        have HA : Hid (A = putAll _ _ U) := hA
        clear hA
        simp [Aft, Region.binds] at haf
        obtain ⟨fb, fk, fs, oX, oR, oG, f0, f1, f2, f3⟩ := hF
        have g2 := f2 (by simp [haf])
        have hsg2 := HSG.out
        have e14 := rd HA.out 14 (by kernel_rfl) g2
        refine ⟨?_⟩
        go_simp
        refine hK (upd U 15 (.bool true)) _ _ ?_ ?_
        · rw [HA.out]; kernel_rfl
        · exact ⟨fb, fk, fs, oX, oR, oG, f0, f1, f2, (fun _ => rfl)⟩
    clear hbw oX oR oG
    intro L U2 V2 hall hF
    obtain ⟨hbw, fk, fs, oX, oR, oG, f0, f1, f2, f3⟩ := hF
    have g0 := f0 (hall 0 (by decide))
    have g1 := f1 (hall 1 (by decide))
    have g2 := f2 (hall 2 (by decide))
    have g3 := f3 (hall 3 (by decide))
    clear hall f0 f1 f2 f3
    replace hX := hX.below fk.b
    replace hG := hG.below fk.b
    replace ltX := oX.lt
    replace ltR := oR.lt
    replace ltG := oG.lt
    try clear g0
    try clear g1
    try clear g2
    clear hbW
    simp only [setM_some, setM_none, setM_nil]
    clear fk fs
    have e15 : U2 15 = _ := g3
    rw [e15]
    clear g3 e15
    obtain ⟨Rc0, Rc1, Rc2⟩ := oR.three
    obtain ⟨Rk0, Rk1, Rk2⟩ := oR.frozen3
    obtain ⟨Xc0, Xc1, Xc2⟩ := oX.three
    obtain ⟨Xk0, Xk1, Xk2⟩ := oX.frozen3
    try simp only []
    try go_at_K
    repeat (first | go_values | go_skip | go_guarded | go_step | go_upon)
    refine bodyPost_ret (v := .agg #[.slice pX qX rX, .bool xX, .slice aX nX cX]) (by simp [results, Tryz.results48, go_sem, Rc0, Rc1, Rc2]) rfl ?_
    obtain ⟨K1, B1, _⟩ := resTq (by decide) (by decide) oR hbw lwR pX qX rX xX aX nX cX
    rw [show tgP a = a from if_pos HGT.out, show tgM a m = m from if_pos HGT.out]
    exact ⟨_, rfl, (hX.keepQ K1).val, B1⟩
  · have HSG : Hid (¬ sg ≤ 0) := show ¬ sg ≤ 0 from of_decide_eq_false (by rw [hsg]; exact decide_eq_false hg)
    have HGT : Hid (¬ (cm a).natAbs < 2) := by show ¬ _; rw [HGZ.out]; exact hg
    have HGN : Hid (0 < gz) := by have := HG0.out; show _ < _; omega
    clear hsg hg
    generalize (w1.alloc (.cells #[.bool xG, .slice aG nG cG] 39 (0, 0))) = W1 at hbw oX oR oG ltX ltR ltG hX hG ⊢
    have hbW := hbw
    refine wp_region_M (by kernel_rfl) [12, 13, 14, 15] [none, none, none, none, none, none, none, none, none, none, none, none, some 12, some 13, some 14, some 15] (fun U => by kernel_rfl) (fun L U wr => Below w.heap.size w wr ∧ KeepB W1 wr ∧ W1.heap.size ≤ wr.heap.size ∧ Blk 86 wr (w.heap.size) #[.slice pX qX rX, .bool xX, .slice aX nX cX] ∧ Blk 86 wr (w.heap.size + 1) #[.slice none 0 0, .bool false, .slice none 0 0] ∧ Blk 39 wr (w1.heap.size) #[.bool xG, .slice aG nG cG] ∧ (L 0 = true → IS (.agg #[.bool xG, .slice aG nG cG]) (U 12) wr) ∧ (L 1 = true → RNM 1 20 (U 13) wr) ∧ (L 2 = true → IS (.int .i64 sg) (U 14) wr) ∧ (L 3 = true → IS (.bool false) (U 15) wr)) (by kernel_rfl) ?_ ?_ ?_
    · exact fun U => ⟨hbw.drew, KeepB.below (Below.refl _ _).drew, Nat.le_refl _, oX.drew, oR.drew, oG.drew, (fun h => by cases h), (fun h => by cases h), (fun h => by cases h), (fun h => by cases h)⟩
    · refine StepsU.run rfl ?_ ?_
      · intro L U wr hF hlk haf A K hA hK
        have HA : Hid (A = putAll _ _ U) := hA
        clear hA
        simp [Aft, Region.binds] at haf
        obtain ⟨fb, fk, fs, oX, oR, oG, f0, f1, f2, f3⟩ := hF
        have e3 : A.tmps[3]? = some (.pointer (some ⟨w1.heap.size, 0, none⟩)) := by rw [HA.out]; kernel_rfl
        have c0 := Blk.cell oG 0
        have c1 := Blk.cell oG 1
        simp at c0
        simp at c1
        refine ⟨?_⟩
        go_simp
        refine hK (upd U 12 (.agg #[.bool xG, .slice aG nG cG])) _ _ ?_ ?_
        · rw [HA.out]; kernel_rfl
        · exact ⟨fb, fk, fs, oX, oR, oG, (fun _ => rfl), f1, f2, f3⟩
      refine StepsU.run rfl ?_ ?_
      · intro L U wr hF hlk haf A K hA hK
        have HA : Hid (A = putAll _ _ U) := hA
        clear hA
        simp [Aft, Region.binds] at haf
        obtain ⟨fb, fk, fs, oX, oR, oG, f0, f1, f2, f3⟩ := hF
        refine ⟨?_⟩
        go_simp
        refine (rfrom_any 1 _ (by decide) (by decide)).mono ?_
        rintro e w1 ⟨u1, u2, u3, u4, rfl, hr, hb⟩
        go_simp
        refine hK (upd U 13 (.agg #[.bool u1, .slice u2 u3 u4])) _ _ ?_ ?_
        · rw [HA.out]; kernel_rfl
        · exact ⟨(fb.step hb (Nat.le_refl _)), (fk.trans (KeepB.below hb)), (Nat.le_trans fs hb.size), (oX.stay hb), (oR.stay hb), (oG.stay hb), (mvB mb_is (KeepB.below hb) f0), (fun _ => hr), (mvB mb_is (KeepB.below hb) f2), (mvB mb_is (KeepB.below hb) f3)⟩
      refine StepsU.run rfl ?_ ?_
      · intro L U wr hF hlk haf A K hA hK
        have HA : Hid (A = putAll _ _ U) := hA
        clear hA
        simp [Aft, Region.binds] at haf
        obtain ⟨fb, fk, fs, oX, oR, oG, f0, f1, f2, f3⟩ := hF
        have g0 := f0 (by simp [haf])
        have e12 := rd HA.out 12 (by kernel_rfl) g0
        have g1 := f1 (by simp [haf])
        have e13 := rd HA.out 13 (by kernel_rfl) rfl
        refine ⟨?_⟩
        go_simp
        refine (rcmp_s _ _ gz 1 sg 400 20 _ (hG.below fk.b) g1 (by decide) (by decide) HSQ.out).mono ?_
        rintro e w1 ⟨rfl, hb⟩
        go_simp
        refine hK (upd U 14 (.int .i64 sg)) _ _ ?_ ?_
        · rw [HA.out]; kernel_rfl
        · exact ⟨(fb.step hb (Nat.le_refl _)), (fk.trans (KeepB.below hb)), (Nat.le_trans fs hb.size), (oX.stay hb), (oR.stay hb), (oG.stay hb), (mvB mb_is (KeepB.below hb) f0), (mvB mb_rnm (KeepB.below hb) f1), (fun _ => rfl), (mvB mb_is (KeepB.below hb) f3)⟩
      refine StepsU.run rfl ?_ StepsU.nil
      · intro L U wr hF hlk haf A K hA hK
        have HA : Hid (A = putAll _ _ U) := hA
        clear hA
        simp [Aft, Region.binds] at haf
        obtain ⟨fb, fk, fs, oX, oR, oG, f0, f1, f2, f3⟩ := hF
        have g2 := f2 (by simp [haf])
        have hsg2 := HSG.out
        have e14 := rd HA.out 14 (by kernel_rfl) g2
        refine ⟨?_⟩
        go_simp
        refine hK (upd U 15 (.bool false)) _ _ ?_ ?_
        · rw [HA.out]; kernel_rfl
        · exact ⟨fb, fk, fs, oX, oR, oG, f0, f1, f2, (fun _ => rfl)⟩
    clear hbw oX oR oG
    intro L U2 V2 hall hF
    obtain ⟨hbw, fk, fs, oX, oR, oG, f0, f1, f2, f3⟩ := hF
    have g0 := f0 (hall 0 (by decide))
    have g1 := f1 (hall 1 (by decide))
    have g2 := f2 (hall 2 (by decide))
    have g3 := f3 (hall 3 (by decide))
    clear hall f0 f1 f2 f3
    replace hX := hX.below fk.b
    replace hG := hG.below fk.b
    replace ltX := oX.lt
    replace ltR := oR.lt
    replace ltG := oG.lt
    try clear g0
    try clear g1
    try clear g2
    clear hbW
    simp only [setM_some, setM_none, setM_nil]
    clear fk fs
    have e15 : U2 15 = _ := g3
    rw [e15]
    clear g3 e15
    have hn := below_new V2 (.cells #[.slice none 0 0, .bool false, .slice none 0 0] 86 (0, 0))
    have oO := Blk.new V2 86 #[.slice none 0 0, .bool false, .slice none 0 0]
    have neXO : w.heap.size ≠ V2.heap.size := by have := ltX; (try simp at this); omega
    have neRO : w.heap.size + 1 ≠ V2.heap.size := by have := ltR; (try simp at this); omega
    have neGO : w1.heap.size ≠ V2.heap.size := by have := ltG; (try simp at this); omega
    have lwO : w.heap.size ≤ V2.heap.size := by have := hbw.size; (try simp at this); omega
    replace oX := oX.stay hn
    replace ltX := oX.lt
    replace oR := oR.stay hn
    replace ltR := oR.lt
    replace oG := oG.stay hn
    replace ltG := oG.lt
    replace hX := hX.below hn
    replace hG := hG.below hn
    replace hbw := hbw.step hn (Nat.le_refl _)
    clear hn
    have ltO := oO.lt
    obtain ⟨Xc0, Xc1, Xc2⟩ := oX.three
    obtain ⟨Xk0, Xk1, Xk2⟩ := oX.frozen3
    obtain ⟨Gc0, Gc1, Gk0, Gk1⟩ := oG.two
    obtain ⟨Oc0, Oc1, Oc2⟩ := oO.three
    obtain ⟨Ok0, Ok1, Ok2⟩ := oO.frozen3
    go_wp2_with fail
    refine (rdiv_h _ _ m gz _ hX.rest hG HGN.out HML.out).mono ?_
    rintro e w3 ⟨xO, aO, nO, cO, x9, a9, n9, c9, rfl, hN, hN9, hb⟩
    clear Xc0 Xc1 Xc2 Xk0 Xk1 Xk2
    clear Gc0 Gc1 Gk0 Gk1
    clear Oc0 Oc1 Oc2 Ok0 Ok1 Ok2
    replace oX := oX.stay hb
    replace ltX := oX.lt
    replace oR := oR.stay hb
    replace ltR := oR.lt
    replace oG := oG.stay hb
    replace ltG := oG.lt
    replace oO := oO.stay hb
    replace ltO := oO.lt
    replace hX := hX.below hb
    replace hG := hG.below hb
    replace hbw := hbw.step hb (Nat.le_refl _)
    clear hb
    clear hN9
    obtain ⟨bO, hbO⟩ : ∃ b, b = V2.heap.size := ⟨_, rfl⟩
    rw [← hbO] at oO neXO neRO neGO lwO ltO
    have hK := keepQ_stores (by decide) (by decide) [.bool xO, .slice aO nO cO] 1 oO (nuT _ _ _ _ _ _ _) (nuI _ _ _ _)
    have hB9 := below_stores lwO [.bool xO, .slice aO nO cO] 1 hbw
    have oO2 : Blk 86 (stores w3 bO 1 [.bool xO, .slice aO nO cO]) bO #[.slice none 0 0, .bool xO, .slice aO nO cO] := Blk.overS [.bool xO, .slice aO nO cO] 1 oO rfl
    have oX2 := oX.otherS (Ne.symm neXO) 1 [.bool xO, .slice aO nO cO]
    have oR2 := oR.otherS (Ne.symm neRO) 1 [.bool xO, .slice aO nO cO]
    have oG2 := oG.otherS (Ne.symm neGO) 1 [.bool xO, .slice aO nO cO]
    have hN2 := hN.keepQ hK
    have hG2 := hG.keepQ hK
    obtain ⟨Xc0, Xc1, Xc2⟩ := Blk.three (show Blk _ ((w3.setCell ⟨bO, 1, none⟩ (.bool xO)).setCell ⟨bO, 2, none⟩ (.slice aO nO cO)) _ _ from oX2)
    obtain ⟨Oc0, Oc1, Oc2⟩ := oO.three
    obtain ⟨Ok0, Ok1, Ok2⟩ := oO.frozen3
    rw [hbO] at Oc0 Oc1 Oc2 Ok0 Ok1 Ok2 Xc0 Xc1 Xc2
    go_wp2
    rw [← hbO]
    clear hbO Oc0 Oc1 Oc2 Ok0 Ok1 Ok2 Xc0 Xc1 Xc2
    go_loopw [5] (fun i wl => ∃ (k : Nat) (u0 : Value) (xs : List Value), k ≤ qX ∧ i = .int .i64 k ∧ Blk 86 wl w.heap.size #[.slice pX qX rX, .bool xX, .slice aX nX cX] ∧ Blk 86 wl (w.heap.size + 1) #[.slice none 0 0, .bool false, .slice none 0 0] ∧ Blk 39 wl (w1.heap.size) #[.bool xG, .slice aG nG cG] ∧ Blk 86 wl bO #[u0, .bool xO, .slice aO nO cO] ∧ LstG 3 70 w.heap.size wl u0 k xs ∧ ElsQ wl xs (divP (a.take k) gz) ∧ RNum wl (.agg #[.bool xO, .slice aO nO cO]) (m.fdiv gz) 400 ∧ RNum wl (.agg #[.bool xG, .slice aG nG cG]) gz 400 ∧ Below w.heap.size w wl) (fun i _ => qX - (intOf i).toNat)
    case atStart => exact ⟨0, _, [], Nat.zero_le _, rfl, oX2, oR2, oG2, oO2, LstG.nil _ _ _ _, ElsQ.nil _, hN2, hG2, hB9⟩
    case round =>
      rename World => wl
      clear oX oR oO oG oX2 oR2 oO2 oG2 hK hB9 hN2 hG2 hbw hX hG hN ltX ltR ltO ltG
      obtain ⟨k, u0, xs, hk, h8, oX, oR, oG, oO, hL, hE, hN, hG, hbw⟩ := hrel
      subst h8
      have ltX := oX.lt
      have ltR := oR.lt
      have ltG := oG.lt
      have ltO := oO.lt
      obtain ⟨ao0, m0, cap0, rfl⟩ := LstG.isSlice hL
      obtain ⟨bG, hbG⟩ : ∃ b, b = w1.heap.size := ⟨_, rfl⟩
      rw [← hbG] at oG ltG neXG neRG neGO lwG ⊢
      clear hbG
      by_cases h0 : k < qX
      have HXL : Hid (xs.length = k * 3) := hL.1
      · obtain ⟨gE, oE, sE, aE, mE, cE, had, k1, k2, k3, k4⟩ := HX.out.at k (by rw [HLN.out]; exact h0)
        subst had
        obtain ⟨pv, hpv⟩ : ∃ x9, x9 = (a.getD k (0, 0)).1 := ⟨_, rfl⟩
        obtain ⟨pz, hpz⟩ : ∃ x9, x9 = (a.getD k (0, 0)).2 := ⟨_, rfl⟩
        rw [← hpv] at k1
        rw [← hpz] at k4
        have HPV : Hid (a.getD k (0, 0) = (pv, pz)) := by show _ = _; rw [hpv, hpz]
        clear hpv hpz
        have HPF : Hid (pz ≠ 0 ∧ pz.natAbs < lim ∧ pv < 4096) := HFA.out.at (by rw [HLN.out]; exact h0) HPV.out
        obtain ⟨Xc0, Xc1, Xc2⟩ := oX.three
        obtain ⟨Xk0, Xk1, Xk2⟩ := oX.frozen3
        go_wp2
        clear Xc0 Xc1 Xc2 Xk0 Xk1 Xk2
        have hbW := hbw
        refine wp_region_M (by kernel_rfl) [6, 7, 8, 34, 35, 36, 37, 38, 39, 40, 41, 42, 43, 44, 45] [none, none, none, none, none, none, some 6, some 7, some 8, none, none, none, none, none, none, none, none, none, none, none, none, none, none, none, none, none, none, none, none, none, none, none, none, none, some 34, some 35, some 36, some 37, some 38, some 39, some 40, some 41, some 42, some 43, some 44, some 45] (fun U => by kernel_rfl) (fun L U wr => Below w.heap.size w wr ∧ KeepQ wl wr ∧ wl.heap.size ≤ wr.heap.size ∧ Blk 86 wr (w.heap.size) #[.slice (some ⟨gE, oE, none⟩) qX rX, .bool xX, .slice aX nX cX] ∧ Blk 86 wr (w.heap.size + 1) #[.slice none 0 0, .bool false, .slice none 0 0] ∧ Blk 39 wr (bG) #[.bool xG, .slice aG nG cG] ∧ Blk 86 wr (bO) #[.slice ao0 m0 cap0, .bool xO, .slice aO nO cO] ∧ (L 0 = true → IS (.pointer (some ⟨w.heap.size, 0, none⟩)) (U 35) wr) ∧ (L 1 = true → IS (.slice (some ⟨gE, oE, none⟩) qX rX) (U 36) wr) ∧ (L 2 = true → IS (.int .i64 k) (U 37) wr) ∧ (L 3 = true → IS (.pointer (some ⟨gE, oE + k * 3, none⟩)) (U 38) wr) ∧ (L 4 = true → IS (.pointer (some ⟨gE, oE + k * 3 + 1, none⟩)) (U 39) wr) ∧ (L 5 = true → IS (.agg #[.bool sE, .slice aE mE cE]) (U 40) wr) ∧ (L 6 = true → IS (.agg #[.bool xG, .slice aG nG cG]) (U 41) wr) ∧ (L 7 = true → T3 (RNM (pz.fdiv gz) 400) (RNM (pz.fmod gz) 1000) (IS (.int .i64 0)) (U 42) wr) ∧ (L 8 = true → T3 (RNM (pz.fdiv gz) 400) (RNM (pz.fmod gz) 1000) (IS (.int .i64 0)) (U 34) wr) ∧ (L 9 = true → RNM (pz.fdiv gz) 400 (U 43) wr) ∧ (L 10 = true → RNM (pz.fmod gz) 1000 (U 44) wr) ∧ (L 11 = true → IS (.int .i64 0) (U 45) wr) ∧ (L 12 = true → NEWU 39 wl.heap.size wr (U 6) (bif L 14 then U 43 else .agg #[.bool false, .slice none 0 0])) ∧ (L 13 = true → NEWU 39 wl.heap.size wr (U 7) (bif L 15 then U 44 else .agg #[.bool false, .slice none 0 0])) ∧ (L 16 = true → IS (.int .i64 0) (U 8) wr) ∧ (L 14 = true → L 9 = true) ∧ (L 15 = true → L 10 = true) ∧ (L 14 = true → L 12 = true) ∧ (L 15 = true → L 13 = true) ∧ (L 12 = true → L 13 = true → U 6 ≠ U 7)) (by kernel_rfl) ?_ ?_ ?_
        · exact fun U => ⟨hbw.drew, KeepQ.below (Below.refl _ _).drew, Nat.le_refl _, oX.drew, oR.drew, oG.drew, oO.drew, (fun h => by cases h), (fun h => by cases h), (fun h => by cases h), (fun h => by cases h), (fun h => by cases h), (fun h => by cases h), (fun h => by cases h), (fun h => by cases h), (fun h => by cases h), (fun h => by cases h), (fun h => by cases h), (fun h => by cases h), (fun h => by cases h), (fun h => by cases h), (fun h => by cases h), (fun h => by cases h), (fun h => by cases h), (fun h => by cases h), (fun h => by cases h), (fun h => by cases h)⟩
        · refine StepsU.run rfl ?_ ?_
          · intro L U wr hF hlk haf A K hA hK
            have HA : Hid (A = putAll _ _ U) := hA
            clear hA
            simp [Aft, Region.binds] at haf
            obtain ⟨fb, fk, fs, oX, oR, oG, oO, f0, f1, f2, f3, f4, f5, f6, f7, f8, f9, f10, f11, f12, f13, f16, s14, s15, m12, m13, d12_13⟩ := hF
            have e1 : A.tmps[1]? = some (.pointer (some ⟨w.heap.size, 0, none⟩)) := by rw [HA.out]; kernel_rfl
            refine ⟨?_⟩
            go_simp
            refine hK (upd U 35 (.pointer (some ⟨w.heap.size, 0, none⟩))) _ _ ?_ ?_
            · rw [HA.out]; kernel_rfl
            · exact ⟨fb, fk, fs, oX, oR, oG, oO, (fun _ => rfl), f1, f2, f3, f4, f5, f6, f7, f8, f9, f10, f11, f12, f13, f16, s14, s15, m12, m13, d12_13⟩
          refine StepsU.run rfl ?_ ?_
          · intro L U wr hF hlk haf A K hA hK
            have HA : Hid (A = putAll _ _ U) := hA
            clear hA
            simp [Aft, Region.binds] at haf
            obtain ⟨fb, fk, fs, oX, oR, oG, oO, f0, f1, f2, f3, f4, f5, f6, f7, f8, f9, f10, f11, f12, f13, f16, s14, s15, m12, m13, d12_13⟩ := hF
            have g0 := f0 (by simp [haf])
            have e35 := rd HA.out 35 (by kernel_rfl) g0
            have c0 := Blk.cell oX 0
            simp at c0
            refine ⟨?_⟩
            go_simp
            refine hK (upd U 36 (.slice (some ⟨gE, oE, none⟩) qX rX)) _ _ ?_ ?_
            · rw [HA.out]; kernel_rfl
            · exact ⟨fb, fk, fs, oX, oR, oG, oO, f0, (fun _ => rfl), f2, f3, f4, f5, f6, f7, f8, f9, f10, f11, f12, f13, f16, s14, s15, m12, m13, d12_13⟩
          refine StepsU.run rfl ?_ ?_
          · intro L U wr hF hlk haf A K hA hK
            have HA : Hid (A = putAll _ _ U) := hA
            clear hA
            simp [Aft, Region.binds] at haf
            obtain ⟨fb, fk, fs, oX, oR, oG, oO, f0, f1, f2, f3, f4, f5, f6, f7, f8, f9, f10, f11, f12, f13, f16, s14, s15, m12, m13, d12_13⟩ := hF
            have e5 : A.tmps[5]? = some (.int .i64 k) := by rw [HA.out]; kernel_rfl
            refine ⟨?_⟩
            go_simp
            refine hK (upd U 37 (.int .i64 k)) _ _ ?_ ?_
            · rw [HA.out]; kernel_rfl
            · exact ⟨fb, fk, fs, oX, oR, oG, oO, f0, f1, (fun _ => rfl), f3, f4, f5, f6, f7, f8, f9, f10, f11, f12, f13, f16, s14, s15, m12, m13, d12_13⟩
          refine StepsU.run rfl ?_ ?_
          · intro L U wr hF hlk haf A K hA hK
            have HA : Hid (A = putAll _ _ U) := hA
            clear hA
            simp [Aft, Region.binds] at haf
            obtain ⟨fb, fk, fs, oX, oR, oG, oO, f0, f1, f2, f3, f4, f5, f6, f7, f8, f9, f10, f11, f12, f13, f16, s14, s15, m12, m13, d12_13⟩ := hF
            have g1 := f1 (by simp [haf])
            have g2 := f2 (by simp [haf])
            have e36 := rd HA.out 36 (by kernel_rfl) g1
            have e37 := rd HA.out 37 (by kernel_rfl) g2
            refine ⟨?_⟩
            go_simp
            refine hK (upd U 38 (.pointer (some ⟨gE, oE + k * 3, none⟩))) _ _ ?_ ?_
            · rw [HA.out]; kernel_rfl
            · exact ⟨fb, fk, fs, oX, oR, oG, oO, f0, f1, f2, (fun _ => rfl), f4, f5, f6, f7, f8, f9, f10, f11, f12, f13, f16, s14, s15, m12, m13, d12_13⟩
          refine StepsU.run rfl ?_ ?_
          · intro L U wr hF hlk haf A K hA hK
            have HA : Hid (A = putAll _ _ U) := hA
            clear hA
            simp [Aft, Region.binds] at haf
            obtain ⟨fb, fk, fs, oX, oR, oG, oO, f0, f1, f2, f3, f4, f5, f6, f7, f8, f9, f10, f11, f12, f13, f16, s14, s15, m12, m13, d12_13⟩ := hF
            have g3 := f3 (by simp [haf])
            have e38 := rd HA.out 38 (by kernel_rfl) g3
            refine ⟨?_⟩
            go_simp
            refine hK (upd U 39 (.pointer (some ⟨gE, oE + k * 3 + 1, none⟩))) _ _ ?_ ?_
            · rw [HA.out]; kernel_rfl
            · exact ⟨fb, fk, fs, oX, oR, oG, oO, f0, f1, f2, f3, (fun _ => rfl), f5, f6, f7, f8, f9, f10, f11, f12, f13, f16, s14, s15, m12, m13, d12_13⟩
          refine StepsU.run rfl ?_ ?_
          · intro L U wr hF hlk haf A K hA hK
            have HA : Hid (A = putAll _ _ U) := hA
            clear hA
            simp [Aft, Region.binds] at haf
            obtain ⟨fb, fk, fs, oX, oR, oG, oO, f0, f1, f2, f3, f4, f5, f6, f7, f8, f9, f10, f11, f12, f13, f16, s14, s15, m12, m13, d12_13⟩ := hF
            have g4 := f4 (by simp [haf])
            have kA1 := (fb.cell (p := ⟨gE, oE + k * 3 + 1, none⟩) (World.block_lt_of_cell? w _ k2)).trans k2
            have kA2 := (fb.cell (p := ⟨gE, oE + k * 3 + 2, none⟩) (World.block_lt_of_cell? w _ k3)).trans k3
            have e39 := rd HA.out 39 (by kernel_rfl) g4
            refine ⟨?_⟩
            go_simp
            refine hK (upd U 40 (.agg #[.bool sE, .slice aE mE cE])) _ _ ?_ ?_
            · rw [HA.out]; kernel_rfl
            · exact ⟨fb, fk, fs, oX, oR, oG, oO, f0, f1, f2, f3, f4, (fun _ => rfl), f6, f7, f8, f9, f10, f11, f12, f13, f16, s14, s15, m12, m13, d12_13⟩
          refine StepsU.run rfl ?_ ?_
          · intro L U wr hF hlk haf A K hA hK
            have HA : Hid (A = putAll _ _ U) := hA
            clear hA
            simp [Aft, Region.binds] at haf
            obtain ⟨fb, fk, fs, oX, oR, oG, oO, f0, f1, f2, f3, f4, f5, f6, f7, f8, f9, f10, f11, f12, f13, f16, s14, s15, m12, m13, d12_13⟩ := hF
            have e3 : A.tmps[3]? = some (.pointer (some ⟨bG, 0, none⟩)) := by rw [HA.out]; kernel_rfl
            have c0 := Blk.cell oG 0
            have c1 := Blk.cell oG 1
            simp at c0
            simp at c1
            refine ⟨?_⟩
            go_simp
            refine hK (upd U 41 (.agg #[.bool xG, .slice aG nG cG])) _ _ ?_ ?_
            · rw [HA.out]; kernel_rfl
            · exact ⟨fb, fk, fs, oX, oR, oG, oO, f0, f1, f2, f3, f4, f5, (fun _ => rfl), f7, f8, f9, f10, f11, f12, f13, f16, s14, s15, m12, m13, d12_13⟩
          refine StepsU.run rfl ?_ ?_
          · intro L U wr hF hlk haf A K hA hK
            have HA : Hid (A = putAll _ _ U) := hA
            clear hA
            simp [Aft, Region.binds] at haf
            obtain ⟨fb, fk, fs, oX, oR, oG, oO, f0, f1, f2, f3, f4, f5, f6, f7, f8, f9, f10, f11, f12, f13, f16, s14, s15, m12, m13, d12_13⟩ := hF
            have g5 := f5 (by simp [haf])
            have e40 := rd HA.out 40 (by kernel_rfl) g5
            have g6 := f6 (by simp [haf])
            have e41 := rd HA.out 41 (by kernel_rfl) g6
            refine ⟨?_⟩
            go_simp
            refine (rdiv_h _ _ pz gz _ ((k4.short HPF.out.2.1).below fb) (hG.keepQ fk) HGN.out HPF.out.2.1).mono ?_
            rintro e w1 ⟨u1, u2, u3, u4, u5, u6, u7, u8, rfl, hr, hr2, hb⟩
            go_simp
            refine hK (upd U 42 (.tuple #[.agg #[.bool u1, .slice u2 u3 u4], .agg #[.bool u5, .slice u6 u7 u8], .int .i64 0])) _ _ ?_ ?_
            · rw [HA.out]; kernel_rfl
            · exact ⟨(fb.step hb (Nat.le_refl _)), (fk.trans (KeepQ.below hb)), (Nat.le_trans fs hb.size), (oX.stay hb), (oR.stay hb), (oG.stay hb), (oO.stay hb), (mvQ mq_is (KeepQ.below hb) f0), (mvQ mq_is (KeepQ.below hb) f1), (mvQ mq_is (KeepQ.below hb) f2), (mvQ mq_is (KeepQ.below hb) f3), (mvQ mq_is (KeepQ.below hb) f4), (mvQ mq_is (KeepQ.below hb) f5), (mvQ mq_is (KeepQ.below hb) f6), (fun _ => ⟨_, _, _, rfl, hr, hr2, rfl⟩), (mvQ (mq_t3 mq_rnm mq_rnm mq_is) (KeepQ.below hb) f8), (mvQ mq_rnm (KeepQ.below hb) f9), (mvQ mq_rnm (KeepQ.below hb) f10), (mvQ mq_is (KeepQ.below hb) f11), (fun h => (f12 h).below hb), (fun h => (f13 h).below hb), (mvQ mq_is (KeepQ.below hb) f16), s14, s15, m12, m13, d12_13⟩
          refine StepsU.run rfl ?_ ?_
          · intro L U wr hF hlk haf A K hA hK
            have HA : Hid (A = putAll _ _ U) := hA
            clear hA
            simp [Aft, Region.binds] at haf
            obtain ⟨fb, fk, fs, oX, oR, oG, oO, f0, f1, f2, f3, f4, f5, f6, f7, f8, f9, f10, f11, f12, f13, f16, s14, s15, m12, m13, d12_13⟩ := hF
            have g7 := f7 (by simp [haf])
            have e42 := rd HA.out 42 (by kernel_rfl) rfl
            refine ⟨?_⟩
            go_simp
            refine hK (upd U 34 (U 42)) _ _ ?_ ?_
            · rw [HA.out]; kernel_rfl
            · exact ⟨fb, fk, fs, oX, oR, oG, oO, f0, f1, f2, f3, f4, f5, f6, f7, (fun _ => g7), f9, f10, f11, f12, f13, f16, s14, s15, m12, m13, d12_13⟩
          refine StepsU.run rfl ?_ ?_
          · intro L U wr hF hlk haf A K hA hK
            have HA : Hid (A = putAll _ _ U) := hA
            clear hA
            simp [Aft, Region.binds] at haf
            obtain ⟨fb, fk, fs, oX, oR, oG, oO, f0, f1, f2, f3, f4, f5, f6, f7, f8, f9, f10, f11, f12, f13, f16, s14, s15, m12, m13, d12_13⟩ := hF
            have g8 := f8 (by simp [haf])
            obtain ⟨t0, t1, t2, hT, k0, k1, k2⟩ := g8
            have e34 := rd HA.out 34 (by kernel_rfl) hT
            refine ⟨?_⟩
            go_simp
            have hs14 : L 14 = false := by cases h : L 14 with | false => rfl | true => rw [s14 h] at hlk; cases hlk
            refine hK (upd U 43 t0) _ _ ?_ ?_
            · rw [HA.out]; kernel_rfl
            · exact ⟨fb, fk, fs, oX, oR, oG, oO, f0, f1, f2, f3, f4, f5, f6, f7, f8, (fun _ => k0), f10, f11, (fun h => flip_v (P := fun v => NEWU _ _ _ _ v) hs14 (f12 h)), f13, f16, (fun _ => rfl), s15, m12, m13, d12_13⟩
          refine StepsU.run rfl ?_ ?_
          · intro L U wr hF hlk haf A K hA hK
            have HA : Hid (A = putAll _ _ U) := hA
            clear hA
            simp [Aft, Region.binds] at haf
            obtain ⟨fb, fk, fs, oX, oR, oG, oO, f0, f1, f2, f3, f4, f5, f6, f7, f8, f9, f10, f11, f12, f13, f16, s14, s15, m12, m13, d12_13⟩ := hF
            have g8 := f8 (by simp [haf])
            obtain ⟨t0, t1, t2, hT, k0, k1, k2⟩ := g8
            have e34 := rd HA.out 34 (by kernel_rfl) hT
            refine ⟨?_⟩
            go_simp
            have hs15 : L 15 = false := by cases h : L 15 with | false => rfl | true => rw [s15 h] at hlk; cases hlk
            refine hK (upd U 44 t1) _ _ ?_ ?_
            · rw [HA.out]; kernel_rfl
            · exact ⟨fb, fk, fs, oX, oR, oG, oO, f0, f1, f2, f3, f4, f5, f6, f7, f8, f9, (fun _ => k1), f11, f12, (fun h => flip_v (P := fun v => NEWU _ _ _ _ v) hs15 (f13 h)), f16, s14, (fun _ => rfl), m12, m13, d12_13⟩
          refine StepsU.run rfl ?_ ?_
          · intro L U wr hF hlk haf A K hA hK
            have HA : Hid (A = putAll _ _ U) := hA
            clear hA
            simp [Aft, Region.binds] at haf
            obtain ⟨fb, fk, fs, oX, oR, oG, oO, f0, f1, f2, f3, f4, f5, f6, f7, f8, f9, f10, f11, f12, f13, f16, s14, s15, m12, m13, d12_13⟩ := hF
            have g8 := f8 (by simp [haf])
            obtain ⟨t0, t1, t2, hT, k0, k1, k2⟩ := g8
            have e34 := rd HA.out 34 (by kernel_rfl) hT
            refine ⟨?_⟩
            go_simp
            refine hK (upd U 45 t2) _ _ ?_ ?_
            · rw [HA.out]; kernel_rfl
            · exact ⟨fb, fk, fs, oX, oR, oG, oO, f0, f1, f2, f3, f4, f5, f6, f7, f8, f9, f10, (fun _ => k2), f12, f13, f16, s14, s15, m12, m13, d12_13⟩
          refine StepsU.run rfl ?_ ?_
          · intro L U wr hF hlk haf A K hA hK
            have HA : Hid (A = putAll _ _ U) := hA
            clear hA
            simp [Aft, Region.binds] at haf
            obtain ⟨fb, fk, fs, oX, oR, oG, oO, f0, f1, f2, f3, f4, f5, f6, f7, f8, f9, f10, f11, f12, f13, f16, s14, s15, m12, m13, d12_13⟩ := hF
            have hst : L 14 = false := by cases h : L 14 with | false => rfl | true => rw [m12 h] at hlk; cases hlk
            refine ⟨?_⟩
            go_simp
            have hb := below_new wr (.cells #[.bool false, .slice none 0 0] 39 (0, 0))
            refine hK (upd U 6 (.pointer (some ⟨wr.heap.size, 0, none⟩))) _ _ ?_ ?_
            · rw [HA.out]; kernel_rfl
            · exact ⟨(fb.step hb (Nat.le_refl _)), (fk.trans (KeepQ.below hb)), (Nat.le_trans fs hb.size), (oX.stay hb), (oR.stay hb), (oG.stay hb), (oO.stay hb), (mvQ mq_is (KeepQ.below hb) f0), (mvQ mq_is (KeepQ.below hb) f1), (mvQ mq_is (KeepQ.below hb) f2), (mvQ mq_is (KeepQ.below hb) f3), (mvQ mq_is (KeepQ.below hb) f4), (mvQ mq_is (KeepQ.below hb) f5), (mvQ mq_is (KeepQ.below hb) f6), (mvQ (mq_t3 mq_rnm mq_rnm mq_is) (KeepQ.below hb) f7), (mvQ (mq_t3 mq_rnm mq_rnm mq_is) (KeepQ.below hb) f8), (mvQ mq_rnm (KeepQ.below hb) f9), (mvQ mq_rnm (KeepQ.below hb) f10), (mvQ mq_is (KeepQ.below hb) f11), (fun _ => newU_zero (by simp [hst]) (NEWU.mk fs (nuI _ _ _ _))), (fun h => (f13 h).below hb), (mvQ mq_is (KeepQ.below hb) f16), s14, s15, (fun _ => rfl), m13, (fun _ h => (f13 h).apart.symm)⟩
          refine StepsU.run rfl ?_ ?_
          · intro L U wr hF hlk haf A K hA hK
            have HA : Hid (A = putAll _ _ U) := hA
            clear hA
            simp [Aft, Region.binds] at haf
            obtain ⟨fb, fk, fs, oX, oR, oG, oO, f0, f1, f2, f3, f4, f5, f6, f7, f8, f9, f10, f11, f12, f13, f16, s14, s15, m12, m13, d12_13⟩ := hF
            have hst : L 15 = false := by cases h : L 15 with | false => rfl | true => rw [m13 h] at hlk; cases hlk
            refine ⟨?_⟩
            go_simp
            have hb := below_new wr (.cells #[.bool false, .slice none 0 0] 39 (0, 0))
            refine hK (upd U 7 (.pointer (some ⟨wr.heap.size, 0, none⟩))) _ _ ?_ ?_
            · rw [HA.out]; kernel_rfl
            · exact ⟨(fb.step hb (Nat.le_refl _)), (fk.trans (KeepQ.below hb)), (Nat.le_trans fs hb.size), (oX.stay hb), (oR.stay hb), (oG.stay hb), (oO.stay hb), (mvQ mq_is (KeepQ.below hb) f0), (mvQ mq_is (KeepQ.below hb) f1), (mvQ mq_is (KeepQ.below hb) f2), (mvQ mq_is (KeepQ.below hb) f3), (mvQ mq_is (KeepQ.below hb) f4), (mvQ mq_is (KeepQ.below hb) f5), (mvQ mq_is (KeepQ.below hb) f6), (mvQ (mq_t3 mq_rnm mq_rnm mq_is) (KeepQ.below hb) f7), (mvQ (mq_t3 mq_rnm mq_rnm mq_is) (KeepQ.below hb) f8), (mvQ mq_rnm (KeepQ.below hb) f9), (mvQ mq_rnm (KeepQ.below hb) f10), (mvQ mq_is (KeepQ.below hb) f11), (fun h => (f12 h).below hb), (fun _ => newU_zero (by simp [hst]) (NEWU.mk fs (nuI _ _ _ _))), (mvQ mq_is (KeepQ.below hb) f16), s14, s15, m12, (fun _ => rfl), (fun h _ => (f12 h).apart)⟩
          refine StepsU.run rfl ?_ ?_
          · intro L U wr hF hlk haf A K hA hK
            have HA : Hid (A = putAll _ _ U) := hA
            clear hA
            simp [Aft, Region.binds] at haf
            obtain ⟨fb, fk, fs, oX, oR, oG, oO, f0, f1, f2, f3, f4, f5, f6, f7, f8, f9, f10, f11, f12, f13, f16, s14, s15, m12, m13, d12_13⟩ := hF
            have g9 := f9 (by simp [haf])
            obtain ⟨yx, ya, yn, yc, hsrc⟩ := RNum.shape g9
            have e43 := rd HA.out 43 (by kernel_rfl) hsrc
            have g12 := f12 (by simp [haf])
            rw [hlk, cond_false] at g12
            obtain ⟨b, cs, hp, hBb, hcs, hblk, hN⟩ := g12
            injection hcs with hcs
            subst hcs
            have e6 := rd HA.out 6 (by kernel_rfl) hp
            have q0 := hblk.frozen 0
            have q1 := hblk.frozen 1
            have c0 := hblk.cell 0
            have c1 := hblk.cell 1
            simp at c0
            simp at c1
            have hlt := hblk.lt
            refine ⟨?_⟩
            go_simp
            refine hK U _ _ ?_ ?_
            · exact HA.out
            · exact ⟨(below_stores (Nat.le_trans (by exact hbW.size) hBb) [.bool yx, .slice ya yn yc] 0 fb), (fk.trans (keepQ_stores (by decide) (by decide) [.bool yx, .slice ya yn yc] 0 hblk (nuI _ _ _ _) (nuI _ _ _ _))), (by simp; exact fs), (oX.otherS (Nat.ne_of_gt (Nat.lt_of_lt_of_le ltX hBb)) 0 [.bool yx, .slice ya yn yc]), (oR.otherS (Nat.ne_of_gt (Nat.lt_of_lt_of_le ltR hBb)) 0 [.bool yx, .slice ya yn yc]), (oG.otherS (Nat.ne_of_gt (Nat.lt_of_lt_of_le ltG hBb)) 0 [.bool yx, .slice ya yn yc]), (oO.otherS (Nat.ne_of_gt (Nat.lt_of_lt_of_le ltO hBb)) 0 [.bool yx, .slice ya yn yc]), (mvQ mq_is (keepQ_stores (by decide) (by decide) [.bool yx, .slice ya yn yc] 0 hblk (nuI _ _ _ _) (nuI _ _ _ _)) f0), (mvQ mq_is (keepQ_stores (by decide) (by decide) [.bool yx, .slice ya yn yc] 0 hblk (nuI _ _ _ _) (nuI _ _ _ _)) f1), (mvQ mq_is (keepQ_stores (by decide) (by decide) [.bool yx, .slice ya yn yc] 0 hblk (nuI _ _ _ _) (nuI _ _ _ _)) f2), (mvQ mq_is (keepQ_stores (by decide) (by decide) [.bool yx, .slice ya yn yc] 0 hblk (nuI _ _ _ _) (nuI _ _ _ _)) f3), (mvQ mq_is (keepQ_stores (by decide) (by decide) [.bool yx, .slice ya yn yc] 0 hblk (nuI _ _ _ _) (nuI _ _ _ _)) f4), (mvQ mq_is (keepQ_stores (by decide) (by decide) [.bool yx, .slice ya yn yc] 0 hblk (nuI _ _ _ _) (nuI _ _ _ _)) f5), (mvQ mq_is (keepQ_stores (by decide) (by decide) [.bool yx, .slice ya yn yc] 0 hblk (nuI _ _ _ _) (nuI _ _ _ _)) f6), (mvQ (mq_t3 mq_rnm mq_rnm mq_is) (keepQ_stores (by decide) (by decide) [.bool yx, .slice ya yn yc] 0 hblk (nuI _ _ _ _) (nuI _ _ _ _)) f7), (mvQ (mq_t3 mq_rnm mq_rnm mq_is) (keepQ_stores (by decide) (by decide) [.bool yx, .slice ya yn yc] 0 hblk (nuI _ _ _ _) (nuI _ _ _ _)) f8), (mvQ mq_rnm (keepQ_stores (by decide) (by decide) [.bool yx, .slice ya yn yc] 0 hblk (nuI _ _ _ _) (nuI _ _ _ _)) f9), (mvQ mq_rnm (keepQ_stores (by decide) (by decide) [.bool yx, .slice ya yn yc] 0 hblk (nuI _ _ _ _) (nuI _ _ _ _)) f10), (mvQ mq_is (keepQ_stores (by decide) (by decide) [.bool yx, .slice ya yn yc] 0 hblk (nuI _ _ _ _) (nuI _ _ _ _)) f11), (fun _ => by simp only [cond_true, Bool.true_or, beq_self_eq_true]; exact storedU_new hp hsrc (NEWU.overS hBb hblk [.bool yx, .slice ya yn yc] rfl (nuI _ _ _ _))), (fun h => (f13 h).otherS (fun ee => ((d12_13 (by simp [haf]) h).symm) (ee.trans hp.symm)) 0 [.bool yx, .slice ya yn yc]), (mvQ mq_is (keepQ_stores (by decide) (by decide) [.bool yx, .slice ya yn yc] 0 hblk (nuI _ _ _ _) (nuI _ _ _ _)) f16), (fun _ => by simp [haf]), s15, (fun _ => by simp [haf]), m13, d12_13⟩
          refine StepsU.run rfl ?_ ?_
          · intro L U wr hF hlk haf A K hA hK
            have HA : Hid (A = putAll _ _ U) := hA
            clear hA
            simp [Aft, Region.binds] at haf
            obtain ⟨fb, fk, fs, oX, oR, oG, oO, f0, f1, f2, f3, f4, f5, f6, f7, f8, f9, f10, f11, f12, f13, f16, s14, s15, m12, m13, d12_13⟩ := hF
            have g10 := f10 (by simp [haf])
            obtain ⟨yx, ya, yn, yc, hsrc⟩ := RNum.shape g10
            have e44 := rd HA.out 44 (by kernel_rfl) hsrc
            have g13 := f13 (by simp [haf])
            rw [hlk, cond_false] at g13
            obtain ⟨b, cs, hp, hBb, hcs, hblk, hN⟩ := g13
            injection hcs with hcs
            subst hcs
            have e7 := rd HA.out 7 (by kernel_rfl) hp
            have q0 := hblk.frozen 0
            have q1 := hblk.frozen 1
            have c0 := hblk.cell 0
            have c1 := hblk.cell 1
            simp at c0
            simp at c1
            have hlt := hblk.lt
            refine ⟨?_⟩
            go_simp
            refine hK U _ _ ?_ ?_
            · exact HA.out
            · exact ⟨(below_stores (Nat.le_trans (by exact hbW.size) hBb) [.bool yx, .slice ya yn yc] 0 fb), (fk.trans (keepQ_stores (by decide) (by decide) [.bool yx, .slice ya yn yc] 0 hblk (nuI _ _ _ _) (nuI _ _ _ _))), (by simp; exact fs), (oX.otherS (Nat.ne_of_gt (Nat.lt_of_lt_of_le ltX hBb)) 0 [.bool yx, .slice ya yn yc]), (oR.otherS (Nat.ne_of_gt (Nat.lt_of_lt_of_le ltR hBb)) 0 [.bool yx, .slice ya yn yc]), (oG.otherS (Nat.ne_of_gt (Nat.lt_of_lt_of_le ltG hBb)) 0 [.bool yx, .slice ya yn yc]), (oO.otherS (Nat.ne_of_gt (Nat.lt_of_lt_of_le ltO hBb)) 0 [.bool yx, .slice ya yn yc]), (mvQ mq_is (keepQ_stores (by decide) (by decide) [.bool yx, .slice ya yn yc] 0 hblk (nuI _ _ _ _) (nuI _ _ _ _)) f0), (mvQ mq_is (keepQ_stores (by decide) (by decide) [.bool yx, .slice ya yn yc] 0 hblk (nuI _ _ _ _) (nuI _ _ _ _)) f1), (mvQ mq_is (keepQ_stores (by decide) (by decide) [.bool yx, .slice ya yn yc] 0 hblk (nuI _ _ _ _) (nuI _ _ _ _)) f2), (mvQ mq_is (keepQ_stores (by decide) (by decide) [.bool yx, .slice ya yn yc] 0 hblk (nuI _ _ _ _) (nuI _ _ _ _)) f3), (mvQ mq_is (keepQ_stores (by decide) (by decide) [.bool yx, .slice ya yn yc] 0 hblk (nuI _ _ _ _) (nuI _ _ _ _)) f4), (mvQ mq_is (keepQ_stores (by decide) (by decide) [.bool yx, .slice ya yn yc] 0 hblk (nuI _ _ _ _) (nuI _ _ _ _)) f5), (mvQ mq_is (keepQ_stores (by decide) (by decide) [.bool yx, .slice ya yn yc] 0 hblk (nuI _ _ _ _) (nuI _ _ _ _)) f6), (mvQ (mq_t3 mq_rnm mq_rnm mq_is) (keepQ_stores (by decide) (by decide) [.bool yx, .slice ya yn yc] 0 hblk (nuI _ _ _ _) (nuI _ _ _ _)) f7), (mvQ (mq_t3 mq_rnm mq_rnm mq_is) (keepQ_stores (by decide) (by decide) [.bool yx, .slice ya yn yc] 0 hblk (nuI _ _ _ _) (nuI _ _ _ _)) f8), (mvQ mq_rnm (keepQ_stores (by decide) (by decide) [.bool yx, .slice ya yn yc] 0 hblk (nuI _ _ _ _) (nuI _ _ _ _)) f9), (mvQ mq_rnm (keepQ_stores (by decide) (by decide) [.bool yx, .slice ya yn yc] 0 hblk (nuI _ _ _ _) (nuI _ _ _ _)) f10), (mvQ mq_is (keepQ_stores (by decide) (by decide) [.bool yx, .slice ya yn yc] 0 hblk (nuI _ _ _ _) (nuI _ _ _ _)) f11), (fun h => (f12 h).otherS (fun ee => (d12_13 h (by simp [haf])) (ee.trans hp.symm)) 0 [.bool yx, .slice ya yn yc]), (fun _ => by simp only [cond_true, Bool.true_or, beq_self_eq_true]; exact storedU_new hp hsrc (NEWU.overS hBb hblk [.bool yx, .slice ya yn yc] rfl (nuI _ _ _ _))), (mvQ mq_is (keepQ_stores (by decide) (by decide) [.bool yx, .slice ya yn yc] 0 hblk (nuI _ _ _ _) (nuI _ _ _ _)) f16), s14, (fun _ => by simp [haf]), m12, (fun _ => by simp [haf]), d12_13⟩
          refine StepsU.run rfl ?_ StepsU.nil
          · intro L U wr hF hlk haf A K hA hK
            have HA : Hid (A = putAll _ _ U) := hA
            clear hA
            simp [Aft, Region.binds] at haf
            obtain ⟨fb, fk, fs, oX, oR, oG, oO, f0, f1, f2, f3, f4, f5, f6, f7, f8, f9, f10, f11, f12, f13, f16, s14, s15, m12, m13, d12_13⟩ := hF
            have g11 := f11 (by simp [haf])
            have e45 := rd HA.out 45 (by kernel_rfl) rfl
            refine ⟨?_⟩
            go_simp
            refine hK (upd U 8 (U 45)) _ _ ?_ ?_
            · rw [HA.out]; kernel_rfl
            · exact ⟨fb, fk, fs, oX, oR, oG, oO, f0, f1, f2, f3, f4, f5, f6, f7, f8, f9, f10, f11, f12, f13, (fun _ => g11), s14, s15, m12, m13, d12_13⟩
        clear hbw oX oR oG oO
        intro L U4 V4 hall hF
        obtain ⟨hbw, fk, fs, oX, oR, oG, oO, f0, f1, f2, f3, f4, f5, f6, f7, f8, f9, f10, f11, f12, f13, f16, s14, s15, m12, m13, d12_13⟩ := hF
        clear s14 s15 m12 m13
        have g0 := f0 (hall 0 (by decide))
        have g1 := f1 (hall 1 (by decide))
        have g2 := f2 (hall 2 (by decide))
        have g3 := f3 (hall 3 (by decide))
        have g4 := f4 (hall 4 (by decide))
        have g5 := f5 (hall 5 (by decide))
        have g6 := f6 (hall 6 (by decide))
        have g7 := f7 (hall 7 (by decide))
        have g8 := f8 (hall 8 (by decide))
        have g9 := f9 (hall 9 (by decide))
        have g10 := f10 (hall 10 (by decide))
        have g11 := f11 (hall 11 (by decide))
        have g12 := f12 (hall 12 (by decide))
        rw [hall 14 (by decide), cond_true] at g12
        have g13 := f13 (hall 13 (by decide))
        rw [hall 15 (by decide), cond_true] at g13
        have g16 := f16 (hall 16 (by decide))
        replace d12_13 := d12_13 (hall 12 (by decide)) (hall 13 (by decide))
        clear hall f0 f1 f2 f3 f4 f5 f6 f7 f8 f9 f10 f11 f12 f13 f16
        replace hL := hL.keepQ fk
        replace hE := hE.keepQ fk
        replace hN := hN.keepQ fk
        replace hG := hG.keepQ fk
        obtain ⟨bC, csC, hpC, lbC, hcsC, oC, -⟩ := g12
        obtain ⟨xC, aC, nC, cC, hvC⟩ := RNum.shape g9
        have hC : RNum _ _ _ _ := g9
        rw [hvC] at hC hcsC
        injection hcsC with hcsC
        subst hcsC
        clear hvC
        have ltC := oC.lt
        obtain ⟨bD, csD, hpD, lbD, hcsD, oD, -⟩ := g13
        obtain ⟨xD, aD, nD, cD, hvD⟩ := RNum.shape g10
        have hD : RNum _ _ _ _ := g10
        rw [hvD] at hD hcsD
        injection hcsD with hcsD
        subst hcsD
        clear hvD
        have ltD := oD.lt
        have neCD : bC ≠ bD := fun h => d12_13 (by rw [hpC, hpD, h])
        clear d12_13
        have neXC : w.heap.size ≠ bC := Nat.ne_of_lt (Nat.lt_of_lt_of_le ltX lbC)
        have neRC : w.heap.size + 1 ≠ bC := Nat.ne_of_lt (Nat.lt_of_lt_of_le ltR lbC)
        have neGC : bG ≠ bC := Nat.ne_of_lt (Nat.lt_of_lt_of_le ltG lbC)
        have neOC : bO ≠ bC := Nat.ne_of_lt (Nat.lt_of_lt_of_le ltO lbC)
        have lwC : w.heap.size ≤ bC := Nat.le_trans hbW.size lbC
        have neXD : w.heap.size ≠ bD := Nat.ne_of_lt (Nat.lt_of_lt_of_le ltX lbD)
        have neRD : w.heap.size + 1 ≠ bD := Nat.ne_of_lt (Nat.lt_of_lt_of_le ltR lbD)
        have neGD : bG ≠ bD := Nat.ne_of_lt (Nat.lt_of_lt_of_le ltG lbD)
        have neOD : bO ≠ bD := Nat.ne_of_lt (Nat.lt_of_lt_of_le ltO lbD)
        have lwD : w.heap.size ≤ bD := Nat.le_trans hbW.size lbD
        replace ltX := oX.lt
        replace ltR := oR.lt
        replace ltG := oG.lt
        replace ltO := oO.lt
        clear lbC lbD
        try clear g0
        try clear g1
        try clear g2
        try clear g3
        try clear g4
        try clear g5
        try clear g6
        try clear g7
        try clear g8
        try clear g9
        try clear g10
        try clear g11
        clear hbW
        simp only [setM_some, setM_none, setM_nil]
        rw [hpC, hpD]
        clear hpC hpD
        clear fk fs
        have e8 : U4 8 = _ := g16
        rw [e8]
        clear g16 e8 hD
        clear ltD oD
        go_wp2
        have naX := hL.blk oX (by decide)
        have naR := hL.blk oR (by decide)
        have naG := hL.blk oG (by decide)
        have naC := hL.blk oC (by decide)
        have naO := hL.blk oO (by decide)
        have hLb := hbw.size
        have hLg := Nat.le_refl w.heap.size
        have geO := lwO
        have neOX := Ne.symm neXO
        have neOR := Ne.symm neRO
        have neOG := Ne.symm neGO
        have hbW := hbw
        refine wp_region_M (by kernel_rfl) [46, 47, 48, 49, 50, 51, 52, 53, 54, 55, 56, 57, 58] [none, none, none, none, none, none, none, none, none, none, none, none, none, none, none, none, none, none, none, none, none, none, none, none, none, none, none, none, none, none, none, none, none, none, none, none, none, none, none, none, none, none, none, none, none, none, some 46, some 47, some 48, some 49, some 50, some 51, some 52, some 53, some 54, some 55, some 56, some 57, some 58] (fun U => by kernel_rfl) (fun L U wr => Below w.heap.size w wr ∧ KeepN V4 wr ∧ V4.heap.size ≤ wr.heap.size ∧ Blk 86 wr (w.heap.size) #[.slice (some ⟨gE, oE, none⟩) qX rX, .bool xX, .slice aX nX cX] ∧ Blk 86 wr (w.heap.size + 1) #[.slice none 0 0, .bool false, .slice none 0 0] ∧ Blk 39 wr (bG) #[.bool xG, .slice aG nG cG] ∧ Blk 39 wr (bC) #[.bool xC, .slice aC nC cC] ∧ Blk 86 wr (bO) (bif L 13 then #[U 57, .bool xO, .slice aO nO cO] else #[.slice ao0 m0 cap0, .bool xO, .slice aO nO cO]) ∧ (L 11 = false → LstG 3 70 w.heap.size wr (.slice ao0 m0 cap0) k xs) ∧ (L 0 = true → IS (.pointer (some ⟨bO, 0, none⟩)) (U 46) wr) ∧ (L 1 = true → IS (.slice ao0 m0 cap0) (U 47) wr) ∧ (L 2 = true → IS (.pointer (some ⟨w.heap.size, 0, none⟩)) (U 48) wr) ∧ (L 3 = true → IS (.slice (some ⟨gE, oE, none⟩) qX rX) (U 49) wr) ∧ (L 4 = true → IS (.int .i64 k) (U 50) wr) ∧ (L 5 = true → IS (.pointer (some ⟨gE, oE + k * 3, none⟩)) (U 51) wr) ∧ (L 6 = true → IS (.pointer (some ⟨gE, oE + k * 3, none⟩)) (U 52) wr) ∧ (L 7 = true → IS (.int .i64 (pv : Nat)) (U 53) wr) ∧ (L 8 = true → IS (.agg #[.bool xC, .slice aC nC cC]) (U 54) wr) ∧ (L 9 = true → IS (.agg #[.int .i64 (pv : Nat), .bool xC, .slice aC nC cC]) (U 55) wr) ∧ (L 10 = true → L 11 = false → ONE 70 #[.int .i64 (pv : Nat), .bool xC, .slice aC nC cC] (U 56) wr) ∧ (L 11 = true → LstG 3 70 w.heap.size wr (U 57) (k + 1) (xs ++ [.int .i64 (pv : Nat), .bool xC, .slice aC nC cC]) ∧ U 57 ≠ .slice none 0 0) ∧ (L 12 = true → IS (.pointer (some ⟨bO, 0, none⟩)) (U 58) wr) ∧ (L 13 = true → L 11 = true) ∧ (L 11 = true → L 1 = true) ∧ (L 11 = true → L 10 = true)) (by kernel_rfl) ?_ ?_ ?_
        · exact fun U => ⟨hbw.drew, KeepN.below (Below.refl _ _).drew, Nat.le_refl _, oX.drew, oR.drew, oG.drew, oC.drew, oO.drew, (fun _ => hL.below (Below.refl _ _).drew), (fun h => by cases h), (fun h => by cases h), (fun h => by cases h), (fun h => by cases h), (fun h => by cases h), (fun h => by cases h), (fun h => by cases h), (fun h => by cases h), (fun h => by cases h), (fun h => by cases h), (fun h => by cases h), (fun h => by cases h), (fun h => by cases h), (fun h => by cases h), (fun h => by cases h), (fun h => by cases h)⟩
        · refine StepsU.run rfl ?_ ?_
          · intro L U wr hF hlk haf A K hA hK
            have HA : Hid (A = putAll _ _ U) := hA
            clear hA
            simp [Aft, Region.binds] at haf
            obtain ⟨fb, fk, fs, oX, oR, oG, oC, wO, fl, f0, f1, f2, f3, f4, f5, f6, f7, f8, f9, f10, f11, f12, s13, p1, p10⟩ := hF
            have e4 : A.tmps[4]? = some (.pointer (some ⟨bO, 0, none⟩)) := by rw [HA.out]; kernel_rfl
            refine ⟨?_⟩
            go_simp
            refine hK (upd U 46 (.pointer (some ⟨bO, 0, none⟩))) _ _ ?_ ?_
            · rw [HA.out]; kernel_rfl
            · exact ⟨fb, fk, fs, oX, oR, oG, oC, wO, fl, (fun _ => rfl), f1, f2, f3, f4, f5, f6, f7, f8, f9, f10, f11, f12, s13, p1, p10⟩
          refine StepsU.run rfl ?_ ?_
          · intro L U wr hF hlk haf A K hA hK
            have HA : Hid (A = putAll _ _ U) := hA
            clear hA
            simp [Aft, Region.binds] at haf
            obtain ⟨fb, fk, fs, oX, oR, oG, oC, wO, fl, f0, f1, f2, f3, f4, f5, f6, f7, f8, f9, f10, f11, f12, s13, p1, p10⟩ := hF
            have hst9 : L 13 = false := by cases h : L 13 with | false => rfl | true => rw [p1 (s13 h)] at hlk; cases hlk
            have o9 := wO
            rw [hst9, cond_false] at o9
            have g0 := f0 (by simp [haf])
            have e46 := rd HA.out 46 (by kernel_rfl) g0
            have c0 := Blk.cell o9 0
            simp at c0
            refine ⟨?_⟩
            go_simp
            refine hK (upd U 47 (.slice ao0 m0 cap0)) _ _ ?_ ?_
            · rw [HA.out]; kernel_rfl
            · exact ⟨fb, fk, fs, oX, oR, oG, oC, wO, fl, f0, (fun _ => rfl), f2, f3, f4, f5, f6, f7, f8, f9, f10, f11, f12, s13, (fun _ => rfl), p10⟩
          refine StepsU.run rfl ?_ ?_
          · intro L U wr hF hlk haf A K hA hK
            have HA : Hid (A = putAll _ _ U) := hA
            clear hA
            simp [Aft, Region.binds] at haf
            obtain ⟨fb, fk, fs, oX, oR, oG, oC, wO, fl, f0, f1, f2, f3, f4, f5, f6, f7, f8, f9, f10, f11, f12, s13, p1, p10⟩ := hF
            have e1 : A.tmps[1]? = some (.pointer (some ⟨w.heap.size, 0, none⟩)) := by rw [HA.out]; kernel_rfl
            refine ⟨?_⟩
            go_simp
            refine hK (upd U 48 (.pointer (some ⟨w.heap.size, 0, none⟩))) _ _ ?_ ?_
            · rw [HA.out]; kernel_rfl
            · exact ⟨fb, fk, fs, oX, oR, oG, oC, wO, fl, f0, f1, (fun _ => rfl), f3, f4, f5, f6, f7, f8, f9, f10, f11, f12, s13, p1, p10⟩
          refine StepsU.run rfl ?_ ?_
          · intro L U wr hF hlk haf A K hA hK
            have HA : Hid (A = putAll _ _ U) := hA
            clear hA
            simp [Aft, Region.binds] at haf
            obtain ⟨fb, fk, fs, oX, oR, oG, oC, wO, fl, f0, f1, f2, f3, f4, f5, f6, f7, f8, f9, f10, f11, f12, s13, p1, p10⟩ := hF
            have g2 := f2 (by simp [haf])
            have e48 := rd HA.out 48 (by kernel_rfl) g2
            have c0 := Blk.cell oX 0
            simp at c0
            refine ⟨?_⟩
            go_simp
            refine hK (upd U 49 (.slice (some ⟨gE, oE, none⟩) qX rX)) _ _ ?_ ?_
            · rw [HA.out]; kernel_rfl
            · exact ⟨fb, fk, fs, oX, oR, oG, oC, wO, fl, f0, f1, f2, (fun _ => rfl), f4, f5, f6, f7, f8, f9, f10, f11, f12, s13, p1, p10⟩
          refine StepsU.run rfl ?_ ?_
          · intro L U wr hF hlk haf A K hA hK
            have HA : Hid (A = putAll _ _ U) := hA
            clear hA
            simp [Aft, Region.binds] at haf
            obtain ⟨fb, fk, fs, oX, oR, oG, oC, wO, fl, f0, f1, f2, f3, f4, f5, f6, f7, f8, f9, f10, f11, f12, s13, p1, p10⟩ := hF
            have e5 : A.tmps[5]? = some (.int .i64 k) := by rw [HA.out]; kernel_rfl
            refine ⟨?_⟩
            go_simp
            refine hK (upd U 50 (.int .i64 k)) _ _ ?_ ?_
            · rw [HA.out]; kernel_rfl
            · exact ⟨fb, fk, fs, oX, oR, oG, oC, wO, fl, f0, f1, f2, f3, (fun _ => rfl), f5, f6, f7, f8, f9, f10, f11, f12, s13, p1, p10⟩
          refine StepsU.run rfl ?_ ?_
          · intro L U wr hF hlk haf A K hA hK
            have HA : Hid (A = putAll _ _ U) := hA
            clear hA
            simp [Aft, Region.binds] at haf
            obtain ⟨fb, fk, fs, oX, oR, oG, oC, wO, fl, f0, f1, f2, f3, f4, f5, f6, f7, f8, f9, f10, f11, f12, s13, p1, p10⟩ := hF
            have g3 := f3 (by simp [haf])
            have g4 := f4 (by simp [haf])
            have e49 := rd HA.out 49 (by kernel_rfl) g3
            have e50 := rd HA.out 50 (by kernel_rfl) g4
            refine ⟨?_⟩
            go_simp
            refine hK (upd U 51 (.pointer (some ⟨gE, oE + k * 3, none⟩))) _ _ ?_ ?_
            · rw [HA.out]; kernel_rfl
            · exact ⟨fb, fk, fs, oX, oR, oG, oC, wO, fl, f0, f1, f2, f3, f4, (fun _ => rfl), f6, f7, f8, f9, f10, f11, f12, s13, p1, p10⟩
          refine StepsU.run rfl ?_ ?_
          · intro L U wr hF hlk haf A K hA hK
            have HA : Hid (A = putAll _ _ U) := hA
            clear hA
            simp [Aft, Region.binds] at haf
            obtain ⟨fb, fk, fs, oX, oR, oG, oC, wO, fl, f0, f1, f2, f3, f4, f5, f6, f7, f8, f9, f10, f11, f12, s13, p1, p10⟩ := hF
            have g5 := f5 (by simp [haf])
            have e51 := rd HA.out 51 (by kernel_rfl) g5
            refine ⟨?_⟩
            go_simp
            refine hK (upd U 52 (.pointer (some ⟨gE, oE + k * 3, none⟩))) _ _ ?_ ?_
            · rw [HA.out]; kernel_rfl
            · exact ⟨fb, fk, fs, oX, oR, oG, oC, wO, fl, f0, f1, f2, f3, f4, f5, (fun _ => rfl), f7, f8, f9, f10, f11, f12, s13, p1, p10⟩
          refine StepsU.run rfl ?_ ?_
          · intro L U wr hF hlk haf A K hA hK
            have HA : Hid (A = putAll _ _ U) := hA
            clear hA
            simp [Aft, Region.binds] at haf
            obtain ⟨fb, fk, fs, oX, oR, oG, oC, wO, fl, f0, f1, f2, f3, f4, f5, f6, f7, f8, f9, f10, f11, f12, s13, p1, p10⟩ := hF
            have g6 := f6 (by simp [haf])
            have kA0 := (fb.cell (p := ⟨gE, oE + k * 3, none⟩) (World.block_lt_of_cell? w _ k1)).trans k1
            have e52 := rd HA.out 52 (by kernel_rfl) g6
            refine ⟨?_⟩
            go_simp
            refine hK (upd U 53 (.int .i64 (pv : Nat))) _ _ ?_ ?_
            · rw [HA.out]; kernel_rfl
            · exact ⟨fb, fk, fs, oX, oR, oG, oC, wO, fl, f0, f1, f2, f3, f4, f5, f6, (fun _ => rfl), f8, f9, f10, f11, f12, s13, p1, p10⟩
          refine StepsU.run rfl ?_ ?_
          · intro L U wr hF hlk haf A K hA hK
            have HA : Hid (A = putAll _ _ U) := hA
            clear hA
            simp [Aft, Region.binds] at haf
            obtain ⟨fb, fk, fs, oX, oR, oG, oC, wO, fl, f0, f1, f2, f3, f4, f5, f6, f7, f8, f9, f10, f11, f12, s13, p1, p10⟩ := hF
            have e6 : A.tmps[6]? = some (.pointer (some ⟨bC, 0, none⟩)) := by rw [HA.out]; kernel_rfl
            have c0 := Blk.cell oC 0
            have c1 := Blk.cell oC 1
            simp at c0
            simp at c1
            refine ⟨?_⟩
            go_simp
            refine hK (upd U 54 (.agg #[.bool xC, .slice aC nC cC])) _ _ ?_ ?_
            · rw [HA.out]; kernel_rfl
            · exact ⟨fb, fk, fs, oX, oR, oG, oC, wO, fl, f0, f1, f2, f3, f4, f5, f6, f7, (fun _ => rfl), f9, f10, f11, f12, s13, p1, p10⟩
          refine StepsU.run rfl ?_ ?_
          · intro L U wr hF hlk haf A K hA hK
            have HA : Hid (A = putAll _ _ U) := hA
            clear hA
            simp [Aft, Region.binds] at haf
            obtain ⟨fb, fk, fs, oX, oR, oG, oC, wO, fl, f0, f1, f2, f3, f4, f5, f6, f7, f8, f9, f10, f11, f12, s13, p1, p10⟩ := hF
            have g7 := f7 (by simp [haf])
            have g8 := f8 (by simp [haf])
            have e53 := rd HA.out 53 (by kernel_rfl) g7
            have e54 := rd HA.out 54 (by kernel_rfl) g8
            refine ⟨?_⟩
            go_simp
            refine hK (upd U 55 (.agg #[.int .i64 (pv : Nat), .bool xC, .slice aC nC cC])) _ _ ?_ ?_
            · rw [HA.out]; kernel_rfl
            · exact ⟨fb, fk, fs, oX, oR, oG, oC, wO, fl, f0, f1, f2, f3, f4, f5, f6, f7, f8, (fun _ => rfl), f10, f11, f12, s13, p1, p10⟩
          refine StepsU.run rfl ?_ ?_
          · intro L U wr hF hlk haf A K hA hK
            have HA : Hid (A = putAll _ _ U) := hA
            clear hA
            simp [Aft, Region.binds] at haf
            obtain ⟨fb, fk, fs, oX, oR, oG, oC, wO, fl, f0, f1, f2, f3, f4, f5, f6, f7, f8, f9, f10, f11, f12, s13, p1, p10⟩ := hF
            have g9 := f9 (by simp [haf])
            have e55 := rd HA.out 55 (by kernel_rfl) g9
            have hap : L 11 = false := by cases h : L 11 with | false => rfl | true => rw [p10 h] at hlk; cases hlk
            refine ⟨?_⟩
            go_simp
            have hb := below_new wr (.cells #[.int .i64 (pv : Nat), .bool xC, .slice aC nC cC] 70 (0, 0))
            refine hK (upd U 56 (.slice (some ⟨wr.heap.size, 0, none⟩) 1 1)) _ _ ?_ ?_
            · rw [HA.out]; kernel_rfl
            · exact ⟨(fb.step hb (Nat.le_refl _)), (fk.trans (KeepN.below hb)), (Nat.le_trans fs hb.size), (oX.stay hb), (oR.stay hb), (oG.stay hb), (oC.stay hb), (Blk.stay wO hb), (fun h => (fl h).below hb), (mvN mn_is (KeepN.below hb) f0), (mvN mn_is (KeepN.below hb) f1), (mvN mn_is (KeepN.below hb) f2), (mvN mn_is (KeepN.below hb) f3), (mvN mn_is (KeepN.below hb) f4), (mvN mn_is (KeepN.below hb) f5), (mvN mn_is (KeepN.below hb) f6), (mvN mn_is (KeepN.below hb) f7), (mvN mn_is (KeepN.below hb) f8), (mvN mn_is (KeepN.below hb) f9), (fun _ _ => ⟨wr.heap.size, rfl, Blk.new wr 70 #[.int .i64 (pv : Nat), .bool xC, .slice aC nC cC]⟩), (fun h => ⟨(f11 h).1.below hb, (f11 h).2⟩), (mvN mn_is (KeepN.below hb) f12), s13, p1, (fun _ => rfl)⟩
          refine StepsU.run rfl ?_ ?_
          · intro L U wr hF hlk haf A K hA hK
            have HA : Hid (A = putAll _ _ U) := hA
            clear hA
            simp [Aft, Region.binds] at haf
            obtain ⟨fb, fk, fs, oX, oR, oG, oC, wO, fl, f0, f1, f2, f3, f4, f5, f6, f7, f8, f9, f10, f11, f12, s13, p1, p10⟩ := hF
            have g1 := f1 (by simp [haf])
            have g10 := f10 (by simp [haf]) hlk
            obtain ⟨gb, hgb, hBb⟩ := g10
            have e47 := rd HA.out 47 (by kernel_rfl) g1
            have e56 := rd HA.out 56 (by kernel_rfl) hgb
            refine ⟨?_⟩
            refine wp_append_g (.tmp 47) (.tmp 56) 36 rfl 3 w.heap.size 70 (.agg #[.int .i64 0, .bool false, .slice none 0 0]) 40 Tryz.und_qparts Tryz.info_qpart (by decide) rfl (by decide) (nuP _ _ _ _ _) (by decide) (.slice ao0 m0 cap0) k xs (by simp [Act.eval, e47]) (fl hlk) ⟨gb, 0, none⟩ 1 1 [.int .i64 (pv : Nat), .bool xC, .slice aC nC cC] (by simp [Act.eval, e56]) rfl ?_ (by intro u hu; simp at hu; rcases hu with rfl | rfl | rfl <;> rfl) (nuP _ _ _ _ _) (Or.inl (by decide)) (by omega) (Nat.le_trans hLb fs) ?_
            · intro j u hj
              match j, hj with
              | 0, hj => simp at hj; subst hj; exact hBb.cell 0
              | 1, hj => simp at hj; subst hj; exact hBb.cell 1
              | 2, hj => simp at hj; subst hj; exact hBb.cell 2
              | j + 3, hj => simp at hj
            · intro v' w1 hL1 hA1 hnn1
              have hs13 : L 13 = false := by cases h : L 13 with | false => rfl | true => rw [s13 h] at hlk; cases hlk
              refine hK (upd U 57 v') _ _ ?_ ?_
              · rw [HA.out]; kernel_rfl
              · exact ⟨(fb.trans (hA1.bel.mono hLg)), (fk.trans hA1.keep), (Nat.le_trans fs hA1.size), ((hA1.other _ oX.lt naX).trans oX), ((hA1.other _ oR.lt naR).trans oR), ((hA1.other _ oG.lt naG).trans oG), ((hA1.other _ oC.lt naC).trans oC), (flip_a (P := fun v => Blk _ _ _ v) hs13 ((hA1.other _ (Blk.lt wO) naO).trans wO)), (fun h => by cases h), (mvN mn_is hA1.keep f0), (mvN mn_is hA1.keep f1), (mvN mn_is hA1.keep f2), (mvN mn_is hA1.keep f3), (mvN mn_is hA1.keep f4), (mvN mn_is hA1.keep f5), (mvN mn_is hA1.keep f6), (mvN mn_is hA1.keep f7), (mvN mn_is hA1.keep f8), (mvN mn_is hA1.keep f9), (fun _ h => by cases h), (fun _ => ⟨hL1, hnn1⟩), (mvN mn_is hA1.keep f12), (fun _ => rfl), (fun _ => by simp [haf]), (fun _ => by simp [haf])⟩
          refine StepsU.run rfl ?_ ?_
          · intro L U wr hF hlk haf A K hA hK
            have HA : Hid (A = putAll _ _ U) := hA
            clear hA
            simp [Aft, Region.binds] at haf
            obtain ⟨fb, fk, fs, oX, oR, oG, oC, wO, fl, f0, f1, f2, f3, f4, f5, f6, f7, f8, f9, f10, f11, f12, s13, p1, p10⟩ := hF
            have e4 : A.tmps[4]? = some (.pointer (some ⟨bO, 0, none⟩)) := by rw [HA.out]; kernel_rfl
            refine ⟨?_⟩
            go_simp
            refine hK (upd U 58 (.pointer (some ⟨bO, 0, none⟩))) _ _ ?_ ?_
            · rw [HA.out]; kernel_rfl
            · exact ⟨fb, fk, fs, oX, oR, oG, oC, wO, fl, f0, f1, f2, f3, f4, f5, f6, f7, f8, f9, f10, f11, (fun _ => rfl), s13, p1, p10⟩
          refine StepsU.run rfl ?_ StepsU.nil
          · intro L U wr hF hlk haf A K hA hK
            have HA : Hid (A = putAll _ _ U) := hA
            clear hA
            simp [Aft, Region.binds] at haf
            obtain ⟨fb, fk, fs, oX, oR, oG, oC, wO, fl, f0, f1, f2, f3, f4, f5, f6, f7, f8, f9, f10, f11, f12, s13, p1, p10⟩ := hF
            have g12 := f12 (by simp [haf])
            have e58 := rd HA.out 58 (by kernel_rfl) g12
            have g11 := f11 (by simp [haf])
            obtain ⟨k1, k2⟩ := g11
            obtain ⟨ao', m', cap', hv'⟩ := LstG.isSlice k1
            have e57 := rd HA.out 57 (by kernel_rfl) hv'
            have o9 := wO
            rw [hlk, cond_false] at o9
            have q0 := Blk.frozen o9 0
            have c0 := Blk.cell o9 0
            simp at c0
            have hlt := Blk.lt o9
            have hkp := keepN_stores (by decide) [.slice ao' m' cap'] 0 o9 (nuT _ _ _ _ _ _ _) (by intro u hu; simp at hu; subst hu; exact noU_slice _ _ _)
            have hnew : Blk 86 (stores wr (bO) 0 [.slice ao' m' cap']) (bO) #[U 57, .bool xO, .slice aO nO cO] := by rw [hv']; exact Blk.set o9 0 _
            have k1' := LstG.storesO k1 o9 (by decide) 0 [.slice ao' m' cap']
            refine ⟨?_⟩
            go_simp
            refine hK U _ _ ?_ ?_
            · exact HA.out
            · exact ⟨(below_stores geO [.slice ao' m' cap'] 0 fb), (fk.trans hkp), (by simp; exact fs), (oX.otherS neOX 0 [.slice ao' m' cap']), (oR.otherS neOR 0 [.slice ao' m' cap']), (oG.otherS neOG 0 [.slice ao' m' cap']), (oC.otherS neOC 0 [.slice ao' m' cap']), hnew, (fun h => by simp [haf] at h), (mvN mn_is hkp f0), (mvN mn_is hkp f1), (mvN mn_is hkp f2), (mvN mn_is hkp f3), (mvN mn_is hkp f4), (mvN mn_is hkp f5), (mvN mn_is hkp f6), (mvN mn_is hkp f7), (mvN mn_is hkp f8), (mvN mn_is hkp f9), (fun _ h => by simp [haf] at h), (fun _ => ⟨k1', k2⟩), (mvN mn_is hkp f12), (fun _ => by simp [haf]), p1, p10⟩
        clear hbw oX oR oG oC oO hL
        intro L U5 V5 hall hF
        obtain ⟨hbw, fk, fs, oX, oR, oG, oC, wO, fl, f0, f1, f2, f3, f4, f5, f6, f7, f8, f9, f10, f11, f12, s13, p1, p10⟩ := hF
        clear fl s13 p1 p10
        have g0 := f0 (hall 0 (by decide))
        have g1 := f1 (hall 1 (by decide))
        have g2 := f2 (hall 2 (by decide))
        have g3 := f3 (hall 3 (by decide))
        have g4 := f4 (hall 4 (by decide))
        have g5 := f5 (hall 5 (by decide))
        have g6 := f6 (hall 6 (by decide))
        have g7 := f7 (hall 7 (by decide))
        have g8 := f8 (hall 8 (by decide))
        have g9 := f9 (hall 9 (by decide))
        have g11 := f11 (hall 11 (by decide))
        have g12 := f12 (hall 12 (by decide))
        rw [hall 13 (by decide), cond_true] at wO
        clear hall f0 f1 f2 f3 f4 f5 f6 f7 f8 f9 f10 f11 f12
        replace hE := hE.keepN fk
        replace hN := hN.keepN fk
        replace hG := hG.keepN fk
        replace hC := hC.keepN fk
        replace ltX := oX.lt
        replace ltR := oR.lt
        replace ltG := oG.lt
        replace ltC := oC.lt
        try clear g0
        try clear g1
        try clear g2
        try clear g3
        try clear g4
        try clear g5
        try clear g6
        try clear g7
        try clear g8
        try clear g9
        try clear g12
        clear hbW
        simp only [setM_some, setM_none, setM_nil]
        clear fk fs
        obtain ⟨hL2, hne2⟩ := g11
        have HDV := divP_step (g := gz) (by rw [HLN.out]; exact h0) HPV.out
        have hE2 := ElsQ.app hE (by rw [HXL.out]; unfold divP; rw [List.length_map, List.length_take, HLN.out, Nat.min_eq_left (by omega)]) (ElsQ.one (v := pv) (hC.up (by decide)))
        go_wp2
        go_roundw
        case rel => exact ⟨k + 1, _, _, by omega, by go_num, oX, oR, oG, wO, hL2, by rw [HDV]; exact hE2, hN, hG, hbw⟩
        case measure => simp [intOf]; omega
      · have hkq : k = a.length := by rw [HLN.out]; omega
        rw [hkq, List.take_of_length_le (Nat.le_refl _)] at hE
        have HK9 : Hid (k = qX) := by show _ = _; omega
        clear hkq
        obtain ⟨ao, cap, hv9, hc1, hc2, hc3, hqa⟩ := hL.qarr hE (by unfold divP; rw [List.length_map, HLN.out, HK9.out])
        injection hv9 with e1 e2 e3
        subst e1
        subst e2
        subst e3
        clear hL hE
        obtain ⟨Rc0, Rc1, Rc2⟩ := oR.three
        obtain ⟨Rk0, Rk1, Rk2⟩ := oR.frozen3
        obtain ⟨Xc0, Xc1, Xc2⟩ := oX.three
        obtain ⟨Xk0, Xk1, Xk2⟩ := oX.frozen3
        obtain ⟨Oc0, Oc1, Oc2⟩ := oO.three
        obtain ⟨Ok0, Ok1, Ok2⟩ := oO.frozen3
        try simp only []
        try go_at_K
        repeat (first | go_values | go_skip | go_guarded | go_step | go_upon)
        refine bodyPost_ret (v := .agg #[.slice ao0 m0 cap0, .bool xO, .slice aO nO cO]) (by simp [results, Tryz.results48, go_sem, Rc0, Rc1, Rc2]) rfl ?_
        obtain ⟨K1, B1, _⟩ := resTq (by decide) (by decide) oR hbw lwR ao0 m0 cap0 xO aO nO cO
        rw [show tgP a = divP a (cm a) from if_neg HGT.out, show tgM a m = m.fdiv (cm a) from if_neg HGT.out, HGZ.out]
        exact ⟨_, rfl, ⟨_, _, _, _, _, _, _, rfl, ⟨by unfold divP; rw [List.length_map, HLN.out, HK9.out], hc1, hc2, hc3, hqa.keepQ K1, hN.keepQ K1, divP_fine HFA.out (by have := HGN.out; omega) (by rw [← HGZ.out]; exact cm_dvd a), fdiv_lim HGN.out HML.out⟩⟩, B1⟩

end Go.Proofs.YteefniagebcagaaGreatDoor
