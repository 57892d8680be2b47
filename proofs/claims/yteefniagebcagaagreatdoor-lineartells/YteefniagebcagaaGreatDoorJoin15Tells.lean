/- Joined: LinG, LinD, LinE, LinF: words and contracts; no statement of the seat is proved here. -/
import Derived.Test.YteefniagebcagaaGreatDoorJoin14Tells
/- Contract of linear's merged; it proves no statement of the seat. -/
namespace Go.Proofs.YteefniagebcagaaGreatDoor
open Go.RowKit
set_option linter.unusedVariables false

def sLen : Value → Nat
  | .slice _ n _ => n
  | _ => 0
/-- The first of some parts, its cells. -/
theorem PTS.head {w : World} {v : Value} {p : Nat × Int} {r : List (Nat × Int)} (h : PTS (p :: r) v w) : ∃ g o n c s a m f, v = .slice (some ⟨g, o, none⟩) n c ∧ n = r.length + 1 ∧ n ≤ c ∧ c ≤ maxLen ∧ w.cell? ⟨g, o, none⟩ = some (.int .i64 (p.1 : Nat)) ∧ w.cell? ⟨g, o + 1, none⟩ = some (.bool s) ∧ w.cell? ⟨g, o + 2, none⟩ = some (.slice a m f) ∧ AInt w (.agg #[.bool s, .slice a m f]) p.2 ∧ PTS r (.slice (if c = 1 then some ⟨g, o, none⟩ else some ⟨g, o + 3, none⟩) (n - 1) (c - 1)) w := by
  obtain ⟨ao, n, c, rfl, h1, h2, h3, h4, h5⟩ := h
  obtain ⟨g, o, s, a, m, f, rfl, k1, k2, k3, k4⟩ := h5.at 0 (by simp)
  rw [Nat.zero_mul, Nat.add_zero] at k1 k2 k3
  have hd := h5.drop 1
  rw [Nat.one_mul, List.drop_one, List.tail_cons] at hd
  have h6 : n = r.length + 1 := by rw [← h1]; rfl
  refine ⟨g, o, n, c, s, a, m, f, rfl, h6, h2, h3, k1, k2, k3, k4, _, _, _, rfl, by omega, by omega, by omega, ?_, ?_⟩
  · intro e; split at e <;> cases e
  · split
    · have hr : r = [] := List.eq_nil_of_length_eq_zero (by omega)
      rw [hr]; exact PArr.nil _ _
    · exact hd

set_option maxRecDepth 20000 in
set_option maxHeartbeats 8000000 in
theorem merged_any (va vb : Value) (a b : List (Nat × Int)) (w : World) (ha : PTS a va w) (hb : PTS b vb w) (fa : Fine a) (fb : Fine b) :
    Calls Tryz.prog 56 #[va, vb] w fun e w' => ∃ v c, e = .returned (.tuple #[v, .int .i64 c]) ∧ ((addFits a b ∧ c = 0 ∧ PTS (addP a b) v w') ∨ (¬ addFits a b ∧ c = 11 ∧ v = .slice none 0 0)) ∧ Below w.heap.size w w' := by
  have HF : Hid (Fine a ∧ Fine b) := ⟨fa, fb⟩
  have la := fa.len
  have lb := fb.len
  clear fa fb
  obtain ⟨ao, n, cap, rfl, h1, h2, h3, h4, h5⟩ := ha
  obtain ⟨bo, m, cap2, rfl, k1, k2, k3, k4, k5⟩ := hb
  have HA0 : Hid (PTS a (.slice ao n cap) w) := ⟨ao, n, cap, rfl, h1, h2, h3, h4, h5⟩
  have HB0 : Hid (PTS b (.slice bo m cap2) w) := ⟨bo, m, cap2, rfl, k1, k2, k3, k4, k5⟩
  have hnm : n ≤ 4096 ∧ m ≤ 4096 := ⟨by omega, by omega⟩
  have HLN : Hid (a.length = n ∧ b.length = m) := ⟨h1, k1⟩
  clear h1 h2 h3 h4 h5 k1 k2 k3 k4 k5 la lb
  obtain ⟨hn, hm⟩ := hnm
  go_enter Tryz.func56, Tryz.ntmps56
  go_wp2_with (at_make; refine wpList_make_g _ rfl _ _ 28 rfl 3 116 (.agg #[.int .i64 0, .bool false, .slice none 0 0]) 40 Tryz.und_parts Tryz.info_part rfl (by decide) (nuP _ _ _ _ _) _ _ _ _ 0 (n + m) rfl rfl rfl (by simp) (by decide) (Nat.zero_le _) (by omega) ?_; intro w1 xs0 hL0 hB0 hS0; have hxs0 : xs0 = [] := List.eq_nil_of_length_eq_zero (by simpa using hL0.1); subst hxs0)
  go_loopw [0, 1, 6] (fun u v o wr => ∃ (us vs ps : List (Nat × Int)) (xs : List Value), Hid (PTS us u w ∧ PTS vs v w ∧ Fine us ∧ Fine vs) ∧ Hid (addP a b = ps ++ addP us vs ∧ (addFits a b ↔ addFits us vs) ∧ ps.length + (us.length + vs.length) ≤ 8192) ∧ LstG 3 116 w.heap.size wr o ps.length xs ∧ ElsP wr xs ps ∧ o ≠ .slice none 0 0 ∧ Below w.heap.size w wr) (fun u v _ _ => sLen u + sLen v)
  case atStart => exact ⟨a, b, [], [], ⟨HA0.out, HB0.out, HF.out.1, HF.out.2⟩, ⟨rfl, Iff.rfl, by have := HLN.out; simp; omega⟩, hL0, ElsP.nil _, (fun h => by cases h), hB0⟩
  case round =>
    clear hL0 hB0 hS0
    obtain ⟨us, vs, ps, xs, HP, HI, hL, hE, hne, hbw⟩ := hrel
    rcases us with _ | ⟨⟨pv, pz⟩, us⟩
    · obtain ⟨ao1, n1, c1, rfl, h1, h2, h3, h4, h5⟩ := HP.out.1
      obtain ⟨bo1, m1, d1, rfl, k1, k2, k3, k4, k5⟩ := HP.out.2.1
      have HQ : Hid (PArr w ao1 [] ∧ PArr w bo1 vs ∧ (ao1 = none → c1 = 0) ∧ (bo1 = none → d1 = 0) ∧ [].length = n1 ∧ vs.length = m1) := ⟨h5, k5, h4, k4, h1, k1⟩
      have HN : Hid (ps.length + ([].length + vs.length) ≤ 8192) := HI.out.2.2
      clear h4 h5 k4 k5
      unfold maxLen at h3 k3
      have e0 : n1 = 0 := h1.symm
      subst e0
      clear h1 k1
      go_wp2_with (first
        | (at_builtin; refine wpList_append_pts rfl (.tmp 90) (.tmp 91) 28 rfl w.heap.size 40 Tryz.und_parts Tryz.info_part (by decide) _ ps xs rfl hL hE [] _ _ _ rfl HQ.out.2.2.2.2.1 HQ.out.2.2.1 h2 (HQ.out.1.below hbw) (by have := HN.out; have := HQ.out.2.2.2.2; omega) hbw.size ?_; intro v1 w1 ys1 hL1 hE1 hA1 hnn1; have hbw1 := hbw.trans hA1.bel; replace hne := hnn1 hne; clear hL hE hnn1 hA1)
        | (at_builtin; refine wpList_append_pts rfl (.tmp 93) (.tmp 94) 28 rfl w.heap.size 40 Tryz.und_parts Tryz.info_part (by decide) _ (ps ++ []) ys1 rfl hL1 hE1 vs _ _ _ rfl HQ.out.2.2.2.2.2 HQ.out.2.2.2.1 k2 (HQ.out.2.1.below hbw1) (by have := HN.out; have := HQ.out.2.2.2.2; rw [List.length_append]; omega) hbw1.size ?_; intro v2 w2 ys2 hL2 hE2 hA2 hnn2; have hbw2 := hbw1.trans hA2.bel; obtain ⟨ao3, c3, rfl, q1, q2, q3, q4⟩ := hL2.parr hE2 rfl; clear hL2 hE2 hA2 hnn2))
      go_ret2
      refine ⟨_, _, rfl, Or.inl ⟨?_, rfl, ?_⟩, hbw2⟩
      · rw [HI.out.2.1]; first | exact fits_nil_left HP.out.2.2.2 | exact fits_nil_right HP.out.2.2.1
      · have e9 : addP a b = ps ++ [] ++ vs := by rw [HI.out.1]; simp [addP_nil_left]
        rw [e9]; exact ⟨_, _, _, rfl, by simp, by simpa using q1, q2, q3, q4⟩
    · rcases vs with _ | ⟨⟨qv, qz⟩, vs⟩
      · obtain ⟨ao1, n1, c1, rfl, h1, h2, h3, h4, h5⟩ := HP.out.1
        obtain ⟨bo1, m1, d1, rfl, k1, k2, k3, k4, k5⟩ := HP.out.2.1
        have HQ : Hid (PArr w ao1 ((pv, pz) :: us) ∧ PArr w bo1 [] ∧ (ao1 = none → c1 = 0) ∧ (bo1 = none → d1 = 0) ∧ ((pv, pz) :: us).length = n1 ∧ [].length = m1) := ⟨h5, k5, h4, k4, h1, k1⟩
        have HN : Hid (ps.length + (((pv, pz) :: us).length + [].length) ≤ 8192) := HI.out.2.2
        clear h4 h5 k4 k5
        unfold maxLen at h3 k3
        have e0 : m1 = 0 := k1.symm
        subst e0
        have e1 : 0 < n1 := by rw [← h1]; simp
        clear h1 k1
        go_wp2_with (first
          | (at_builtin; refine wpList_append_pts rfl (.tmp 90) (.tmp 91) 28 rfl w.heap.size 40 Tryz.und_parts Tryz.info_part (by decide) _ ps xs rfl hL hE ((pv, pz) :: us) _ _ _ rfl HQ.out.2.2.2.2.1 HQ.out.2.2.1 h2 (HQ.out.1.below hbw) (by have := HN.out; have := HQ.out.2.2.2.2; omega) hbw.size ?_; intro v1 w1 ys1 hL1 hE1 hA1 hnn1; have hbw1 := hbw.trans hA1.bel; replace hne := hnn1 hne; clear hL hE hnn1 hA1)
          | (at_builtin; refine wpList_append_pts rfl (.tmp 93) (.tmp 94) 28 rfl w.heap.size 40 Tryz.und_parts Tryz.info_part (by decide) _ (ps ++ ((pv, pz) :: us)) ys1 rfl hL1 hE1 [] _ _ _ rfl HQ.out.2.2.2.2.2 HQ.out.2.2.2.1 k2 (HQ.out.2.1.below hbw1) (by have := HN.out; have := HQ.out.2.2.2.2; rw [List.length_append]; omega) hbw1.size ?_; intro v2 w2 ys2 hL2 hE2 hA2 hnn2; have hbw2 := hbw1.trans hA2.bel; obtain ⟨ao3, c3, rfl, q1, q2, q3, q4⟩ := hL2.parr hE2 rfl; clear hL2 hE2 hA2 hnn2))
        go_ret2
        refine ⟨_, _, rfl, Or.inl ⟨?_, rfl, ?_⟩, hbw2⟩
        · rw [HI.out.2.1]; first | exact fits_nil_left HP.out.2.2.2 | exact fits_nil_right HP.out.2.2.1
        · have e9 : addP a b = ps ++ ((pv, pz) :: us) ++ [] := by rw [HI.out.1]; simp [addP_nil_right]
          rw [e9]; exact ⟨_, _, _, rfl, by simp, by simpa using q1, q2, q3, q4⟩
      · obtain ⟨ga, oa, na, ca, sa, aa, ma, fa, rfl, ea, la1, la2, a0, a1, a2, hza, hta⟩ := HP.out.1.head
        obtain ⟨gb, ob, nb, cb, sb, ab, mb, fb_, rfl, eb, lb1, lb2, b0, b1, b2, hzb, htb⟩ := HP.out.2.1.head
        have HTA : Hid (PTS us (.slice (if ca = 1 then some ⟨ga, oa, none⟩ else some ⟨ga, oa + 3, none⟩) (na - 1) (ca - 1)) w) := hta
        have HTB : Hid (PTS vs (.slice (if cb = 1 then some ⟨gb, ob, none⟩ else some ⟨gb, ob + 3, none⟩) (nb - 1) (cb - 1)) w) := htb
        have HEA : Hid (na = us.length + 1 ∧ nb = vs.length + 1) := ⟨ea, eb⟩
        have pa : 0 < na := by omega
        have pb : 0 < nb := by omega
        have pa1 : (1 : Int) ≤ na := by omega
        have pb1 : (1 : Int) ≤ nb := by omega
        clear ea eb hta htb
        unfold maxLen at la2 lb2
        have A0 := (hbw.cell (p := ⟨ga, oa, none⟩) (World.block_lt_of_cell? w _ a0)).trans a0
        have B0 := (hbw.cell (p := ⟨gb, ob, none⟩) (World.block_lt_of_cell? w _ b0)).trans b0
        by_cases hlt : pv < qv
        · have HLT : Hid (pv < qv) := hlt
          have hlt1 : (pv : Int) < qv := by omega
          go_wp2
          go_region
          go_wp2
          have HXL : Hid (xs.length = ps.length * 3) := hL.1
          replace hL := hL.below (Below.refl _ _).drew
          replace hE := hE.keep (KeepN.below (Below.refl _ _).drew)
          replace hbw := hbw.drew
          clear A0 B0
          generalize wr.drew = W at hL hE hbw ⊢
          have hLb := hbw.size
          have hLg := Nat.le_refl w.heap.size
          have hbW := hbw
          refine wp_region_M2 (by kernel_rfl) [0, 6, 64, 65, 66, 67, 68, 69, 70, 71] [some 0, none, none, none, none, none, some 6, none, none, none, none, none, none, none, none, none, none, none, none, none, none, none, none, none, none, none, none, none, none, none, none, none, none, none, none, none, none, none, none, none, none, none, none, none, none, none, none, none, none, none, none, none, none, none, none, none, none, none, none, none, none, none, none, none, some 64, some 65, some 66, some 67, some 68, some 69, some 70, some 71] (fun U => by kernel_rfl) (fun L U wr => Below w.heap.size w wr ∧ KeepN W wr ∧ W.heap.size ≤ wr.heap.size ∧ (L 5 = false → LstG 3 116 w.heap.size wr u6 ps.length xs) ∧ (L 8 = false → U 6 = (u6)) ∧ (L 9 = false → U 0 = (.slice (some ⟨ga, oa, none⟩) na ca)) ∧ (L 0 = true → IS (u6) (U 64) wr) ∧ (L 1 = true → IS (.slice (some ⟨ga, oa, none⟩) na ca) (U 65) wr) ∧ (L 2 = true → IS (.pointer (some ⟨ga, oa, none⟩)) (U 66) wr) ∧ (L 3 = true → IS (.agg #[.int .i64 (pv : Nat), .bool sa, .slice aa ma fa]) (U 67) wr) ∧ (L 4 = true → L 5 = false → ONE 116 #[.int .i64 (pv : Nat), .bool sa, .slice aa ma fa] (U 68) wr) ∧ (L 5 = true → LstG 3 116 w.heap.size wr (U 69) (ps.length + 1) (xs ++ [.int .i64 (pv : Nat), .bool sa, .slice aa ma fa]) ∧ U 69 ≠ .slice none 0 0) ∧ (L 6 = true → IS (.slice (some ⟨ga, oa, none⟩) na ca) (U 70) wr) ∧ (L 7 = true → IS (.slice (if ca = 1 then some ⟨ga, oa, none⟩ else some ⟨ga, oa + 3, none⟩) (na - 1) (ca - 1)) (U 71) wr) ∧ (L 8 = true → L 5 = true ∧ U 6 = U 69) ∧ (L 9 = true → IS (.slice (if ca = 1 then some ⟨ga, oa, none⟩ else some ⟨ga, oa + 3, none⟩) (na - 1) (ca - 1)) (U 0) wr) ∧ (L 5 = true → L 0 = true) ∧ (L 5 = true → L 4 = true) ∧ (L 8 = true → L 0 = true) ∧ (L 9 = true → L 1 = true) ∧ (L 9 = true → L 6 = true)) (by kernel_rfl) ?_ ?_ ?_
          · exact ⟨hbw.drew, KeepN.below (Below.refl _ _).drew, Nat.le_refl _, (fun _ => hL.below (Below.refl _ _).drew), (fun _ => rfl), (fun _ => rfl), (fun h => by cases h), (fun h => by cases h), (fun h => by cases h), (fun h => by cases h), (fun h => by cases h), (fun h => by cases h), (fun h => by cases h), (fun h => by cases h), (fun h => by cases h), (fun h => by cases h), (fun h => by cases h), (fun h => by cases h), (fun h => by cases h), (fun h => by cases h), (fun h => by cases h)⟩
          · refine StepsU.run rfl ?_ ?_
            · intro L U wr hF hlk haf A K hA hK
              have HA : Hid (A = putAll _ _ U) := hA
              clear hA
              simp [Aft, Region.binds] at haf
              obtain ⟨fb, fk, fs, fl, v6, v0, f0, f1, f2, f3, f4, f5, f6, f7, f8, f9, p0, p4, z8_0, z9_1, z9_6⟩ := hF
              have hw : L 8 = false := by cases h : L 8 with | false => rfl | true => rw [z8_0 h] at hlk; cases hlk
              have e6 := rd HA.out 6 (by kernel_rfl) (v6 hw)
              refine ⟨?_⟩
              go_simp
              refine hK (upd U 64 (u6)) _ _ ?_ ?_
              · rw [HA.out]; kernel_rfl
              · exact ⟨fb, fk, fs, fl, v6, v0, (fun _ => rfl), f1, f2, f3, f4, f5, f6, f7, f8, f9, (fun _ => rfl), p4, (fun _ => rfl), z9_1, z9_6⟩
            refine StepsU.run rfl ?_ ?_
            · intro L U wr hF hlk haf A K hA hK
              have HA : Hid (A = putAll _ _ U) := hA
              clear hA
              simp [Aft, Region.binds] at haf
              obtain ⟨fb, fk, fs, fl, v6, v0, f0, f1, f2, f3, f4, f5, f6, f7, f8, f9, p0, p4, z8_0, z9_1, z9_6⟩ := hF
              have hw : L 9 = false := by cases h : L 9 with | false => rfl | true => rw [z9_1 h] at hlk; cases hlk
              have e0 := rd HA.out 0 (by kernel_rfl) (v0 hw)
              refine ⟨?_⟩
              go_simp
              refine hK (upd U 65 (.slice (some ⟨ga, oa, none⟩) na ca)) _ _ ?_ ?_
              · rw [HA.out]; kernel_rfl
              · exact ⟨fb, fk, fs, fl, v6, v0, f0, (fun _ => rfl), f2, f3, f4, f5, f6, f7, f8, f9, p0, p4, z8_0, (fun _ => rfl), z9_6⟩
            refine StepsU.run rfl ?_ ?_
            · intro L U wr hF hlk haf A K hA hK
              have HA : Hid (A = putAll _ _ U) := hA
              clear hA
              simp [Aft, Region.binds] at haf
              obtain ⟨fb, fk, fs, fl, v6, v0, f0, f1, f2, f3, f4, f5, f6, f7, f8, f9, p0, p4, z8_0, z9_1, z9_6⟩ := hF
              have g1 := f1 (by simp [haf])
              have e65 := rd HA.out 65 (by kernel_rfl) g1
              refine ⟨?_⟩
              go_simp
              refine hK (upd U 66 (.pointer (some ⟨ga, oa, none⟩))) _ _ ?_ ?_
              · rw [HA.out]; kernel_rfl
              · exact ⟨fb, fk, fs, fl, v6, v0, f0, f1, (fun _ => rfl), f3, f4, f5, f6, f7, f8, f9, p0, p4, z8_0, z9_1, z9_6⟩
            refine StepsU.run rfl ?_ ?_
            · intro L U wr hF hlk haf A K hA hK
              have HA : Hid (A = putAll _ _ U) := hA
              clear hA
              simp [Aft, Region.binds] at haf
              obtain ⟨fb, fk, fs, fl, v6, v0, f0, f1, f2, f3, f4, f5, f6, f7, f8, f9, p0, p4, z8_0, z9_1, z9_6⟩ := hF
              have g2 := f2 (by simp [haf])
              have ka0 := (fb.cell (p := ⟨ga, oa, none⟩) (World.block_lt_of_cell? w _ a0)).trans a0
              have ka1 := (fb.cell (p := ⟨ga, oa + 1, none⟩) (World.block_lt_of_cell? w _ a1)).trans a1
              have ka2 := (fb.cell (p := ⟨ga, oa + 2, none⟩) (World.block_lt_of_cell? w _ a2)).trans a2
              have e66 := rd HA.out 66 (by kernel_rfl) g2
              refine ⟨?_⟩
              go_simp
              refine hK (upd U 67 (.agg #[.int .i64 (pv : Nat), .bool sa, .slice aa ma fa])) _ _ ?_ ?_
              · rw [HA.out]; kernel_rfl
              · exact ⟨fb, fk, fs, fl, v6, v0, f0, f1, f2, (fun _ => rfl), f4, f5, f6, f7, f8, f9, p0, p4, z8_0, z9_1, z9_6⟩
            refine StepsU.run rfl ?_ ?_
            · intro L U wr hF hlk haf A K hA hK
              have HA : Hid (A = putAll _ _ U) := hA
              clear hA
              simp [Aft, Region.binds] at haf
              obtain ⟨fb, fk, fs, fl, v6, v0, f0, f1, f2, f3, f4, f5, f6, f7, f8, f9, p0, p4, z8_0, z9_1, z9_6⟩ := hF
              have g3 := f3 (by simp [haf])
              have e67 := rd HA.out 67 (by kernel_rfl) g3
              have hap : L 5 = false := by cases h : L 5 with | false => rfl | true => rw [p4 h] at hlk; cases hlk
              refine ⟨?_⟩
              go_simp
              have hb := below_new wr (.cells #[.int .i64 (pv : Nat), .bool sa, .slice aa ma fa] 116 (0, 0))
              refine hK (upd U 68 (.slice (some ⟨wr.heap.size, 0, none⟩) 1 1)) _ _ ?_ ?_
              · rw [HA.out]; kernel_rfl
              · exact ⟨(fb.step hb (Nat.le_refl _)), (fk.trans (KeepN.below hb)), (Nat.le_trans fs hb.size), (fun h => (fl h).below hb), v6, v0, (mvN mn_is (KeepN.below hb) f0), (mvN mn_is (KeepN.below hb) f1), (mvN mn_is (KeepN.below hb) f2), (mvN mn_is (KeepN.below hb) f3), (fun _ _ => ⟨wr.heap.size, rfl, Blk.new wr 116 #[.int .i64 (pv : Nat), .bool sa, .slice aa ma fa]⟩), (fun h => ⟨(f5 h).1.below hb, (f5 h).2⟩), (mvN mn_is (KeepN.below hb) f6), (mvN mn_is (KeepN.below hb) f7), f8, (mvN mn_is (KeepN.below hb) f9), p0, (fun _ => rfl), z8_0, z9_1, z9_6⟩
            refine StepsU.run rfl ?_ ?_
            · intro L U wr hF hlk haf A K hA hK
              have HA : Hid (A = putAll _ _ U) := hA
              clear hA
              simp [Aft, Region.binds] at haf
              obtain ⟨fb, fk, fs, fl, v6, v0, f0, f1, f2, f3, f4, f5, f6, f7, f8, f9, p0, p4, z8_0, z9_1, z9_6⟩ := hF
              have g0 := f0 (by simp [haf])
              have g4 := f4 (by simp [haf]) hlk
              obtain ⟨gb, hgb, hBb⟩ := g4
              have e64 := rd HA.out 64 (by kernel_rfl) g0
              have e68 := rd HA.out 68 (by kernel_rfl) hgb
              refine ⟨?_⟩
              refine wp_append_g (.tmp 64) (.tmp 68) 28 rfl 3 w.heap.size 116 (.agg #[.int .i64 0, .bool false, .slice none 0 0]) 40 Tryz.und_parts Tryz.info_part (by decide) rfl (by decide) (nuP _ _ _ _ _) (by decide) u6 ps.length xs (by simp [Act.eval, e64]) (fl hlk) ⟨gb, 0, none⟩ 1 1 [.int .i64 (pv : Nat), .bool sa, .slice aa ma fa] (by simp [Act.eval, e68]) rfl ?_ (by intro u hu; simp at hu; rcases hu with rfl | rfl | rfl <;> rfl) (nuP _ _ _ _ _) (Or.inl (by decide)) (by have := HI.out.2.2; omega) (Nat.le_trans hLb fs) ?_
              · intro j u hj
                match j, hj with
                | 0, hj => simp at hj; subst hj; exact hBb.cell 0
                | 1, hj => simp at hj; subst hj; exact hBb.cell 1
                | 2, hj => simp at hj; subst hj; exact hBb.cell 2
                | j + 3, hj => simp at hj
              · intro v' w1 hL1 hA1 hnn1
                refine hK (upd U 69 v') _ _ ?_ ?_
                · rw [HA.out]; kernel_rfl
                · exact ⟨(fb.trans (hA1.bel.mono hLg)), (fk.trans hA1.keep), (Nat.le_trans fs hA1.size), (fun h => by cases h), v6, v0, (mvN mn_is hA1.keep f0), (mvN mn_is hA1.keep f1), (mvN mn_is hA1.keep f2), (mvN mn_is hA1.keep f3), (fun _ h => by cases h), (fun _ => ⟨hL1, hnn1⟩), (mvN mn_is hA1.keep f6), (mvN mn_is hA1.keep f7), (fun h => by have h1 := (f8 h).1; rw [hlk] at h1; cases h1), (mvN mn_is hA1.keep f9), (fun _ => by simp [haf]), (fun _ => by simp [haf]), z8_0, z9_1, z9_6⟩
            refine StepsU.run rfl ?_ ?_
            · intro L U wr hF hlk haf A K hA hK
              have HA : Hid (A = putAll _ _ U) := hA
              clear hA
              simp [Aft, Region.binds] at haf
              obtain ⟨fb, fk, fs, fl, v6, v0, f0, f1, f2, f3, f4, f5, f6, f7, f8, f9, p0, p4, z8_0, z9_1, z9_6⟩ := hF
              have hw : L 9 = false := by cases h : L 9 with | false => rfl | true => rw [z9_6 h] at hlk; cases hlk
              have e0 := rd HA.out 0 (by kernel_rfl) (v0 hw)
              refine ⟨?_⟩
              go_simp
              refine hK (upd U 70 (.slice (some ⟨ga, oa, none⟩) na ca)) _ _ ?_ ?_
              · rw [HA.out]; kernel_rfl
              · exact ⟨fb, fk, fs, fl, v6, v0, f0, f1, f2, f3, f4, f5, (fun _ => rfl), f7, f8, f9, p0, p4, z8_0, z9_1, (fun _ => rfl)⟩
            refine StepsU.run rfl ?_ ?_
            · intro L U wr hF hlk haf A K hA hK
              have HA : Hid (A = putAll _ _ U) := hA
              clear hA
              simp [Aft, Region.binds] at haf
              obtain ⟨fb, fk, fs, fl, v6, v0, f0, f1, f2, f3, f4, f5, f6, f7, f8, f9, p0, p4, z8_0, z9_1, z9_6⟩ := hF
              have g6 := f6 (by simp [haf])
              have e70 := rd HA.out 70 (by kernel_rfl) g6
              refine ⟨?_⟩
              go_simp
              refine hK (upd U 71 (.slice (if ca = 1 then some ⟨ga, oa, none⟩ else some ⟨ga, oa + 3, none⟩) (na - 1) (ca - 1))) _ _ ?_ ?_
              · rw [HA.out]; kernel_rfl
              · exact ⟨fb, fk, fs, fl, v6, v0, f0, f1, f2, f3, f4, f5, f6, (fun _ => rfl), f8, f9, p0, p4, z8_0, z9_1, z9_6⟩
            refine StepsU.run rfl ?_ ?_
            · intro L U wr hF hlk haf A K hA hK
              have HA : Hid (A = putAll _ _ U) := hA
              clear hA
              simp [Aft, Region.binds] at haf
              obtain ⟨fb, fk, fs, fl, v6, v0, f0, f1, f2, f3, f4, f5, f6, f7, f8, f9, p0, p4, z8_0, z9_1, z9_6⟩ := hF
              have e69 := rd HA.out 69 (by kernel_rfl) rfl
              refine ⟨?_⟩
              go_simp
              refine hK (upd U 6 (U 69)) _ _ ?_ ?_
              · rw [HA.out]; kernel_rfl
              · exact ⟨fb, fk, fs, fl, (fun h => by cases h), v0, f0, f1, f2, f3, f4, f5, f6, f7, (fun _ => ⟨by simp [haf], rfl⟩), f9, p0, p4, (fun _ => by simp [haf]), z9_1, z9_6⟩
            refine StepsU.run rfl ?_ StepsU.nil
            · intro L U wr hF hlk haf A K hA hK
              have HA : Hid (A = putAll _ _ U) := hA
              clear hA
              simp [Aft, Region.binds] at haf
              obtain ⟨fb, fk, fs, fl, v6, v0, f0, f1, f2, f3, f4, f5, f6, f7, f8, f9, p0, p4, z8_0, z9_1, z9_6⟩ := hF
              have g7 := f7 (by simp [haf])
              have e71 := rd HA.out 71 (by kernel_rfl) rfl
              refine ⟨?_⟩
              go_simp
              refine hK (upd U 0 (U 71)) _ _ ?_ ?_
              · rw [HA.out]; kernel_rfl
              · exact ⟨fb, fk, fs, fl, v6, (fun h => by cases h), f0, f1, f2, f3, f4, f5, f6, f7, f8, (fun _ => g7), p0, p4, z8_0, (fun _ => by simp [haf]), (fun _ => by simp [haf])⟩
          clear hbw hL
          intro L U1 V hall hF
          obtain ⟨hbw, fk, fs, fl, v6, v0, f0, f1, f2, f3, f4, f5, f6, f7, f8, f9, p0, p4, z8_0, z9_1, z9_6⟩ := hF
          clear fl v6 v0 p0 p4 z8_0 z9_1 z9_6
          have g0 := f0 (hall 0 (by decide))
          have g1 := f1 (hall 1 (by decide))
          have g2 := f2 (hall 2 (by decide))
          have g3 := f3 (hall 3 (by decide))
          have g5 := f5 (hall 5 (by decide))
          have g6 := f6 (hall 6 (by decide))
          have g7 := f7 (hall 7 (by decide))
          have g8 := f8 (hall 8 (by decide))
          have g9 := f9 (hall 9 (by decide))
          clear hall f0 f1 f2 f3 f4 f5 f6 f7 f8 f9
          try clear g0
          try clear g1
          try clear g2
          try clear g3
          try clear g6
          try clear g7
          clear hbW
          simp only [setM_some, setM_none, setM_nil]
          obtain ⟨hL2, hne2⟩ := g5
          have e6 := g8.2
          rw [← e6] at hL2 hne2
          have HE6 : Hid (U1 6 = _) := e6
          clear g8 e6
          have hE2 := (hE.keep fk).app HXL.out (ElsP.one (v := (pv, pz).1) (z := (pv, pz).2) (hza.below hbw))
          go_wp2
          go_roundw
          case rel =>
            refine ⟨us, (qv, qz) :: vs, ps ++ [(pv, pz)], xs ++ [.int .i64 (pv : Nat), .bool sa, .slice aa ma fa], ⟨by rw [show U1 0 = _ from g9]; exact HTA.out, HP.out.2.1, HP.out.2.2.1.tail, HP.out.2.2.2⟩, ⟨?_, ?_, ?_⟩, ?_, hE2, hne2, hbw⟩
            · rw [HI.out.1, addP_lt HLT.out, List.append_assoc]; rfl
            · rw [HI.out.2.1, fits_lt HP.out.2.2.1 HP.out.2.2.2 HLT.out]
            · have := HI.out.2.2; simp only [List.length_cons, List.length_append, List.length_nil] at this ⊢; omega
            · rw [List.length_append]; exact hL2
          case measure =>
            rw [show U1 0 = _ from g9]; simp [sLen]; omega
        · by_cases hgt : qv < pv
          · have HLT : Hid (qv < pv) := hgt
            have hgt1 : (qv : Int) < pv := by omega
            have hlt1 : ¬ (pv : Int) < qv := by omega
            go_wp2
            go_region
            go_wp2
            go_region
            go_wp2
            have HXL : Hid (xs.length = ps.length * 3) := hL.1
            replace hL := hL.below (Below.refl _ _).drew.drew
            replace hE := hE.keep (KeepN.below (Below.refl _ _).drew.drew)
            replace hbw := hbw.drew.drew
            clear A0 B0
            generalize wr.drew.drew = W at hL hE hbw ⊢
            have hLb := hbw.size
            have hLg := Nat.le_refl w.heap.size
            have hbW := hbw
            refine wp_region_M2 (by kernel_rfl) [1, 6, 82, 83, 84, 85, 86, 87, 88, 89] [none, some 1, none, none, none, none, some 6, none, none, none, none, none, none, none, none, none, none, none, none, none, none, none, none, none, none, none, none, none, none, none, none, none, none, none, none, none, none, none, none, none, none, none, none, none, none, none, none, none, none, none, none, none, none, none, none, none, none, none, none, none, none, none, none, none, none, none, none, none, none, none, none, none, none, none, none, none, none, none, none, none, none, none, some 82, some 83, some 84, some 85, some 86, some 87, some 88, some 89] (fun U => by kernel_rfl) (fun L U wr => Below w.heap.size w wr ∧ KeepN W wr ∧ W.heap.size ≤ wr.heap.size ∧ (L 5 = false → LstG 3 116 w.heap.size wr u6 ps.length xs) ∧ (L 8 = false → U 6 = (u6)) ∧ (L 9 = false → U 1 = (.slice (some ⟨gb, ob, none⟩) nb cb)) ∧ (L 0 = true → IS (u6) (U 82) wr) ∧ (L 1 = true → IS (.slice (some ⟨gb, ob, none⟩) nb cb) (U 83) wr) ∧ (L 2 = true → IS (.pointer (some ⟨gb, ob, none⟩)) (U 84) wr) ∧ (L 3 = true → IS (.agg #[.int .i64 (qv : Nat), .bool sb, .slice ab mb fb_]) (U 85) wr) ∧ (L 4 = true → L 5 = false → ONE 116 #[.int .i64 (qv : Nat), .bool sb, .slice ab mb fb_] (U 86) wr) ∧ (L 5 = true → LstG 3 116 w.heap.size wr (U 87) (ps.length + 1) (xs ++ [.int .i64 (qv : Nat), .bool sb, .slice ab mb fb_]) ∧ U 87 ≠ .slice none 0 0) ∧ (L 6 = true → IS (.slice (some ⟨gb, ob, none⟩) nb cb) (U 88) wr) ∧ (L 7 = true → IS (.slice (if cb = 1 then some ⟨gb, ob, none⟩ else some ⟨gb, ob + 3, none⟩) (nb - 1) (cb - 1)) (U 89) wr) ∧ (L 8 = true → L 5 = true ∧ U 6 = U 87) ∧ (L 9 = true → IS (.slice (if cb = 1 then some ⟨gb, ob, none⟩ else some ⟨gb, ob + 3, none⟩) (nb - 1) (cb - 1)) (U 1) wr) ∧ (L 5 = true → L 0 = true) ∧ (L 5 = true → L 4 = true) ∧ (L 8 = true → L 0 = true) ∧ (L 9 = true → L 1 = true) ∧ (L 9 = true → L 6 = true)) (by kernel_rfl) ?_ ?_ ?_
            · exact ⟨hbw.drew, KeepN.below (Below.refl _ _).drew, Nat.le_refl _, (fun _ => hL.below (Below.refl _ _).drew), (fun _ => rfl), (fun _ => rfl), (fun h => by cases h), (fun h => by cases h), (fun h => by cases h), (fun h => by cases h), (fun h => by cases h), (fun h => by cases h), (fun h => by cases h), (fun h => by cases h), (fun h => by cases h), (fun h => by cases h), (fun h => by cases h), (fun h => by cases h), (fun h => by cases h), (fun h => by cases h), (fun h => by cases h)⟩
            · refine StepsU.run rfl ?_ ?_
              · intro L U wr hF hlk haf A K hA hK
                have HA : Hid (A = putAll _ _ U) := hA
                clear hA
                simp [Aft, Region.binds] at haf
                obtain ⟨fb, fk, fs, fl, v6, v1, f0, f1, f2, f3, f4, f5, f6, f7, f8, f9, p0, p4, z8_0, z9_1, z9_6⟩ := hF
                have hw : L 8 = false := by cases h : L 8 with | false => rfl | true => rw [z8_0 h] at hlk; cases hlk
                have e6 := rd HA.out 6 (by kernel_rfl) (v6 hw)
                refine ⟨?_⟩
                go_simp
                refine hK (upd U 82 (u6)) _ _ ?_ ?_
                · rw [HA.out]; kernel_rfl
                · exact ⟨fb, fk, fs, fl, v6, v1, (fun _ => rfl), f1, f2, f3, f4, f5, f6, f7, f8, f9, (fun _ => rfl), p4, (fun _ => rfl), z9_1, z9_6⟩
              refine StepsU.run rfl ?_ ?_
              · intro L U wr hF hlk haf A K hA hK
                have HA : Hid (A = putAll _ _ U) := hA
                clear hA
                simp [Aft, Region.binds] at haf
                obtain ⟨fb, fk, fs, fl, v6, v1, f0, f1, f2, f3, f4, f5, f6, f7, f8, f9, p0, p4, z8_0, z9_1, z9_6⟩ := hF
                have hw : L 9 = false := by cases h : L 9 with | false => rfl | true => rw [z9_1 h] at hlk; cases hlk
                have e1 := rd HA.out 1 (by kernel_rfl) (v1 hw)
                refine ⟨?_⟩
                go_simp
                refine hK (upd U 83 (.slice (some ⟨gb, ob, none⟩) nb cb)) _ _ ?_ ?_
                · rw [HA.out]; kernel_rfl
                · exact ⟨fb, fk, fs, fl, v6, v1, f0, (fun _ => rfl), f2, f3, f4, f5, f6, f7, f8, f9, p0, p4, z8_0, (fun _ => rfl), z9_6⟩
              refine StepsU.run rfl ?_ ?_
              · intro L U wr hF hlk haf A K hA hK
                have HA : Hid (A = putAll _ _ U) := hA
                clear hA
                simp [Aft, Region.binds] at haf
                obtain ⟨fb, fk, fs, fl, v6, v1, f0, f1, f2, f3, f4, f5, f6, f7, f8, f9, p0, p4, z8_0, z9_1, z9_6⟩ := hF
                have g1 := f1 (by simp [haf])
                have e83 := rd HA.out 83 (by kernel_rfl) g1
                refine ⟨?_⟩
                go_simp
                refine hK (upd U 84 (.pointer (some ⟨gb, ob, none⟩))) _ _ ?_ ?_
                · rw [HA.out]; kernel_rfl
                · exact ⟨fb, fk, fs, fl, v6, v1, f0, f1, (fun _ => rfl), f3, f4, f5, f6, f7, f8, f9, p0, p4, z8_0, z9_1, z9_6⟩
              refine StepsU.run rfl ?_ ?_
              · intro L U wr hF hlk haf A K hA hK
                have HA : Hid (A = putAll _ _ U) := hA
                clear hA
                simp [Aft, Region.binds] at haf
                obtain ⟨fb, fk, fs, fl, v6, v1, f0, f1, f2, f3, f4, f5, f6, f7, f8, f9, p0, p4, z8_0, z9_1, z9_6⟩ := hF
                have g2 := f2 (by simp [haf])
                have kb0 := (fb.cell (p := ⟨gb, ob, none⟩) (World.block_lt_of_cell? w _ b0)).trans b0
                have kb1 := (fb.cell (p := ⟨gb, ob + 1, none⟩) (World.block_lt_of_cell? w _ b1)).trans b1
                have kb2 := (fb.cell (p := ⟨gb, ob + 2, none⟩) (World.block_lt_of_cell? w _ b2)).trans b2
                have e84 := rd HA.out 84 (by kernel_rfl) g2
                refine ⟨?_⟩
                go_simp
                refine hK (upd U 85 (.agg #[.int .i64 (qv : Nat), .bool sb, .slice ab mb fb_])) _ _ ?_ ?_
                · rw [HA.out]; kernel_rfl
                · exact ⟨fb, fk, fs, fl, v6, v1, f0, f1, f2, (fun _ => rfl), f4, f5, f6, f7, f8, f9, p0, p4, z8_0, z9_1, z9_6⟩
              refine StepsU.run rfl ?_ ?_
              · intro L U wr hF hlk haf A K hA hK
                have HA : Hid (A = putAll _ _ U) := hA
                clear hA
                simp [Aft, Region.binds] at haf
                obtain ⟨fb, fk, fs, fl, v6, v1, f0, f1, f2, f3, f4, f5, f6, f7, f8, f9, p0, p4, z8_0, z9_1, z9_6⟩ := hF
                have g3 := f3 (by simp [haf])
                have e85 := rd HA.out 85 (by kernel_rfl) g3
                have hap : L 5 = false := by cases h : L 5 with | false => rfl | true => rw [p4 h] at hlk; cases hlk
                refine ⟨?_⟩
                go_simp
                have hb := below_new wr (.cells #[.int .i64 (qv : Nat), .bool sb, .slice ab mb fb_] 116 (0, 0))
                refine hK (upd U 86 (.slice (some ⟨wr.heap.size, 0, none⟩) 1 1)) _ _ ?_ ?_
                · rw [HA.out]; kernel_rfl
                · exact ⟨(fb.step hb (Nat.le_refl _)), (fk.trans (KeepN.below hb)), (Nat.le_trans fs hb.size), (fun h => (fl h).below hb), v6, v1, (mvN mn_is (KeepN.below hb) f0), (mvN mn_is (KeepN.below hb) f1), (mvN mn_is (KeepN.below hb) f2), (mvN mn_is (KeepN.below hb) f3), (fun _ _ => ⟨wr.heap.size, rfl, Blk.new wr 116 #[.int .i64 (qv : Nat), .bool sb, .slice ab mb fb_]⟩), (fun h => ⟨(f5 h).1.below hb, (f5 h).2⟩), (mvN mn_is (KeepN.below hb) f6), (mvN mn_is (KeepN.below hb) f7), f8, (mvN mn_is (KeepN.below hb) f9), p0, (fun _ => rfl), z8_0, z9_1, z9_6⟩
              refine StepsU.run rfl ?_ ?_
              · intro L U wr hF hlk haf A K hA hK
                have HA : Hid (A = putAll _ _ U) := hA
                clear hA
                simp [Aft, Region.binds] at haf
                obtain ⟨fb, fk, fs, fl, v6, v1, f0, f1, f2, f3, f4, f5, f6, f7, f8, f9, p0, p4, z8_0, z9_1, z9_6⟩ := hF
                have g0 := f0 (by simp [haf])
                have g4 := f4 (by simp [haf]) hlk
                obtain ⟨gb, hgb, hBb⟩ := g4
                have e82 := rd HA.out 82 (by kernel_rfl) g0
                have e86 := rd HA.out 86 (by kernel_rfl) hgb
                refine ⟨?_⟩
                refine wp_append_g (.tmp 82) (.tmp 86) 28 rfl 3 w.heap.size 116 (.agg #[.int .i64 0, .bool false, .slice none 0 0]) 40 Tryz.und_parts Tryz.info_part (by decide) rfl (by decide) (nuP _ _ _ _ _) (by decide) u6 ps.length xs (by simp [Act.eval, e82]) (fl hlk) ⟨gb, 0, none⟩ 1 1 [.int .i64 (qv : Nat), .bool sb, .slice ab mb fb_] (by simp [Act.eval, e86]) rfl ?_ (by intro u hu; simp at hu; rcases hu with rfl | rfl | rfl <;> rfl) (nuP _ _ _ _ _) (Or.inl (by decide)) (by have := HI.out.2.2; omega) (Nat.le_trans hLb fs) ?_
                · intro j u hj
                  match j, hj with
                  | 0, hj => simp at hj; subst hj; exact hBb.cell 0
                  | 1, hj => simp at hj; subst hj; exact hBb.cell 1
                  | 2, hj => simp at hj; subst hj; exact hBb.cell 2
                  | j + 3, hj => simp at hj
                · intro v' w1 hL1 hA1 hnn1
                  refine hK (upd U 87 v') _ _ ?_ ?_
                  · rw [HA.out]; kernel_rfl
                  · exact ⟨(fb.trans (hA1.bel.mono hLg)), (fk.trans hA1.keep), (Nat.le_trans fs hA1.size), (fun h => by cases h), v6, v1, (mvN mn_is hA1.keep f0), (mvN mn_is hA1.keep f1), (mvN mn_is hA1.keep f2), (mvN mn_is hA1.keep f3), (fun _ h => by cases h), (fun _ => ⟨hL1, hnn1⟩), (mvN mn_is hA1.keep f6), (mvN mn_is hA1.keep f7), (fun h => by have h1 := (f8 h).1; rw [hlk] at h1; cases h1), (mvN mn_is hA1.keep f9), (fun _ => by simp [haf]), (fun _ => by simp [haf]), z8_0, z9_1, z9_6⟩
              refine StepsU.run rfl ?_ ?_
              · intro L U wr hF hlk haf A K hA hK
                have HA : Hid (A = putAll _ _ U) := hA
                clear hA
                simp [Aft, Region.binds] at haf
                obtain ⟨fb, fk, fs, fl, v6, v1, f0, f1, f2, f3, f4, f5, f6, f7, f8, f9, p0, p4, z8_0, z9_1, z9_6⟩ := hF
                have hw : L 9 = false := by cases h : L 9 with | false => rfl | true => rw [z9_6 h] at hlk; cases hlk
                have e1 := rd HA.out 1 (by kernel_rfl) (v1 hw)
                refine ⟨?_⟩
                go_simp
                refine hK (upd U 88 (.slice (some ⟨gb, ob, none⟩) nb cb)) _ _ ?_ ?_
                · rw [HA.out]; kernel_rfl
                · exact ⟨fb, fk, fs, fl, v6, v1, f0, f1, f2, f3, f4, f5, (fun _ => rfl), f7, f8, f9, p0, p4, z8_0, z9_1, (fun _ => rfl)⟩
              refine StepsU.run rfl ?_ ?_
              · intro L U wr hF hlk haf A K hA hK
                have HA : Hid (A = putAll _ _ U) := hA
                clear hA
                simp [Aft, Region.binds] at haf
                obtain ⟨fb, fk, fs, fl, v6, v1, f0, f1, f2, f3, f4, f5, f6, f7, f8, f9, p0, p4, z8_0, z9_1, z9_6⟩ := hF
                have g6 := f6 (by simp [haf])
                have e88 := rd HA.out 88 (by kernel_rfl) g6
                refine ⟨?_⟩
                go_simp
                refine hK (upd U 89 (.slice (if cb = 1 then some ⟨gb, ob, none⟩ else some ⟨gb, ob + 3, none⟩) (nb - 1) (cb - 1))) _ _ ?_ ?_
                · rw [HA.out]; kernel_rfl
                · exact ⟨fb, fk, fs, fl, v6, v1, f0, f1, f2, f3, f4, f5, f6, (fun _ => rfl), f8, f9, p0, p4, z8_0, z9_1, z9_6⟩
              refine StepsU.run rfl ?_ ?_
              · intro L U wr hF hlk haf A K hA hK
                have HA : Hid (A = putAll _ _ U) := hA
                clear hA
                simp [Aft, Region.binds] at haf
                obtain ⟨fb, fk, fs, fl, v6, v1, f0, f1, f2, f3, f4, f5, f6, f7, f8, f9, p0, p4, z8_0, z9_1, z9_6⟩ := hF
                have e87 := rd HA.out 87 (by kernel_rfl) rfl
                refine ⟨?_⟩
                go_simp
                refine hK (upd U 6 (U 87)) _ _ ?_ ?_
                · rw [HA.out]; kernel_rfl
                · exact ⟨fb, fk, fs, fl, (fun h => by cases h), v1, f0, f1, f2, f3, f4, f5, f6, f7, (fun _ => ⟨by simp [haf], rfl⟩), f9, p0, p4, (fun _ => by simp [haf]), z9_1, z9_6⟩
              refine StepsU.run rfl ?_ StepsU.nil
              · intro L U wr hF hlk haf A K hA hK
                have HA : Hid (A = putAll _ _ U) := hA
                clear hA
                simp [Aft, Region.binds] at haf
                obtain ⟨fb, fk, fs, fl, v6, v1, f0, f1, f2, f3, f4, f5, f6, f7, f8, f9, p0, p4, z8_0, z9_1, z9_6⟩ := hF
                have g7 := f7 (by simp [haf])
                have e89 := rd HA.out 89 (by kernel_rfl) rfl
                refine ⟨?_⟩
                go_simp
                refine hK (upd U 1 (U 89)) _ _ ?_ ?_
                · rw [HA.out]; kernel_rfl
                · exact ⟨fb, fk, fs, fl, v6, (fun h => by cases h), f0, f1, f2, f3, f4, f5, f6, f7, f8, (fun _ => g7), p0, p4, z8_0, (fun _ => by simp [haf]), (fun _ => by simp [haf])⟩
            clear hbw hL
            intro L U1 V hall hF
            obtain ⟨hbw, fk, fs, fl, v6, v1, f0, f1, f2, f3, f4, f5, f6, f7, f8, f9, p0, p4, z8_0, z9_1, z9_6⟩ := hF
            clear fl v6 v1 p0 p4 z8_0 z9_1 z9_6
            have g0 := f0 (hall 0 (by decide))
            have g1 := f1 (hall 1 (by decide))
            have g2 := f2 (hall 2 (by decide))
            have g3 := f3 (hall 3 (by decide))
            have g5 := f5 (hall 5 (by decide))
            have g6 := f6 (hall 6 (by decide))
            have g7 := f7 (hall 7 (by decide))
            have g8 := f8 (hall 8 (by decide))
            have g9 := f9 (hall 9 (by decide))
            clear hall f0 f1 f2 f3 f4 f5 f6 f7 f8 f9
            try clear g0
            try clear g1
            try clear g2
            try clear g3
            try clear g6
            try clear g7
            clear hbW
            simp only [setM_some, setM_none, setM_nil]
            obtain ⟨hL2, hne2⟩ := g5
            have e6 := g8.2
            rw [← e6] at hL2 hne2
            have HE6 : Hid (U1 6 = _) := e6
            clear g8 e6
            have hE2 := (hE.keep fk).app HXL.out (ElsP.one (v := (qv, qz).1) (z := (qv, qz).2) (hzb.below hbw))
            go_wp2
            go_roundw
            case rel =>
              refine ⟨(pv, pz) :: us, vs, ps ++ [(qv, qz)], xs ++ [.int .i64 (qv : Nat), .bool sb, .slice ab mb fb_], ⟨HP.out.1, by rw [show U1 1 = _ from g9]; exact HTB.out, HP.out.2.2.1, HP.out.2.2.2.tail⟩, ⟨?_, ?_, ?_⟩, ?_, hE2, hne2, hbw⟩
              · rw [HI.out.1, addP_gt HLT.out, List.append_assoc]; rfl
              · rw [HI.out.2.1, fits_gt HP.out.2.2.1 HP.out.2.2.2 HLT.out]
              · have := HI.out.2.2; simp only [List.length_cons, List.length_append, List.length_nil] at this ⊢; omega
              · rw [List.length_append]; exact hL2
            case measure =>
              rw [show U1 1 = _ from g9]; simp [sLen]; omega
          · obtain rfl : pv = qv := by omega
            have hlt1 : ¬ (pv : Int) < pv := by omega
            clear hlt hgt
            go_wp2
            go_region
            go_wp2
            go_region
            go_wp2
            have HXL : Hid (xs.length = ps.length * 3) := hL.1
            replace hL := hL.below (Below.refl _ _).drew.drew
            replace hE := hE.keep (KeepN.below (Below.refl _ _).drew.drew)
            replace hbw := hbw.drew.drew
            clear A0 B0
            generalize wr.drew.drew = W at hL hE hbw ⊢
            have hLb := hbw.size
            have hLg := Nat.le_refl w.heap.size
            have hbW := hbw
            refine wp_region_M (by kernel_rfl) [7, 8, 23, 24, 25, 26, 27, 28, 29, 30, 31, 32, 33, 34] [none, none, none, none, none, none, none, some 7, some 8, none, none, none, none, none, none, none, none, none, none, none, none, none, none, some 23, some 24, some 25, some 26, some 27, some 28, some 29, some 30, some 31, some 32, some 33, some 34] (fun U => by kernel_rfl) (fun L U wr => Below w.heap.size w wr ∧ KeepP W wr ∧ W.heap.size ≤ wr.heap.size ∧ (L 0 = true → IS (.slice (some ⟨ga, oa, none⟩) na ca) (U 24) wr) ∧ (L 1 = true → IS (.pointer (some ⟨ga, oa, none⟩)) (U 25) wr) ∧ (L 2 = true → IS (.pointer (some ⟨ga, oa + 1, none⟩)) (U 26) wr) ∧ (L 3 = true → IS (.agg #[.bool sa, .slice aa ma fa]) (U 27) wr) ∧ (L 4 = true → IS (.slice (some ⟨gb, ob, none⟩) nb cb) (U 28) wr) ∧ (L 5 = true → IS (.pointer (some ⟨gb, ob, none⟩)) (U 29) wr) ∧ (L 6 = true → IS (.pointer (some ⟨gb, ob + 1, none⟩)) (U 30) wr) ∧ (L 7 = true → IS (.agg #[.bool sb, .slice ab mb fb_]) (U 31) wr) ∧ (L 8 = true → T2 (INT (hz (pz + qz))) (IS (.int .i64 (ec (pz + qz)))) (U 32) wr) ∧ (L 9 = true → T2 (INT (hz (pz + qz))) (IS (.int .i64 (ec (pz + qz)))) (U 23) wr) ∧ (L 10 = true → INT (hz (pz + qz)) (U 33) wr) ∧ (L 11 = true → IS (.int .i64 (ec (pz + qz))) (U 34) wr) ∧ (L 12 = true → NEWU 31 W.heap.size wr (U 7) (bif L 13 then U 33 else .agg #[.bool false, .slice none 0 0])) ∧ (L 14 = true → IS (.int .i64 (ec (pz + qz))) (U 8) wr) ∧ (L 13 = true → L 10 = true) ∧ (L 13 = true → L 12 = true)) (by kernel_rfl) ?_ ?_ ?_
            · exact fun U => ⟨hbw.drew, KeepP.below (Below.refl _ _).drew, Nat.le_refl _, (fun h => by cases h), (fun h => by cases h), (fun h => by cases h), (fun h => by cases h), (fun h => by cases h), (fun h => by cases h), (fun h => by cases h), (fun h => by cases h), (fun h => by cases h), (fun h => by cases h), (fun h => by cases h), (fun h => by cases h), (fun h => by cases h), (fun h => by cases h), (fun h => by cases h), (fun h => by cases h)⟩
            · refine StepsU.run rfl ?_ ?_
              · intro L U wr hF hlk haf A K hA hK
                have HA : Hid (A = putAll _ _ U) := hA
                clear hA
                simp [Aft, Region.binds] at haf
                obtain ⟨fb, fk, fs, f0, f1, f2, f3, f4, f5, f6, f7, f8, f9, f10, f11, f12, f14, s13, m12⟩ := hF
                have e0 : A.tmps[0]? = some (.slice (some ⟨ga, oa, none⟩) na ca) := by rw [HA.out]; kernel_rfl
                refine ⟨?_⟩
                go_simp
                refine hK (upd U 24 (.slice (some ⟨ga, oa, none⟩) na ca)) _ _ ?_ ?_
                · rw [HA.out]; kernel_rfl
                · exact ⟨fb, fk, fs, (fun _ => rfl), f1, f2, f3, f4, f5, f6, f7, f8, f9, f10, f11, f12, f14, s13, m12⟩
              refine StepsU.run rfl ?_ ?_
              · intro L U wr hF hlk haf A K hA hK
                have HA : Hid (A = putAll _ _ U) := hA
                clear hA
                simp [Aft, Region.binds] at haf
                obtain ⟨fb, fk, fs, f0, f1, f2, f3, f4, f5, f6, f7, f8, f9, f10, f11, f12, f14, s13, m12⟩ := hF
                have g0 := f0 (by simp [haf])
                have e24 := rd HA.out 24 (by kernel_rfl) g0
                refine ⟨?_⟩
                go_simp
                refine hK (upd U 25 (.pointer (some ⟨ga, oa, none⟩))) _ _ ?_ ?_
                · rw [HA.out]; kernel_rfl
                · exact ⟨fb, fk, fs, f0, (fun _ => rfl), f2, f3, f4, f5, f6, f7, f8, f9, f10, f11, f12, f14, s13, m12⟩
              refine StepsU.run rfl ?_ ?_
              · intro L U wr hF hlk haf A K hA hK
                have HA : Hid (A = putAll _ _ U) := hA
                clear hA
                simp [Aft, Region.binds] at haf
                obtain ⟨fb, fk, fs, f0, f1, f2, f3, f4, f5, f6, f7, f8, f9, f10, f11, f12, f14, s13, m12⟩ := hF
                have g1 := f1 (by simp [haf])
                have e25 := rd HA.out 25 (by kernel_rfl) g1
                refine ⟨?_⟩
                go_simp
                refine hK (upd U 26 (.pointer (some ⟨ga, oa + 1, none⟩))) _ _ ?_ ?_
                · rw [HA.out]; kernel_rfl
                · exact ⟨fb, fk, fs, f0, f1, (fun _ => rfl), f3, f4, f5, f6, f7, f8, f9, f10, f11, f12, f14, s13, m12⟩
              refine StepsU.run rfl ?_ ?_
              · intro L U wr hF hlk haf A K hA hK
                have HA : Hid (A = putAll _ _ U) := hA
                clear hA
                simp [Aft, Region.binds] at haf
                obtain ⟨fb, fk, fs, f0, f1, f2, f3, f4, f5, f6, f7, f8, f9, f10, f11, f12, f14, s13, m12⟩ := hF
                have g2 := f2 (by simp [haf])
                have ka0 := (fb.cell (p := ⟨ga, oa, none⟩) (World.block_lt_of_cell? w _ a0)).trans a0
                have ka1 := (fb.cell (p := ⟨ga, oa + 1, none⟩) (World.block_lt_of_cell? w _ a1)).trans a1
                have ka2 := (fb.cell (p := ⟨ga, oa + 2, none⟩) (World.block_lt_of_cell? w _ a2)).trans a2
                have e26 := rd HA.out 26 (by kernel_rfl) g2
                refine ⟨?_⟩
                go_simp
                refine hK (upd U 27 (.agg #[.bool sa, .slice aa ma fa])) _ _ ?_ ?_
                · rw [HA.out]; kernel_rfl
                · exact ⟨fb, fk, fs, f0, f1, f2, (fun _ => rfl), f4, f5, f6, f7, f8, f9, f10, f11, f12, f14, s13, m12⟩
              refine StepsU.run rfl ?_ ?_
              · intro L U wr hF hlk haf A K hA hK
                have HA : Hid (A = putAll _ _ U) := hA
                clear hA
                simp [Aft, Region.binds] at haf
                obtain ⟨fb, fk, fs, f0, f1, f2, f3, f4, f5, f6, f7, f8, f9, f10, f11, f12, f14, s13, m12⟩ := hF
                have e1 : A.tmps[1]? = some (.slice (some ⟨gb, ob, none⟩) nb cb) := by rw [HA.out]; kernel_rfl
                refine ⟨?_⟩
                go_simp
                refine hK (upd U 28 (.slice (some ⟨gb, ob, none⟩) nb cb)) _ _ ?_ ?_
                · rw [HA.out]; kernel_rfl
                · exact ⟨fb, fk, fs, f0, f1, f2, f3, (fun _ => rfl), f5, f6, f7, f8, f9, f10, f11, f12, f14, s13, m12⟩
              refine StepsU.run rfl ?_ ?_
              · intro L U wr hF hlk haf A K hA hK
                have HA : Hid (A = putAll _ _ U) := hA
                clear hA
                simp [Aft, Region.binds] at haf
                obtain ⟨fb, fk, fs, f0, f1, f2, f3, f4, f5, f6, f7, f8, f9, f10, f11, f12, f14, s13, m12⟩ := hF
                have g4 := f4 (by simp [haf])
                have e28 := rd HA.out 28 (by kernel_rfl) g4
                refine ⟨?_⟩
                go_simp
                refine hK (upd U 29 (.pointer (some ⟨gb, ob, none⟩))) _ _ ?_ ?_
                · rw [HA.out]; kernel_rfl
                · exact ⟨fb, fk, fs, f0, f1, f2, f3, f4, (fun _ => rfl), f6, f7, f8, f9, f10, f11, f12, f14, s13, m12⟩
              refine StepsU.run rfl ?_ ?_
              · intro L U wr hF hlk haf A K hA hK
                have HA : Hid (A = putAll _ _ U) := hA
                clear hA
                simp [Aft, Region.binds] at haf
                obtain ⟨fb, fk, fs, f0, f1, f2, f3, f4, f5, f6, f7, f8, f9, f10, f11, f12, f14, s13, m12⟩ := hF
                have g5 := f5 (by simp [haf])
                have e29 := rd HA.out 29 (by kernel_rfl) g5
                refine ⟨?_⟩
                go_simp
                refine hK (upd U 30 (.pointer (some ⟨gb, ob + 1, none⟩))) _ _ ?_ ?_
                · rw [HA.out]; kernel_rfl
                · exact ⟨fb, fk, fs, f0, f1, f2, f3, f4, f5, (fun _ => rfl), f7, f8, f9, f10, f11, f12, f14, s13, m12⟩
              refine StepsU.run rfl ?_ ?_
              · intro L U wr hF hlk haf A K hA hK
                have HA : Hid (A = putAll _ _ U) := hA
                clear hA
                simp [Aft, Region.binds] at haf
                obtain ⟨fb, fk, fs, f0, f1, f2, f3, f4, f5, f6, f7, f8, f9, f10, f11, f12, f14, s13, m12⟩ := hF
                have g6 := f6 (by simp [haf])
                have kb0 := (fb.cell (p := ⟨gb, ob, none⟩) (World.block_lt_of_cell? w _ b0)).trans b0
                have kb1 := (fb.cell (p := ⟨gb, ob + 1, none⟩) (World.block_lt_of_cell? w _ b1)).trans b1
                have kb2 := (fb.cell (p := ⟨gb, ob + 2, none⟩) (World.block_lt_of_cell? w _ b2)).trans b2
                have e30 := rd HA.out 30 (by kernel_rfl) g6
                refine ⟨?_⟩
                go_simp
                refine hK (upd U 31 (.agg #[.bool sb, .slice ab mb fb_])) _ _ ?_ ?_
                · rw [HA.out]; kernel_rfl
                · exact ⟨fb, fk, fs, f0, f1, f2, f3, f4, f5, f6, (fun _ => rfl), f8, f9, f10, f11, f12, f14, s13, m12⟩
              refine StepsU.run rfl ?_ ?_
              · intro L U wr hF hlk haf A K hA hK
                have HA : Hid (A = putAll _ _ U) := hA
                clear hA
                simp [Aft, Region.binds] at haf
                obtain ⟨fb, fk, fs, f0, f1, f2, f3, f4, f5, f6, f7, f8, f9, f10, f11, f12, f14, s13, m12⟩ := hF
                have g3 := f3 (by simp [haf])
                have e27 := rd HA.out 27 (by kernel_rfl) g3
                have g7 := f7 (by simp [haf])
                have e31 := rd HA.out 31 (by kernel_rfl) g7
                refine ⟨?_⟩
                go_simp
                refine (add_h _ _ pz qz _ (hza.below fb) (hzb.below fb)).mono ?_
                rintro e w1 ⟨u1, u2, u3, u4, rfl, hr, hb⟩
                go_simp
                refine hK (upd U 32 (.tuple #[.agg #[.bool u1, .slice u2 u3 u4], .int .i64 (ec (pz + qz))])) _ _ ?_ ?_
                · rw [HA.out]; kernel_rfl
                · exact ⟨(fb.step hb (Nat.le_refl _)), (fk.trans (KeepP.below hb)), (Nat.le_trans fs hb.size), (mvP mp_is (KeepP.below hb) f0), (mvP mp_is (KeepP.below hb) f1), (mvP mp_is (KeepP.below hb) f2), (mvP mp_is (KeepP.below hb) f3), (mvP mp_is (KeepP.below hb) f4), (mvP mp_is (KeepP.below hb) f5), (mvP mp_is (KeepP.below hb) f6), (mvP mp_is (KeepP.below hb) f7), (fun _ => ⟨_, _, rfl, hr, rfl⟩), (mvP (mp_t2 mp_int mp_is) (KeepP.below hb) f9), (mvP mp_int (KeepP.below hb) f10), (mvP mp_is (KeepP.below hb) f11), (fun h => (f12 h).below hb), (mvP mp_is (KeepP.below hb) f14), s13, m12⟩
              refine StepsU.run rfl ?_ ?_
              · intro L U wr hF hlk haf A K hA hK
                have HA : Hid (A = putAll _ _ U) := hA
                clear hA
                simp [Aft, Region.binds] at haf
                obtain ⟨fb, fk, fs, f0, f1, f2, f3, f4, f5, f6, f7, f8, f9, f10, f11, f12, f14, s13, m12⟩ := hF
                have g8 := f8 (by simp [haf])
                have e32 := rd HA.out 32 (by kernel_rfl) rfl
                refine ⟨?_⟩
                go_simp
                refine hK (upd U 23 (U 32)) _ _ ?_ ?_
                · rw [HA.out]; kernel_rfl
                · exact ⟨fb, fk, fs, f0, f1, f2, f3, f4, f5, f6, f7, f8, (fun _ => g8), f10, f11, f12, f14, s13, m12⟩
              refine StepsU.run rfl ?_ ?_
              · intro L U wr hF hlk haf A K hA hK
                have HA : Hid (A = putAll _ _ U) := hA
                clear hA
                simp [Aft, Region.binds] at haf
                obtain ⟨fb, fk, fs, f0, f1, f2, f3, f4, f5, f6, f7, f8, f9, f10, f11, f12, f14, s13, m12⟩ := hF
                have g9 := f9 (by simp [haf])
                obtain ⟨t0, t1, hT, k0, k1⟩ := g9
                have e23 := rd HA.out 23 (by kernel_rfl) hT
                refine ⟨?_⟩
                go_simp
                have hs13 : L 13 = false := by cases h : L 13 with | false => rfl | true => rw [s13 h] at hlk; cases hlk
                refine hK (upd U 33 t0) _ _ ?_ ?_
                · rw [HA.out]; kernel_rfl
                · exact ⟨fb, fk, fs, f0, f1, f2, f3, f4, f5, f6, f7, f8, f9, (fun _ => k0), f11, (fun h => flip_v (P := fun v => NEWU _ _ _ _ v) hs13 (f12 h)), f14, (fun _ => rfl), m12⟩
              refine StepsU.run rfl ?_ ?_
              · intro L U wr hF hlk haf A K hA hK
                have HA : Hid (A = putAll _ _ U) := hA
                clear hA
                simp [Aft, Region.binds] at haf
                obtain ⟨fb, fk, fs, f0, f1, f2, f3, f4, f5, f6, f7, f8, f9, f10, f11, f12, f14, s13, m12⟩ := hF
                have g9 := f9 (by simp [haf])
                obtain ⟨t0, t1, hT, k0, k1⟩ := g9
                have e23 := rd HA.out 23 (by kernel_rfl) hT
                refine ⟨?_⟩
                go_simp
                refine hK (upd U 34 t1) _ _ ?_ ?_
                · rw [HA.out]; kernel_rfl
                · exact ⟨fb, fk, fs, f0, f1, f2, f3, f4, f5, f6, f7, f8, f9, f10, (fun _ => k1), f12, f14, s13, m12⟩
              refine StepsU.run rfl ?_ ?_
              · intro L U wr hF hlk haf A K hA hK
                have HA : Hid (A = putAll _ _ U) := hA
                clear hA
                simp [Aft, Region.binds] at haf
                obtain ⟨fb, fk, fs, f0, f1, f2, f3, f4, f5, f6, f7, f8, f9, f10, f11, f12, f14, s13, m12⟩ := hF
                have hst : L 13 = false := by cases h : L 13 with | false => rfl | true => rw [m12 h] at hlk; cases hlk
                refine ⟨?_⟩
                go_simp
                have hb := below_new wr (.cells #[.bool false, .slice none 0 0] 31 (0, 0))
                refine hK (upd U 7 (.pointer (some ⟨wr.heap.size, 0, none⟩))) _ _ ?_ ?_
                · rw [HA.out]; kernel_rfl
                · exact ⟨(fb.step hb (Nat.le_refl _)), (fk.trans (KeepP.below hb)), (Nat.le_trans fs hb.size), (mvP mp_is (KeepP.below hb) f0), (mvP mp_is (KeepP.below hb) f1), (mvP mp_is (KeepP.below hb) f2), (mvP mp_is (KeepP.below hb) f3), (mvP mp_is (KeepP.below hb) f4), (mvP mp_is (KeepP.below hb) f5), (mvP mp_is (KeepP.below hb) f6), (mvP mp_is (KeepP.below hb) f7), (mvP (mp_t2 mp_int mp_is) (KeepP.below hb) f8), (mvP (mp_t2 mp_int mp_is) (KeepP.below hb) f9), (mvP mp_int (KeepP.below hb) f10), (mvP mp_is (KeepP.below hb) f11), (fun _ => newU_zero (by simp [hst]) (NEWU.mk fs (nuI _ _ _ _))), (mvP mp_is (KeepP.below hb) f14), s13, (fun _ => rfl)⟩
              refine StepsU.run rfl ?_ ?_
              · intro L U wr hF hlk haf A K hA hK
                have HA : Hid (A = putAll _ _ U) := hA
                clear hA
                simp [Aft, Region.binds] at haf
                obtain ⟨fb, fk, fs, f0, f1, f2, f3, f4, f5, f6, f7, f8, f9, f10, f11, f12, f14, s13, m12⟩ := hF
                have g10 := f10 (by simp [haf])
                obtain ⟨yx, ya, yn, yc, hsrc⟩ := AInt.shape g10
                have e33 := rd HA.out 33 (by kernel_rfl) hsrc
                have g12 := f12 (by simp [haf])
                rw [hlk, cond_false] at g12
                obtain ⟨b, cs, hp, hBb, hcs, hblk, hN⟩ := g12
                injection hcs with hcs
                subst hcs
                have e7 := rd HA.out 7 (by kernel_rfl) hp
                have q0 := hblk.frozen 0
                have q1 := hblk.frozen 1
                have c0 := hblk.cell 0
                have c1 := hblk.cell 1
                simp at c0
                simp at c1
                have hlt := hblk.lt
                refine ⟨?_⟩
                go_simp
                refine hK U _ _ ?_ ?_
                · exact HA.out
                · exact ⟨(below_stores (Nat.le_trans (by exact hbW.size) hBb) [.bool yx, .slice ya yn yc] 0 fb), (fk.trans (keepP_stores (by decide) (by decide) [.bool yx, .slice ya yn yc] 0 hblk (nuI _ _ _ _) (nuI _ _ _ _))), (by simp; exact fs), (mvP mp_is (keepP_stores (by decide) (by decide) [.bool yx, .slice ya yn yc] 0 hblk (nuI _ _ _ _) (nuI _ _ _ _)) f0), (mvP mp_is (keepP_stores (by decide) (by decide) [.bool yx, .slice ya yn yc] 0 hblk (nuI _ _ _ _) (nuI _ _ _ _)) f1), (mvP mp_is (keepP_stores (by decide) (by decide) [.bool yx, .slice ya yn yc] 0 hblk (nuI _ _ _ _) (nuI _ _ _ _)) f2), (mvP mp_is (keepP_stores (by decide) (by decide) [.bool yx, .slice ya yn yc] 0 hblk (nuI _ _ _ _) (nuI _ _ _ _)) f3), (mvP mp_is (keepP_stores (by decide) (by decide) [.bool yx, .slice ya yn yc] 0 hblk (nuI _ _ _ _) (nuI _ _ _ _)) f4), (mvP mp_is (keepP_stores (by decide) (by decide) [.bool yx, .slice ya yn yc] 0 hblk (nuI _ _ _ _) (nuI _ _ _ _)) f5), (mvP mp_is (keepP_stores (by decide) (by decide) [.bool yx, .slice ya yn yc] 0 hblk (nuI _ _ _ _) (nuI _ _ _ _)) f6), (mvP mp_is (keepP_stores (by decide) (by decide) [.bool yx, .slice ya yn yc] 0 hblk (nuI _ _ _ _) (nuI _ _ _ _)) f7), (mvP (mp_t2 mp_int mp_is) (keepP_stores (by decide) (by decide) [.bool yx, .slice ya yn yc] 0 hblk (nuI _ _ _ _) (nuI _ _ _ _)) f8), (mvP (mp_t2 mp_int mp_is) (keepP_stores (by decide) (by decide) [.bool yx, .slice ya yn yc] 0 hblk (nuI _ _ _ _) (nuI _ _ _ _)) f9), (mvP mp_int (keepP_stores (by decide) (by decide) [.bool yx, .slice ya yn yc] 0 hblk (nuI _ _ _ _) (nuI _ _ _ _)) f10), (mvP mp_is (keepP_stores (by decide) (by decide) [.bool yx, .slice ya yn yc] 0 hblk (nuI _ _ _ _) (nuI _ _ _ _)) f11), (fun _ => by simp only [cond_true, Bool.true_or, beq_self_eq_true]; exact storedU_new hp hsrc (NEWU.overS hBb hblk [.bool yx, .slice ya yn yc] rfl (nuI _ _ _ _))), (mvP mp_is (keepP_stores (by decide) (by decide) [.bool yx, .slice ya yn yc] 0 hblk (nuI _ _ _ _) (nuI _ _ _ _)) f14), (fun _ => by simp [haf]), (fun _ => by simp [haf])⟩
              refine StepsU.run rfl ?_ StepsU.nil
              · intro L U wr hF hlk haf A K hA hK
                have HA : Hid (A = putAll _ _ U) := hA
                clear hA
                simp [Aft, Region.binds] at haf
                obtain ⟨fb, fk, fs, f0, f1, f2, f3, f4, f5, f6, f7, f8, f9, f10, f11, f12, f14, s13, m12⟩ := hF
                have g11 := f11 (by simp [haf])
                have e34 := rd HA.out 34 (by kernel_rfl) rfl
                refine ⟨?_⟩
                go_simp
                refine hK (upd U 8 (U 34)) _ _ ?_ ?_
                · rw [HA.out]; kernel_rfl
                · exact ⟨fb, fk, fs, f0, f1, f2, f3, f4, f5, f6, f7, f8, f9, f10, f11, f12, (fun _ => g11), s13, m12⟩
            clear hbw
            intro L U1 V hall hF
            obtain ⟨hbw, fk, fs, f0, f1, f2, f3, f4, f5, f6, f7, f8, f9, f10, f11, f12, f14, s13, m12⟩ := hF
            clear s13 m12
            have g0 := f0 (hall 0 (by decide))
            have g1 := f1 (hall 1 (by decide))
            have g2 := f2 (hall 2 (by decide))
            have g3 := f3 (hall 3 (by decide))
            have g4 := f4 (hall 4 (by decide))
            have g5 := f5 (hall 5 (by decide))
            have g6 := f6 (hall 6 (by decide))
            have g7 := f7 (hall 7 (by decide))
            have g8 := f8 (hall 8 (by decide))
            have g9 := f9 (hall 9 (by decide))
            have g10 := f10 (hall 10 (by decide))
            have g11 := f11 (hall 11 (by decide))
            have g12 := f12 (hall 12 (by decide))
            rw [hall 13 (by decide), cond_true] at g12
            have g14 := f14 (hall 14 (by decide))
            clear hall f0 f1 f2 f3 f4 f5 f6 f7 f8 f9 f10 f11 f12 f14
            obtain ⟨bS, csS, hpS, lbS, hcsS, oS, -⟩ := g12
            obtain ⟨xS, aS, nS, cS, hvS⟩ := AInt.shape g10
            have hS : AInt _ _ _ := g10
            rw [hvS] at hS hcsS
            injection hcsS with hcsS
            subst hcsS
            clear hvS
            have ltS := oS.lt
            have lwS : w.heap.size ≤ bS := Nat.le_trans hbW.size lbS
            clear lbS
            try clear g0
            try clear g1
            try clear g2
            try clear g3
            try clear g4
            try clear g5
            try clear g6
            try clear g7
            try clear g8
            try clear g9
            try clear g10
            try clear g11
            clear hbW
            simp only [setM_some, setM_none, setM_nil]
            rw [hpS]
            clear hpS
            replace hL := hL.keepP fk
            replace hE := hE.keep fk.n
            have e8 : U1 8 = _ := g14
            rw [e8]
            clear fk fs g14 e8
            have HFE : Hid (addFits a b ↔ (pz + qz).natAbs < lim ∧ addFits us vs) := by
              show _ ↔ _
              rw [HI.out.2.1, fits_eq HP.out.2.2.1 HP.out.2.2.2 rfl]
            by_cases hbig : (pz + qz).natAbs < lim
            · have E0 : ec (pz + qz) = 0 := if_pos hbig
              have HBG : Hid ((pz + qz).natAbs < lim) := hbig
              rw [hz_of hbig] at hS
              obtain ⟨s0, s1, s2, s3⟩ := oS.two
              clear hbig
              go_wp2_with fail
              refine (sign_h _ (pz + qz) _ hS).mono ?_
              rintro e w2 ⟨rfl, hb2⟩
              replace hbw := hbw.step hb2 (Nat.le_refl _)
              replace hL := hL.below hb2
              replace hE := hE.keep (KeepN.below hb2)
              replace hS := hS.below hb2
              replace oS := oS.stay hb2
              clear s0 s1 s2 s3 ltS
              have ltS := oS.lt
              have naS := hL.blk oS (by decide)
              by_cases h0 : pz + qz = 0
              · have hs0 : ((pz + qz).sign != 0) = false := by rw [h0]; rfl
                have HZ : Hid (pz + qz = 0) := h0
                clear h0 naS
                go_wp2
                go_region
                go_wp2
                go_roundw
                case rel =>
                  refine ⟨us, vs, ps, xs, ⟨HTA.out, HTB.out, HP.out.2.2.1.tail, HP.out.2.2.2.tail⟩, ⟨?_, ?_, ?_⟩, hL.below (Below.refl _ _).drew, hE.keep (KeepN.below (Below.refl _ _).drew), hne, hbw.drew⟩
                  · rw [HI.out.1, addP_zero (p := (pv, pz)) (q := (pv, qz)) rfl HZ.out]
                  · rw [HFE.out]; exact ⟨fun h => h.2, fun h => ⟨HBG.out, h⟩⟩
                  · have := HI.out.2.2; simp only [List.length_cons] at this; omega
                case measure => simp [sLen]; omega
              · have hs0 : ((pz + qz).sign != 0) = true := by rw [bne_iff_ne]; exact fun h => h0 (Int.sign_eq_zero_iff_zero.1 h)
                have HZ : Hid (pz + qz ≠ 0) := h0
                clear h0
                go_wp2
                have hLb := hbw.size
                have hbW := hbw
                refine wp_region_M2 (by kernel_rfl) [6, 41, 42, 43, 44, 45, 46, 47, 48, 49] [none, none, none, none, none, none, some 6, none, none, none, none, none, none, none, none, none, none, none, none, none, none, none, none, none, none, none, none, none, none, none, none, none, none, none, none, none, none, none, none, none, none, some 41, some 42, some 43, some 44, some 45, some 46, some 47, some 48, some 49] (fun U => by kernel_rfl) (fun L U wr => Below w.heap.size w wr ∧ KeepN w2 wr ∧ w2.heap.size ≤ wr.heap.size ∧ Blk 31 wr (bS) #[.bool xS, .slice aS nS cS] ∧ (L 8 = false → LstG 3 116 w.heap.size wr u6 ps.length xs) ∧ (L 9 = false → U 6 = (u6)) ∧ (L 0 = true → IS (u6) (U 41) wr) ∧ (L 1 = true → IS (.slice (some ⟨ga, oa, none⟩) na ca) (U 42) wr) ∧ (L 2 = true → IS (.pointer (some ⟨ga, oa, none⟩)) (U 43) wr) ∧ (L 3 = true → IS (.pointer (some ⟨ga, oa, none⟩)) (U 44) wr) ∧ (L 4 = true → IS (.int .i64 (pv : Nat)) (U 45) wr) ∧ (L 5 = true → IS (.agg #[.bool xS, .slice aS nS cS]) (U 46) wr) ∧ (L 6 = true → IS (.agg #[.int .i64 (pv : Nat), .bool xS, .slice aS nS cS]) (U 47) wr) ∧ (L 7 = true → L 8 = false → ONE 116 #[.int .i64 (pv : Nat), .bool xS, .slice aS nS cS] (U 48) wr) ∧ (L 8 = true → LstG 3 116 w.heap.size wr (U 49) (ps.length + 1) (xs ++ [.int .i64 (pv : Nat), .bool xS, .slice aS nS cS]) ∧ U 49 ≠ .slice none 0 0) ∧ (L 9 = true → L 8 = true ∧ U 6 = U 49) ∧ (L 8 = true → L 0 = true) ∧ (L 8 = true → L 7 = true) ∧ (L 9 = true → L 0 = true)) (by kernel_rfl) ?_ ?_ ?_
                · exact ⟨hbw.drew, KeepN.below (Below.refl _ _).drew, Nat.le_refl _, oS.drew, (fun _ => hL.below (Below.refl _ _).drew), (fun _ => rfl), (fun h => by cases h), (fun h => by cases h), (fun h => by cases h), (fun h => by cases h), (fun h => by cases h), (fun h => by cases h), (fun h => by cases h), (fun h => by cases h), (fun h => by cases h), (fun h => by cases h), (fun h => by cases h), (fun h => by cases h), (fun h => by cases h)⟩
                · refine StepsU.run rfl ?_ ?_
                  · intro L U wr hF hlk haf A K hA hK
                    have HA : Hid (A = putAll _ _ U) := hA
                    clear hA
                    simp [Aft, Region.binds] at haf
                    obtain ⟨fb, fk, fs, oS, fl, v6, f0, f1, f2, f3, f4, f5, f6, f7, f8, f9, p0, p7, z9_0⟩ := hF
                    have hw : L 9 = false := by cases h : L 9 with | false => rfl | true => rw [z9_0 h] at hlk; cases hlk
                    have e6 := rd HA.out 6 (by kernel_rfl) (v6 hw)
                    refine ⟨?_⟩
                    go_simp
                    refine hK (upd U 41 (u6)) _ _ ?_ ?_
                    · rw [HA.out]; kernel_rfl
                    · exact ⟨fb, fk, fs, oS, fl, v6, (fun _ => rfl), f1, f2, f3, f4, f5, f6, f7, f8, f9, (fun _ => rfl), p7, (fun _ => rfl)⟩
                  refine StepsU.run rfl ?_ ?_
                  · intro L U wr hF hlk haf A K hA hK
                    have HA : Hid (A = putAll _ _ U) := hA
                    clear hA
                    simp [Aft, Region.binds] at haf
                    obtain ⟨fb, fk, fs, oS, fl, v6, f0, f1, f2, f3, f4, f5, f6, f7, f8, f9, p0, p7, z9_0⟩ := hF
                    have e0 : A.tmps[0]? = some (.slice (some ⟨ga, oa, none⟩) na ca) := by rw [HA.out]; kernel_rfl
                    refine ⟨?_⟩
                    go_simp
                    refine hK (upd U 42 (.slice (some ⟨ga, oa, none⟩) na ca)) _ _ ?_ ?_
                    · rw [HA.out]; kernel_rfl
                    · exact ⟨fb, fk, fs, oS, fl, v6, f0, (fun _ => rfl), f2, f3, f4, f5, f6, f7, f8, f9, p0, p7, z9_0⟩
                  refine StepsU.run rfl ?_ ?_
                  · intro L U wr hF hlk haf A K hA hK
                    have HA : Hid (A = putAll _ _ U) := hA
                    clear hA
                    simp [Aft, Region.binds] at haf
                    obtain ⟨fb, fk, fs, oS, fl, v6, f0, f1, f2, f3, f4, f5, f6, f7, f8, f9, p0, p7, z9_0⟩ := hF
                    have g1 := f1 (by simp [haf])
                    have e42 := rd HA.out 42 (by kernel_rfl) g1
                    refine ⟨?_⟩
                    go_simp
                    refine hK (upd U 43 (.pointer (some ⟨ga, oa, none⟩))) _ _ ?_ ?_
                    · rw [HA.out]; kernel_rfl
                    · exact ⟨fb, fk, fs, oS, fl, v6, f0, f1, (fun _ => rfl), f3, f4, f5, f6, f7, f8, f9, p0, p7, z9_0⟩
                  refine StepsU.run rfl ?_ ?_
                  · intro L U wr hF hlk haf A K hA hK
                    have HA : Hid (A = putAll _ _ U) := hA
                    clear hA
                    simp [Aft, Region.binds] at haf
                    obtain ⟨fb, fk, fs, oS, fl, v6, f0, f1, f2, f3, f4, f5, f6, f7, f8, f9, p0, p7, z9_0⟩ := hF
                    have g2 := f2 (by simp [haf])
                    have e43 := rd HA.out 43 (by kernel_rfl) g2
                    refine ⟨?_⟩
                    go_simp
                    refine hK (upd U 44 (.pointer (some ⟨ga, oa, none⟩))) _ _ ?_ ?_
                    · rw [HA.out]; kernel_rfl
                    · exact ⟨fb, fk, fs, oS, fl, v6, f0, f1, f2, (fun _ => rfl), f4, f5, f6, f7, f8, f9, p0, p7, z9_0⟩
                  refine StepsU.run rfl ?_ ?_
                  · intro L U wr hF hlk haf A K hA hK
                    have HA : Hid (A = putAll _ _ U) := hA
                    clear hA
                    simp [Aft, Region.binds] at haf
                    obtain ⟨fb, fk, fs, oS, fl, v6, f0, f1, f2, f3, f4, f5, f6, f7, f8, f9, p0, p7, z9_0⟩ := hF
                    have g3 := f3 (by simp [haf])
                    have ka0 := (fb.cell (p := ⟨ga, oa, none⟩) (World.block_lt_of_cell? w _ a0)).trans a0
                    have ka1 := (fb.cell (p := ⟨ga, oa + 1, none⟩) (World.block_lt_of_cell? w _ a1)).trans a1
                    have ka2 := (fb.cell (p := ⟨ga, oa + 2, none⟩) (World.block_lt_of_cell? w _ a2)).trans a2
                    have e44 := rd HA.out 44 (by kernel_rfl) g3
                    refine ⟨?_⟩
                    go_simp
                    refine hK (upd U 45 (.int .i64 (pv : Nat))) _ _ ?_ ?_
                    · rw [HA.out]; kernel_rfl
                    · exact ⟨fb, fk, fs, oS, fl, v6, f0, f1, f2, f3, (fun _ => rfl), f5, f6, f7, f8, f9, p0, p7, z9_0⟩
                  refine StepsU.run rfl ?_ ?_
                  · intro L U wr hF hlk haf A K hA hK
                    have HA : Hid (A = putAll _ _ U) := hA
                    clear hA
                    simp [Aft, Region.binds] at haf
                    obtain ⟨fb, fk, fs, oS, fl, v6, f0, f1, f2, f3, f4, f5, f6, f7, f8, f9, p0, p7, z9_0⟩ := hF
                    have e7 : A.tmps[7]? = some (.pointer (some ⟨bS, 0, none⟩)) := by rw [HA.out]; kernel_rfl
                    have c0 := oS.cell 0
                    have c1 := oS.cell 1
                    simp at c0
                    simp at c1
                    refine ⟨?_⟩
                    go_simp
                    refine hK (upd U 46 (.agg #[.bool xS, .slice aS nS cS])) _ _ ?_ ?_
                    · rw [HA.out]; kernel_rfl
                    · exact ⟨fb, fk, fs, oS, fl, v6, f0, f1, f2, f3, f4, (fun _ => rfl), f6, f7, f8, f9, p0, p7, z9_0⟩
                  refine StepsU.run rfl ?_ ?_
                  · intro L U wr hF hlk haf A K hA hK
                    have HA : Hid (A = putAll _ _ U) := hA
                    clear hA
                    simp [Aft, Region.binds] at haf
                    obtain ⟨fb, fk, fs, oS, fl, v6, f0, f1, f2, f3, f4, f5, f6, f7, f8, f9, p0, p7, z9_0⟩ := hF
                    have g4 := f4 (by simp [haf])
                    have g5 := f5 (by simp [haf])
                    have e45 := rd HA.out 45 (by kernel_rfl) g4
                    have e46 := rd HA.out 46 (by kernel_rfl) g5
                    refine ⟨?_⟩
                    go_simp
                    refine hK (upd U 47 (.agg #[.int .i64 (pv : Nat), .bool xS, .slice aS nS cS])) _ _ ?_ ?_
                    · rw [HA.out]; kernel_rfl
                    · exact ⟨fb, fk, fs, oS, fl, v6, f0, f1, f2, f3, f4, f5, (fun _ => rfl), f7, f8, f9, p0, p7, z9_0⟩
                  refine StepsU.run rfl ?_ ?_
                  · intro L U wr hF hlk haf A K hA hK
                    have HA : Hid (A = putAll _ _ U) := hA
                    clear hA
                    simp [Aft, Region.binds] at haf
                    obtain ⟨fb, fk, fs, oS, fl, v6, f0, f1, f2, f3, f4, f5, f6, f7, f8, f9, p0, p7, z9_0⟩ := hF
                    have g6 := f6 (by simp [haf])
                    have e47 := rd HA.out 47 (by kernel_rfl) g6
                    have hap : L 8 = false := by cases h : L 8 with | false => rfl | true => rw [p7 h] at hlk; cases hlk
                    refine ⟨?_⟩
                    go_simp
                    have hb := below_new wr (.cells #[.int .i64 (pv : Nat), .bool xS, .slice aS nS cS] 116 (0, 0))
                    refine hK (upd U 48 (.slice (some ⟨wr.heap.size, 0, none⟩) 1 1)) _ _ ?_ ?_
                    · rw [HA.out]; kernel_rfl
                    · exact ⟨(fb.step hb (Nat.le_refl _)), (fk.trans (KeepN.below hb)), (Nat.le_trans fs hb.size), (oS.stay hb), (fun h => (fl h).below hb), v6, (mvN mn_is (KeepN.below hb) f0), (mvN mn_is (KeepN.below hb) f1), (mvN mn_is (KeepN.below hb) f2), (mvN mn_is (KeepN.below hb) f3), (mvN mn_is (KeepN.below hb) f4), (mvN mn_is (KeepN.below hb) f5), (mvN mn_is (KeepN.below hb) f6), (fun _ _ => ⟨wr.heap.size, rfl, Blk.new wr 116 #[.int .i64 (pv : Nat), .bool xS, .slice aS nS cS]⟩), (fun h => ⟨(f8 h).1.below hb, (f8 h).2⟩), f9, p0, (fun _ => rfl), z9_0⟩
                  refine StepsU.run rfl ?_ ?_
                  · intro L U wr hF hlk haf A K hA hK
                    have HA : Hid (A = putAll _ _ U) := hA
                    clear hA
                    simp [Aft, Region.binds] at haf
                    obtain ⟨fb, fk, fs, oS, fl, v6, f0, f1, f2, f3, f4, f5, f6, f7, f8, f9, p0, p7, z9_0⟩ := hF
                    have g0 := f0 (by simp [haf])
                    have g7 := f7 (by simp [haf]) hlk
                    obtain ⟨gb, hgb, hBb⟩ := g7
                    have e41 := rd HA.out 41 (by kernel_rfl) g0
                    have e48 := rd HA.out 48 (by kernel_rfl) hgb
                    refine ⟨?_⟩
                    refine wp_append_g (.tmp 41) (.tmp 48) 28 rfl 3 w.heap.size 116 (.agg #[.int .i64 0, .bool false, .slice none 0 0]) 40 Tryz.und_parts Tryz.info_part (by decide) rfl (by decide) (nuP _ _ _ _ _) (by decide) u6 ps.length xs (by simp [Act.eval, e41]) (fl hlk) ⟨gb, 0, none⟩ 1 1 [.int .i64 (pv : Nat), .bool xS, .slice aS nS cS] (by simp [Act.eval, e48]) rfl ?_ (by intro u hu; simp at hu; rcases hu with rfl | rfl | rfl <;> rfl) (nuP _ _ _ _ _) (Or.inl (by decide)) (by have := HI.out.2.2; omega) (Nat.le_trans hLb fs) ?_
                    · intro j u hj
                      match j, hj with
                      | 0, hj => simp at hj; subst hj; exact hBb.cell 0
                      | 1, hj => simp at hj; subst hj; exact hBb.cell 1
                      | 2, hj => simp at hj; subst hj; exact hBb.cell 2
                      | j + 3, hj => simp at hj
                    · intro v' w1 hL1 hA1 hnn1
                      refine hK (upd U 49 v') _ _ ?_ ?_
                      · rw [HA.out]; kernel_rfl
                      · exact ⟨(fb.trans (hA1.bel.mono hLg)), (fk.trans hA1.keep), (Nat.le_trans fs hA1.size), ((hA1.other _ oS.lt naS).trans oS), (fun h => by cases h), v6, (mvN mn_is hA1.keep f0), (mvN mn_is hA1.keep f1), (mvN mn_is hA1.keep f2), (mvN mn_is hA1.keep f3), (mvN mn_is hA1.keep f4), (mvN mn_is hA1.keep f5), (mvN mn_is hA1.keep f6), (fun _ h => by cases h), (fun _ => ⟨hL1, hnn1⟩), (fun h => by have h1 := (f9 h).1; rw [hlk] at h1; cases h1), (fun _ => by simp [haf]), (fun _ => by simp [haf]), z9_0⟩
                  refine StepsU.run rfl ?_ StepsU.nil
                  · intro L U wr hF hlk haf A K hA hK
                    have HA : Hid (A = putAll _ _ U) := hA
                    clear hA
                    simp [Aft, Region.binds] at haf
                    obtain ⟨fb, fk, fs, oS, fl, v6, f0, f1, f2, f3, f4, f5, f6, f7, f8, f9, p0, p7, z9_0⟩ := hF
                    have e49 := rd HA.out 49 (by kernel_rfl) rfl
                    refine ⟨?_⟩
                    go_simp
                    refine hK (upd U 6 (U 49)) _ _ ?_ ?_
                    · rw [HA.out]; kernel_rfl
                    · exact ⟨fb, fk, fs, oS, fl, (fun h => by cases h), f0, f1, f2, f3, f4, f5, f6, f7, f8, (fun _ => ⟨by simp [haf], rfl⟩), p0, p7, (fun _ => by simp [haf])⟩
                clear hbw oS hL
                intro L U2 V2 hall hF
                obtain ⟨hbw, fk, fs, oS, fl, v6, f0, f1, f2, f3, f4, f5, f6, f7, f8, f9, p0, p7, z9_0⟩ := hF
                clear fl v6 p0 p7 z9_0
                have g0 := f0 (hall 0 (by decide))
                have g1 := f1 (hall 1 (by decide))
                have g2 := f2 (hall 2 (by decide))
                have g3 := f3 (hall 3 (by decide))
                have g4 := f4 (hall 4 (by decide))
                have g5 := f5 (hall 5 (by decide))
                have g6 := f6 (hall 6 (by decide))
                have g8 := f8 (hall 8 (by decide))
                have g9 := f9 (hall 9 (by decide))
                clear hall f0 f1 f2 f3 f4 f5 f6 f7 f8 f9
                replace ltS := oS.lt
                try clear g0
                try clear g1
                try clear g2
                try clear g3
                try clear g4
                try clear g5
                try clear g6
                clear hbW
                simp only [setM_some, setM_none, setM_nil]
                obtain ⟨hL2, hne2⟩ := g8
                have e6 := g9.2
                rw [← e6] at hL2 hne2
                have HE6 : Hid (U2 6 = _) := e6
                clear g9 e6
                have hE2 := (hE.keep fk).app HXL.out (ElsP.one (v := pv) (z := pz + qz) (hS.keepN fk))
                clear fk fs oS ltS
                go_wp2
                go_region
                go_wp2
                go_roundw
                case rel =>
                  refine ⟨us, vs, ps ++ [(pv, pz + qz)], xs ++ [.int .i64 (pv : Nat), .bool xS, .slice aS nS cS], ⟨HTA.out, HTB.out, HP.out.2.2.1.tail, HP.out.2.2.2.tail⟩, ⟨?_, ?_, ?_⟩, ?_, hE2.keep (KeepN.below (Below.refl _ _).drew), hne2, hbw.drew⟩
                  · rw [HI.out.1, addP_sum (p := (pv, pz)) (q := (pv, qz)) rfl HZ.out, List.append_assoc]; rfl
                  · rw [HFE.out]; exact ⟨fun h => h.2, fun h => ⟨HBG.out, h⟩⟩
                  · have := HI.out.2.2; simp only [List.length_cons, List.length_append, List.length_nil] at this ⊢; omega
                  · rw [List.length_append]; exact hL2.below (Below.refl _ _).drew
                case measure => simp [sLen]; omega
            · have E0 : ec (pz + qz) = 11 := if_neg hbig
              have HBG : Hid (¬ (pz + qz).natAbs < lim) := hbig
              clear hbig
              go_wp2
              go_ret2
              exact ⟨_, _, rfl, Or.inr ⟨fun h => HBG.out (HFE.out.1 h).1, E0, rfl⟩, hbw⟩

end Go.Proofs.YteefniagebcagaaGreatDoor
/- Contracts of linear's Add; they prove no statement of the seat. -/
namespace Go.Proofs.YteefniagebcagaaGreatDoor
open Go.RowKit
set_option linter.unusedVariables false

/-- What a call that can be refused tells: the term, or nothing and the code. -/
def TRes (ok : Prop) (ps : List (Nat × Int)) (r : Int) (v : Value) (c : Int) (w : World) : Prop := (ok ∧ c = 0 ∧ TermR w v ps r) ∨ (¬ ok ∧ c = 11 ∧ TermR w v [] 0)
/-- What a sum of two terms is: refused, or both together. -/
def tAddOk (a b : List (Nat × Int)) (r s : Int) : Prop := (r + s).natAbs < lim ∧ addFits a b
theorem TP.pts {w : World} {ao : Option Addr} {n cap : Nat} {x : Bool} {a : Option Addr} {m c : Nat} {ps : List (Nat × Int)} {r : Int} (h : TP w ao n cap x a m c ps r) : PTS ps (.slice ao n cap) w := ⟨ao, n, cap, rfl, h.len, h.cap1, h.cap2, h.none, h.arr⟩
theorem PTS.tp {w : World} {v : Value} {ps : List (Nat × Int)} (h : PTS ps v w) {x : Bool} {a : Option Addr} {m c : Nat} {r : Int} (hr : AInt w (.agg #[.bool x, .slice a m c]) r) (hf : Fine ps) : ∃ ao n cap, v = .slice ao n cap ∧ TP w ao n cap x a m c ps r := by
  obtain ⟨ao, n, cap, rfl, h1, h2, h3, h4, h5⟩ := h
  exact ⟨ao, n, cap, rfl, ⟨h1, h2, h3, h4, h5, hr, hf⟩⟩

set_option maxRecDepth 20000 in
set_option maxHeartbeats 8000000 in
theorem ladd_any (vX vY : Value) (a b : List (Nat × Int)) (r s : Int) (w : World) (hX : TermR w vX a r) (hY : TermR w vY b s) :
    Calls Tryz.prog 13 #[vX, vY] w fun e w' => ∃ v c, e = .returned (.tuple #[v, .int .i64 c]) ∧ TRes (tAddOk a b r s) (addP a b) (r + s) v c w' ∧ Below w.heap.size w w' := by
  obtain ⟨pX, qX, rX, xX, aX, nX, cX, rfl, hX⟩ := hX
  obtain ⟨pY, qY, rY, xY, aY, nY, cY, rfl, hY⟩ := hY
  have oX := (((Blk.new w 33 #[.slice pX qX rX, .bool xX, .slice aX nX cX]).alloc (.cells #[.slice pY qY rY, .bool xY, .slice aY nY cY] 33 (0, 0))).alloc (.cells #[.slice none 0 0, .bool false, .slice none 0 0] 33 (0, 0)))
  have oY := ((Blk.new (w.alloc (.cells #[.slice pX qX rX, .bool xX, .slice aX nX cX] 33 (0, 0))) 33 #[.slice pY qY rY, .bool xY, .slice aY nY cY]).alloc (.cells #[.slice none 0 0, .bool false, .slice none 0 0] 33 (0, 0)))
  have oR := (Blk.new ((w.alloc (.cells #[.slice pX qX rX, .bool xX, .slice aX nX cX] 33 (0, 0))).alloc (.cells #[.slice pY qY rY, .bool xY, .slice aY nY cY] 33 (0, 0))) 33 #[.slice none 0 0, .bool false, .slice none 0 0])
  simp only [World.size_alloc] at oY oR
  have hbw : Below w.heap.size w (((w.alloc (.cells #[.slice pX qX rX, .bool xX, .slice aX nX cX] 33 (0, 0))).alloc (.cells #[.slice pY qY rY, .bool xY, .slice aY nY cY] 33 (0, 0))).alloc (.cells #[.slice none 0 0, .bool false, .slice none 0 0] 33 (0, 0))) := by go_grown
  replace hX := hX.below hbw
  replace hY := hY.below hbw
  have ltX := oX.lt
  have lwX : w.heap.size ≤ w.heap.size := by omega
  have ltY := oY.lt
  have lwY : w.heap.size ≤ w.heap.size + 1 := by omega
  have ltR := oR.lt
  have lwR : w.heap.size ≤ w.heap.size + 1 + 1 := by omega
  go_enter Tryz.func13, Tryz.ntmps13
  by_cases hr : (r + s).natAbs < lim
  · have E0 : ec (r + s) = 0 := if_pos hr
    have HR : Hid ((r + s).natAbs < lim) := hr
    clear hr
    obtain ⟨Xc0, Xc1, Xc2⟩ := oX.three
    obtain ⟨Xk0, Xk1, Xk2⟩ := oX.frozen3
    obtain ⟨Yc0, Yc1, Yc2⟩ := oY.three
    obtain ⟨Yk0, Yk1, Yk2⟩ := oY.frozen3
    go_wp2_with fail
    refine (add_h _ _ r s _ hX.rest hY.rest).mono ?_
    rintro e w1 ⟨xS, aS, nS, cS, rfl, hS, hb⟩
    clear Xc0 Xc1 Xc2 Xk0 Xk1 Xk2
    clear Yc0 Yc1 Yc2 Yk0 Yk1 Yk2
    replace oX := oX.stay hb
    replace ltX := oX.lt
    replace oY := oY.stay hb
    replace ltY := oY.lt
    replace oR := oR.stay hb
    replace ltR := oR.lt
    replace hX := hX.below hb
    replace hY := hY.below hb
    replace hbw := hbw.step hb (Nat.le_refl _)
    clear hb
    rw [hz_of HR.out] at hS
    have hn := below_new w1 (.cells #[.bool xS, .slice aS nS cS] 31 (0, 0))
    have oS := Blk.new w1 31 #[.bool xS, .slice aS nS cS]
    have neXS : w.heap.size ≠ w1.heap.size := by have := ltX; (try simp at this); omega
    have neYS : w.heap.size + 1 ≠ w1.heap.size := by have := ltY; (try simp at this); omega
    have neRS : w.heap.size + 1 + 1 ≠ w1.heap.size := by have := ltR; (try simp at this); omega
    have lwS : w.heap.size ≤ w1.heap.size := by have := hbw.size; (try simp at this); omega
    replace oX := oX.stay hn
    replace ltX := oX.lt
    replace oY := oY.stay hn
    replace ltY := oY.lt
    replace oR := oR.stay hn
    replace ltR := oR.lt
    replace hX := hX.below hn
    replace hY := hY.below hn
    replace hS := hS.below hn
    replace hbw := hbw.step hn (Nat.le_refl _)
    clear hn
    have ltS := oS.lt
    obtain ⟨Xc0, Xc1, Xc2⟩ := oX.three
    obtain ⟨Xk0, Xk1, Xk2⟩ := oX.frozen3
    obtain ⟨Yc0, Yc1, Yc2⟩ := oY.three
    obtain ⟨Yk0, Yk1, Yk2⟩ := oY.frozen3
    go_wp2_with fail
    refine (merged_any _ _ a b _ hX.pts hY.pts hX.fine hY.fine).mono ?_
    rintro e w2 ⟨v, c, rfl, hM, hb⟩
    clear Xc0 Xc1 Xc2 Xk0 Xk1 Xk2
    clear Yc0 Yc1 Yc2 Yk0 Yk1 Yk2
    replace oX := oX.stay hb
    replace ltX := oX.lt
    replace oY := oY.stay hb
    replace ltY := oY.lt
    replace oR := oR.stay hb
    replace ltR := oR.lt
    replace oS := oS.stay hb
    replace ltS := oS.lt
    replace hX := hX.below hb
    replace hY := hY.below hb
    replace hS := hS.below hb
    replace hbw := hbw.step hb (Nat.le_refl _)
    clear hb
    rcases hM with ⟨hf, rfl, hM⟩ | ⟨hf, rfl, rfl⟩
    · obtain ⟨ao, n, cap, rfl, hT⟩ := hM.tp hS (addP_fine hX.fine hY.fine hf)
      obtain ⟨Rc0, Rc1, Rc2⟩ := oR.three
      obtain ⟨Rk0, Rk1, Rk2⟩ := oR.frozen3
      obtain ⟨Sc0, Sc1, Sk0, Sk1⟩ := oS.two
      try simp only []
      try go_at_K
      repeat (first | go_values | go_skip | go_guarded | go_step | go_upon)
      refine bodyPost_ret (v := .tuple #[.agg #[.slice ao n cap, .bool xS, .slice aS nS cS], .int .i64 0]) (by simp [results, Tryz.results13, go_sem, Rc0, Rc1, Rc2]) rfl ?_
      obtain ⟨K1, B1, _⟩ := resT (by decide) (by decide) oR hbw lwR ao n cap xS aS nS cS
      exact ⟨_, _, rfl, Or.inl ⟨⟨HR.out, hf⟩, rfl, (hT.keepP K1).val⟩, B1⟩
    · obtain ⟨Rc0, Rc1, Rc2⟩ := oR.three
      obtain ⟨Rk0, Rk1, Rk2⟩ := oR.frozen3
      try simp only []
      try go_at_K
      repeat (first | go_values | go_skip | go_guarded | go_step | go_upon)
      refine bodyPost_ret (v := .tuple #[.agg #[.slice none 0 0, .bool false, .slice none 0 0], .int .i64 11]) (by simp [results, Tryz.results13, go_sem, Rc0, Rc1, Rc2]) rfl ?_
      obtain ⟨K1, B1, _⟩ := resT (by decide) (by decide) oR hbw lwR none 0 0 false none 0 0
      exact ⟨_, _, rfl, Or.inr ⟨fun h => hf h.2, rfl, (TP.zero _).val⟩, B1⟩
  · have E0 : ec (r + s) = 11 := if_neg hr
    have HR : Hid (¬ (r + s).natAbs < lim) := hr
    clear hr
    obtain ⟨Xc0, Xc1, Xc2⟩ := oX.three
    obtain ⟨Xk0, Xk1, Xk2⟩ := oX.frozen3
    obtain ⟨Yc0, Yc1, Yc2⟩ := oY.three
    obtain ⟨Yk0, Yk1, Yk2⟩ := oY.frozen3
    go_wp2_with fail
    refine (add_h _ _ r s _ hX.rest hY.rest).mono ?_
    rintro e w1 ⟨xS, aS, nS, cS, rfl, hS, hb⟩
    clear Xc0 Xc1 Xc2 Xk0 Xk1 Xk2
    clear Yc0 Yc1 Yc2 Yk0 Yk1 Yk2
    replace oX := oX.stay hb
    replace ltX := oX.lt
    replace oY := oY.stay hb
    replace ltY := oY.lt
    replace oR := oR.stay hb
    replace ltR := oR.lt
    replace hX := hX.below hb
    replace hY := hY.below hb
    replace hbw := hbw.step hb (Nat.le_refl _)
    clear hb
    obtain ⟨Rc0, Rc1, Rc2⟩ := oR.three
    obtain ⟨Rk0, Rk1, Rk2⟩ := oR.frozen3
    try simp only []
    try go_at_K
    repeat (first | go_values | go_skip | go_guarded | go_step | go_upon)
    refine bodyPost_ret (v := .tuple #[.agg #[.slice none 0 0, .bool false, .slice none 0 0], .int .i64 11]) (by simp [results, Tryz.results13, go_sem, Rc0, Rc1, Rc2, E0, ltR]) rfl ?_
    obtain ⟨K1, B1, _⟩ := resT (by decide) (by decide) oR hbw lwR none 0 0 false none 0 0
    exact ⟨_, _, rfl, Or.inr ⟨fun h => HR.out h.1, rfl, (TP.zero _).val⟩, B1.step (below_new _ _) (Nat.le_refl _)⟩

end Go.Proofs.YteefniagebcagaaGreatDoor
/- Contracts of linear's Neg and Sub; they prove no statement of the seat. -/
namespace Go.Proofs.YteefniagebcagaaGreatDoor
open Go.RowKit
set_option linter.unusedVariables false

theorem ptake_step (l : List (Nat × Int)) (k : Nat) (f : Nat × Int → Nat × Int) (h : k < l.length) : (l.take (k + 1)).map f = (l.take k).map f ++ [f (l.getD k (0, 0))] := by
  rw [List.take_succ_eq_append_getElem h, List.map_append, List.getD_eq_getElem?_getD, List.getElem?_eq_getElem h]; rfl
theorem neg_h (va : Value) (x : Int) (w : World) (ha : AInt w va x) :
    Calls Tryz.prog 61 #[va] w fun e w' => ∃ s a n c, e = .returned (.agg #[.bool s, .slice a n c]) ∧ AInt w' (.agg #[.bool s, .slice a n c]) (-x) ∧ Below w.heap.size w w' := by
  refine (neg_any va x w ha).mono ?_
  rintro e w' ⟨v, rfl, h, hb⟩
  obtain ⟨s, a, n, c, rfl⟩ := h.shape
  exact ⟨s, a, n, c, rfl, h, hb⟩
/-- The first k structs of a list. -/
theorem ElsP.step {w : World} {xs : List Value} {ps : List (Nat × Int)} {k p : Nat} {x : Bool} {a : Option Addr} {m c : Nat} {z : Int} (h : ElsP w (xs.take (k * 3)) ps) (hl : ps.length = k) (hx : k * 3 + 3 ≤ xs.length) (hz : AInt w (.agg #[.bool x, .slice a m c]) z) :
    ElsP w ((xs.take (k * 3) ++ [Value.int .i64 p, .bool x, .slice a m c] ++ xs.drop (k * 3 + 3)).take ((k + 1) * 3)) (ps ++ [(p, z)]) := by
  have e : (xs.take (k * 3) ++ [Value.int .i64 p, .bool x, .slice a m c] ++ xs.drop (k * 3 + 3)).take ((k + 1) * 3) = xs.take (k * 3) ++ [.int .i64 p, .bool x, .slice a m c] := by
    rw [show (k + 1) * 3 = (xs.take (k * 3) ++ [Value.int .i64 p, .bool x, .slice a m c]).length by simp only [List.length_append, List.length_take, List.length_cons, List.length_nil]; omega]
    exact List.take_left
  rw [e]
  exact h.app (by rw [List.length_take, hl]; omega) (ElsP.one hz)

set_option maxRecDepth 20000 in
set_option maxHeartbeats 8000000 in
theorem lneg_any (vX : Value) (a : List (Nat × Int)) (r : Int) (w : World) (hX : TermR w vX a r) :
    Calls Tryz.prog 18 #[vX] w fun e w' => ∃ v, e = .returned v ∧ TermR w' v (mulP a (-1)) (-r) ∧ Below w.heap.size w w' := by
  obtain ⟨pX, qX, rX, xX, aX, nX, cX, rfl, hX⟩ := hX
  have ha0 := hX.arr
  have hr0 := hX.rest
  have oX := ((Blk.new w 33 #[.slice pX qX rX, .bool xX, .slice aX nX cX]).alloc (.cells #[.slice none 0 0, .bool false, .slice none 0 0] 33 (0, 0)))
  have oR := (Blk.new (w.alloc (.cells #[.slice pX qX rX, .bool xX, .slice aX nX cX] 33 (0, 0))) 33 #[.slice none 0 0, .bool false, .slice none 0 0])
  simp only [World.size_alloc] at oR
  have hbw : Below w.heap.size w ((w.alloc (.cells #[.slice pX qX rX, .bool xX, .slice aX nX cX] 33 (0, 0))).alloc (.cells #[.slice none 0 0, .bool false, .slice none 0 0] 33 (0, 0))) := by go_grown
  replace hX := hX.below hbw
  have ltX := oX.lt
  have lwX : w.heap.size ≤ w.heap.size := by omega
  have ltR := oR.lt
  have lwR : w.heap.size ≤ w.heap.size + 1 := by omega
  go_enter Tryz.func18, Tryz.ntmps18
  have HX : Hid (PArr w pX a) := ha0
  have HRS : Hid (AInt w (.agg #[.bool xX, .slice aX nX cX]) r) := hr0
  have HFN : Hid (Fine a) := hX.fine
  clear hr0
  have hlen := hX.n_le
  have HLN : Hid (a.length = qX) := hX.len
  clear ha0
  obtain ⟨Xc0, Xc1, Xc2⟩ := oX.three
  obtain ⟨Xk0, Xk1, Xk2⟩ := oX.frozen3
  go_wp2_with (at_make; refine wpList_make_g _ rfl _ _ 28 rfl 3 116 (.agg #[.int .i64 0, .bool false, .slice none 0 0]) 40 Tryz.und_parts Tryz.info_part rfl (by decide) (nuP _ _ _ _ _) _ _ _ _ qX qX rfl rfl rfl rfl (by decide) (Nat.le_refl _) (by omega) ?_; intro w1 xs0 hL0 hB0 hS0; have oX1 := oX.stay hB0; have oR1 := oR.stay hB0; obtain ⟨Y0, Y1, Y2⟩ := oX1.three; have hbw1 := hbw.step hB0 (Nat.le_refl _))
  have hL1 : LstG 3 116 w.heap.size w1 (.slice (some ⟨w.heap.size + 1 + 1, 0, none⟩) qX qX) qX xs0 := by have h := hL0.mono (base' := w.heap.size) (by simp; omega); simpa using h
  clear hL0
  go_loopw [13] (fun i wl => ∃ (k : Nat) (xs : List Value), k ≤ qX ∧ i = .int .i64 k ∧ Blk 33 wl w.heap.size #[.slice pX qX rX, .bool xX, .slice aX nX cX] ∧ Blk 33 wl (w.heap.size + 1) #[.slice none 0 0, .bool false, .slice none 0 0] ∧ LstG 3 116 w.heap.size wl (.slice (some ⟨w.heap.size + 1 + 1, 0, none⟩) qX qX) qX xs ∧ ElsP wl (xs.take (k * 3)) (mulP (a.take k) (-1)) ∧ Below w.heap.size w wl) (fun i _ => qX - (intOf i).toNat)
  case atStart => exact ⟨0, xs0, Nat.zero_le _, rfl, oX1, oR1, hL1, by simpa [mulP] using ElsP.nil _, hbw1⟩
  case round =>
    rename World => wl
    clear oX oR hbw oX1 oR1 hL1 hbw1 hB0 hS0 ltX ltR Xc0 Xc1 Xc2 Xk0 Xk1 Xk2 Y0 Y1 Y2 hX
    obtain ⟨k, xs, hk, rfl, oX, oR, hL, hE, hbw⟩ := hrel
    by_cases h0 : k < qX
    · obtain ⟨gE, oE, sE, aE, mE, cE, had, k1, k2, k3, k4⟩ := HX.out.at k (by rw [HLN.out]; exact h0)
      subst had
      obtain ⟨pv, hpv⟩ : ∃ x, x = (a.getD k (0, 0)).1 := ⟨_, rfl⟩
      obtain ⟨pz, hpz⟩ : ∃ x, x = (a.getD k (0, 0)).2 := ⟨_, rfl⟩
      rw [← hpv] at k1
      rw [← hpz] at k4
      have HPV : Hid (a.getD k (0, 0) = (pv, pz)) := by show _ = _; rw [hpv, hpz]
      clear hpv hpz
      have A0 := (hbw.cell (p := ⟨gE, oE + k * 3, none⟩) (World.block_lt_of_cell? w _ k1)).trans k1
      have A1 := (hbw.cell (p := ⟨gE, oE + k * 3 + 1, none⟩) (World.block_lt_of_cell? w _ k2)).trans k2
      have A2 := (hbw.cell (p := ⟨gE, oE + k * 3 + 2, none⟩) (World.block_lt_of_cell? w _ k3)).trans k3
      have hE0 := k4.below hbw
      clear k1 k2 k3 k4
      have ltX := oX.lt
      have ltR := oR.lt
      have ltL := (hL.lt _ rfl).2
      obtain ⟨Xc0, Xc1, Xc2⟩ := oX.three
      obtain ⟨Xk0, Xk1, Xk2⟩ := oX.frozen3
      go_wp2
      have hn := below_new wl (.cells #[.int .i64 (pv : Nat), .bool sE, .slice aE mE cE] 116 (0, 0))
      have oP := Blk.new wl 116 #[.int .i64 (pv : Nat), .bool sE, .slice aE mE cE]
      have neXP : w.heap.size ≠ wl.heap.size := by have := ltX; (try simp at this); omega
      have neRP : w.heap.size + 1 ≠ wl.heap.size := by have := ltR; (try simp at this); omega
      have lwP : w.heap.size ≤ wl.heap.size := by have := hbw.size; (try simp at this); omega
      replace oX := oX.stay hn
      replace ltX := oX.lt
      replace oR := oR.stay hn
      replace ltR := oR.lt
      replace hE0 := hE0.below hn
      replace hL := hL.below hn
      replace hbw := hbw.step hn (Nat.le_refl _)
      clear hn
      have ltP := oP.lt
      replace hE := hE.keep (KeepN.below (below_new wl (.cells #[.int .i64 (pv : Nat), .bool sE, .slice aE mE cE] 116 (0, 0))))
      clear A0 A1 A2
      clear Xc0 Xc1 Xc2 Xk0 Xk1 Xk2
      have naX : w.heap.size + 1 + 1 ≠ w.heap.size := by omega
      have naR : w.heap.size + 1 + 1 ≠ w.heap.size + 1 := by omega
      have naP : w.heap.size + 1 + 1 ≠ wl.heap.size := by omega
      have hLg := Nat.le_refl w.heap.size
      have HXL := hL.1
      have HXL0 : Hid (xs.length = qX * 3) := HXL
      clear HXL
      generalize (wl.alloc (.cells #[.int .i64 (pv : Nat), .bool sE, .slice aE mE cE] 116 (0, 0))) = W at hbw oX oR oP ltX ltR ltP hE0 hL hE ⊢
      have hbW := hbw
      refine wp_region_M (by kernel_rfl) [18, 19, 20, 21, 22, 23, 24, 25, 26] [none, none, none, none, none, none, none, none, none, none, none, none, none, none, none, none, none, none, some 18, some 19, some 20, some 21, some 22, some 23, some 24, some 25, some 26] (fun U => by kernel_rfl) (fun L U wr => Below w.heap.size w wr ∧ KeepN W wr ∧ W.heap.size ≤ wr.heap.size ∧ Blk 33 wr (w.heap.size) #[.slice (some ⟨gE, oE, none⟩) qX rX, .bool xX, .slice aX nX cX] ∧ Blk 33 wr (w.heap.size + 1) #[.slice none 0 0, .bool false, .slice none 0 0] ∧ Blk 116 wr (wl.heap.size) #[.int .i64 (pv : Nat), .bool sE, .slice aE mE cE] ∧ (L 9 = false → LstG 3 116 w.heap.size wr (.slice (some ⟨w.heap.size + 1 + 1, 0, none⟩) qX qX) qX xs) ∧ (L 9 = true → PUT3 w.heap.size (.slice (some ⟨w.heap.size + 1 + 1, 0, none⟩) qX qX) qX xs k pv (-pz) wr) ∧ (L 0 = true → IS (.slice (some ⟨w.heap.size + 1 + 1, 0, none⟩) qX qX) (U 18) wr) ∧ (L 1 = true → IS (.int .i64 k) (U 19) wr) ∧ (L 2 = true → IS (.pointer (some ⟨wl.heap.size, 0, none⟩)) (U 20) wr) ∧ (L 3 = true → IS (.int .i64 (pv : Nat)) (U 21) wr) ∧ (L 4 = true → IS (.pointer (some ⟨wl.heap.size, 1, none⟩)) (U 22) wr) ∧ (L 5 = true → IS (.agg #[.bool sE, .slice aE mE cE]) (U 23) wr) ∧ (L 6 = true → INT (-pz) (U 24) wr) ∧ (L 7 = true → PRT pv (-pz) (U 25) wr) ∧ (L 8 = true → IS (.pointer (some ⟨w.heap.size + 1 + 1, k * 3, none⟩)) (U 26) wr)) (by kernel_rfl) ?_ ?_ ?_
      · exact fun U => ⟨hbw.drew, KeepN.below (Below.refl _ _).drew, Nat.le_refl _, oX.drew, oR.drew, oP.drew, (fun _ => hL.below (Below.refl _ _).drew), (fun h => by cases h), (fun h => by cases h), (fun h => by cases h), (fun h => by cases h), (fun h => by cases h), (fun h => by cases h), (fun h => by cases h), (fun h => by cases h), (fun h => by cases h), (fun h => by cases h)⟩
      · refine StepsU.run rfl ?_ ?_
        · intro L U wr hF hlk haf A K hA hK
          have HA : Hid (A = putAll _ _ U) := hA
          clear hA
          simp [Aft, Region.binds] at haf
          obtain ⟨fb, fk, fs, oX, oR, oP, fl, fq, f0, f1, f2, f3, f4, f5, f6, f7, f8⟩ := hF
          have e3 : A.tmps[3]? = some (.slice (some ⟨w.heap.size + 1 + 1, 0, none⟩) qX qX) := by rw [HA.out]; kernel_rfl
          refine ⟨?_⟩
          go_simp
          refine hK (upd U 18 (.slice (some ⟨w.heap.size + 1 + 1, 0, none⟩) qX qX)) _ _ ?_ ?_
          · rw [HA.out]; kernel_rfl
          · exact ⟨fb, fk, fs, oX, oR, oP, fl, fq, (fun _ => rfl), f1, f2, f3, f4, f5, f6, f7, f8⟩
        refine StepsU.run rfl ?_ ?_
        · intro L U wr hF hlk haf A K hA hK
          have HA : Hid (A = putAll _ _ U) := hA
          clear hA
          simp [Aft, Region.binds] at haf
          obtain ⟨fb, fk, fs, oX, oR, oP, fl, fq, f0, f1, f2, f3, f4, f5, f6, f7, f8⟩ := hF
          have e4 : A.tmps[4]? = some (.int .i64 k) := by rw [HA.out]; kernel_rfl
          refine ⟨?_⟩
          go_simp
          refine hK (upd U 19 (.int .i64 k)) _ _ ?_ ?_
          · rw [HA.out]; kernel_rfl
          · exact ⟨fb, fk, fs, oX, oR, oP, fl, fq, f0, (fun _ => rfl), f2, f3, f4, f5, f6, f7, f8⟩
        refine StepsU.run rfl ?_ ?_
        · intro L U wr hF hlk haf A K hA hK
          have HA : Hid (A = putAll _ _ U) := hA
          clear hA
          simp [Aft, Region.binds] at haf
          obtain ⟨fb, fk, fs, oX, oR, oP, fl, fq, f0, f1, f2, f3, f4, f5, f6, f7, f8⟩ := hF
          have e5 : A.tmps[5]? = some (.pointer (some ⟨wl.heap.size, 0, none⟩)) := by rw [HA.out]; kernel_rfl
          refine ⟨?_⟩
          go_simp
          refine hK (upd U 20 (.pointer (some ⟨wl.heap.size, 0, none⟩))) _ _ ?_ ?_
          · rw [HA.out]; kernel_rfl
          · exact ⟨fb, fk, fs, oX, oR, oP, fl, fq, f0, f1, (fun _ => rfl), f3, f4, f5, f6, f7, f8⟩
        refine StepsU.run rfl ?_ ?_
        · intro L U wr hF hlk haf A K hA hK
          have HA : Hid (A = putAll _ _ U) := hA
          clear hA
          simp [Aft, Region.binds] at haf
          obtain ⟨fb, fk, fs, oX, oR, oP, fl, fq, f0, f1, f2, f3, f4, f5, f6, f7, f8⟩ := hF
          have g2 := f2 (by simp [haf])
          have e20 := rd HA.out 20 (by kernel_rfl) g2
          have c0 := oP.cell 0
          simp at c0
          refine ⟨?_⟩
          go_simp
          refine hK (upd U 21 (.int .i64 (pv : Nat))) _ _ ?_ ?_
          · rw [HA.out]; kernel_rfl
          · exact ⟨fb, fk, fs, oX, oR, oP, fl, fq, f0, f1, f2, (fun _ => rfl), f4, f5, f6, f7, f8⟩
        refine StepsU.run rfl ?_ ?_
        · intro L U wr hF hlk haf A K hA hK
          have HA : Hid (A = putAll _ _ U) := hA
          clear hA
          simp [Aft, Region.binds] at haf
          obtain ⟨fb, fk, fs, oX, oR, oP, fl, fq, f0, f1, f2, f3, f4, f5, f6, f7, f8⟩ := hF
          have e5 : A.tmps[5]? = some (.pointer (some ⟨wl.heap.size, 0, none⟩)) := by rw [HA.out]; kernel_rfl
          refine ⟨?_⟩
          go_simp
          refine hK (upd U 22 (.pointer (some ⟨wl.heap.size, 1, none⟩))) _ _ ?_ ?_
          · rw [HA.out]; kernel_rfl
          · exact ⟨fb, fk, fs, oX, oR, oP, fl, fq, f0, f1, f2, f3, (fun _ => rfl), f5, f6, f7, f8⟩
        refine StepsU.run rfl ?_ ?_
        · intro L U wr hF hlk haf A K hA hK
          have HA : Hid (A = putAll _ _ U) := hA
          clear hA
          simp [Aft, Region.binds] at haf
          obtain ⟨fb, fk, fs, oX, oR, oP, fl, fq, f0, f1, f2, f3, f4, f5, f6, f7, f8⟩ := hF
          have g4 := f4 (by simp [haf])
          have e22 := rd HA.out 22 (by kernel_rfl) g4
          have c1 := oP.cell 1
          have c2 := oP.cell 2
          simp at c1
          simp at c2
          refine ⟨?_⟩
          go_simp
          refine hK (upd U 23 (.agg #[.bool sE, .slice aE mE cE])) _ _ ?_ ?_
          · rw [HA.out]; kernel_rfl
          · exact ⟨fb, fk, fs, oX, oR, oP, fl, fq, f0, f1, f2, f3, f4, (fun _ => rfl), f6, f7, f8⟩
        refine StepsU.run rfl ?_ ?_
        · intro L U wr hF hlk haf A K hA hK
          have HA : Hid (A = putAll _ _ U) := hA
          clear hA
          simp [Aft, Region.binds] at haf
          obtain ⟨fb, fk, fs, oX, oR, oP, fl, fq, f0, f1, f2, f3, f4, f5, f6, f7, f8⟩ := hF
          have g5 := f5 (by simp [haf])
          have e23 := rd HA.out 23 (by kernel_rfl) g5
          refine ⟨?_⟩
          go_simp
          refine (neg_h _ pz _ (hE0.keepN fk)).mono ?_
          rintro e w1 ⟨u1, u2, u3, u4, rfl, hr, hb⟩
          go_simp
          refine hK (upd U 24 (.agg #[.bool u1, .slice u2 u3 u4])) _ _ ?_ ?_
          · rw [HA.out]; kernel_rfl
          · exact ⟨(fb.step hb (Nat.le_refl _)), (fk.trans (KeepN.below hb)), (Nat.le_trans fs hb.size), (oX.stay hb), (oR.stay hb), (oP.stay hb), (fun h => (fl h).below hb), (fun h => (fq h).below hb), (mvN mn_is (KeepN.below hb) f0), (mvN mn_is (KeepN.below hb) f1), (mvN mn_is (KeepN.below hb) f2), (mvN mn_is (KeepN.below hb) f3), (mvN mn_is (KeepN.below hb) f4), (mvN mn_is (KeepN.below hb) f5), (fun _ => hr), (mvN mn_prt (KeepN.below hb) f7), (mvN mn_is (KeepN.below hb) f8)⟩
        refine StepsU.run rfl ?_ ?_
        · intro L U wr hF hlk haf A K hA hK
          have HA : Hid (A = putAll _ _ U) := hA
          clear hA
          simp [Aft, Region.binds] at haf
          obtain ⟨fb, fk, fs, oX, oR, oP, fl, fq, f0, f1, f2, f3, f4, f5, f6, f7, f8⟩ := hF
          have g3 := f3 (by simp [haf])
          have g6 := f6 (by simp [haf])
          obtain ⟨yx, ya, yn, yc, hv⟩ := AInt.shape g6
          have hy : AInt _ _ _ := g6
          rw [hv] at hy
          have e21 := rd HA.out 21 (by kernel_rfl) g3
          have e24 := rd HA.out 24 (by kernel_rfl) hv
          refine ⟨?_⟩
          go_simp
          refine hK (upd U 25 (.agg #[.int .i64 (pv : Nat), .bool yx, .slice ya yn yc])) _ _ ?_ ?_
          · rw [HA.out]; kernel_rfl
          · exact ⟨fb, fk, fs, oX, oR, oP, fl, fq, f0, f1, f2, f3, f4, f5, f6, (fun _ => ⟨yx, ya, yn, yc, rfl, hy⟩), f8⟩
        refine StepsU.run rfl ?_ ?_
        · intro L U wr hF hlk haf A K hA hK
          have HA : Hid (A = putAll _ _ U) := hA
          clear hA
          simp [Aft, Region.binds] at haf
          obtain ⟨fb, fk, fs, oX, oR, oP, fl, fq, f0, f1, f2, f3, f4, f5, f6, f7, f8⟩ := hF
          have g0 := f0 (by simp [haf])
          have g1 := f1 (by simp [haf])
          have e18 := rd HA.out 18 (by kernel_rfl) g0
          have e19 := rd HA.out 19 (by kernel_rfl) g1
          refine ⟨?_⟩
          go_simp
          refine hK (upd U 26 (.pointer (some ⟨w.heap.size + 1 + 1, k * 3, none⟩))) _ _ ?_ ?_
          · rw [HA.out]; kernel_rfl
          · exact ⟨fb, fk, fs, oX, oR, oP, fl, fq, f0, f1, f2, f3, f4, f5, f6, f7, (fun _ => rfl)⟩
        refine StepsU.run rfl ?_ StepsU.nil
        · intro L U wr hF hlk haf A K hA hK
          have HA : Hid (A = putAll _ _ U) := hA
          clear hA
          simp [Aft, Region.binds] at haf
          obtain ⟨fb, fk, fs, oX, oR, oP, fl, fq, f0, f1, f2, f3, f4, f5, f6, f7, f8⟩ := hF
          have g7 := f7 (by simp [haf])
          have g8 := f8 (by simp [haf])
          obtain ⟨yx, ya, ym, yc, hv, hzz⟩ := g7
          have e25 := rd HA.out 25 (by kernel_rfl) hv
          have e26 := rd HA.out 26 (by kernel_rfl) g8
          have hL := fl hlk
          obtain ⟨z0, c0, -⟩ := hL.cell (k * 3) (by have := h0; omega)
          obtain ⟨z1, c1, -⟩ := hL.cell (k * 3 + 1) (by have := h0; omega)
          obtain ⟨z2, c2, -⟩ := hL.cell (k * 3 + 2) (by have := h0; omega)
          have q0 := hL.frozen (k * 3)
          have q1 := hL.frozen (k * 3 + 1)
          have q2 := hL.frozen (k * 3 + 2)
          have hKN := keepN_list hL (k * 3) [.int .i64 pv, .bool yx, .slice ya ym yc] (nuP _ _ _ _ _)
          have hPU := hL.putA (k * 3) [.int .i64 pv, .bool yx, .slice ya ym yc] (by have := h0; simp; omega) (nuP _ _ _ _ _)
          obtain ⟨-, -, -, hgb⟩ := hL.blkG
          have HL2 : Hid (LstG _ _ _ _ _ _ _) := hPU
          clear hPU hL
          refine ⟨?_⟩
          go_simp
          refine hK U _ _ ?_ ?_
          · exact HA.out
          · exact ⟨(below_stores (Nat.le_trans hLg hgb) [.int .i64 pv, .bool yx, .slice ya ym yc] (k * 3) fb), (fk.trans hKN), (by simp; exact fs), (oX.otherS naX (k * 3) [.int .i64 pv, .bool yx, .slice ya ym yc]), (oR.otherS naR (k * 3) [.int .i64 pv, .bool yx, .slice ya ym yc]), (oP.otherS naP (k * 3) [.int .i64 pv, .bool yx, .slice ya ym yc]), (fun h => by cases h), (fun _ => ⟨yx, ya, ym, yc, HL2.out, hzz.keepN hKN⟩), (mvN mn_is hKN f0), (mvN mn_is hKN f1), (mvN mn_is hKN f2), (mvN mn_is hKN f3), (mvN mn_is hKN f4), (mvN mn_is hKN f5), (mvN mn_int hKN f6), (mvN mn_prt hKN f7), (mvN mn_is hKN f8)⟩
      clear hbw oX oR oP hL
      intro L U V hall hF
      obtain ⟨hbw, fk, fs, oX, oR, oP, fl, fq, f0, f1, f2, f3, f4, f5, f6, f7, f8⟩ := hF
      clear fl
      have g0 := f0 (hall 0 (by decide))
      have g1 := f1 (hall 1 (by decide))
      have g2 := f2 (hall 2 (by decide))
      have g3 := f3 (hall 3 (by decide))
      have g4 := f4 (hall 4 (by decide))
      have g5 := f5 (hall 5 (by decide))
      have g6 := f6 (hall 6 (by decide))
      have g7 := f7 (hall 7 (by decide))
      have g8 := f8 (hall 8 (by decide))
      have hQ := fq (hall 9 (by decide))
      clear fq
      clear hall f0 f1 f2 f3 f4 f5 f6 f7 f8
      replace ltX := oX.lt
      replace ltR := oR.lt
      replace ltP := oP.lt
      try clear g0
      try clear g1
      try clear g2
      try clear g3
      try clear g4
      try clear g5
      try clear g6
      try clear g7
      try clear g8
      clear hbW
      simp only [setM_some, setM_none, setM_nil]
      obtain ⟨x2, a2, m2, c2, hL2, hz2⟩ := hQ
      have hE2 := (hE.keep fk).step (p := pv) (by simp [mulP]; have := HLN.out; omega) (by rw [HXL0.out]; omega) hz2
      clear hE fk fs oP ltP
      go_wp2
      go_roundw
      case rel =>
        refine ⟨k + 1, _, by omega, by go_num, oX, oR, hL2, ?_, hbw⟩
        have e9 : mulP (a.take (k + 1)) (-1) = mulP (a.take k) (-1) ++ [(pv, -pz)] := by
          unfold mulP
          rw [ptake_step a k _ (by rw [HLN.out]; exact h0), HPV.out]; simp
        rw [e9]; exact hE2
      case measure => simp [intOf]; omega
    · have hkq : k = qX := by omega
      subst hkq
      have hPA := hL.parr (ps := mulP a (-1)) (by have h := hE; rw [List.take_of_length_le (by rw [hL.1]; exact Nat.le_refl _), List.take_of_length_le (by rw [HLN.out]; exact Nat.le_refl _)] at h; exact h) (by simp [mulP, HLN.out])
      clear hE hk h0
      obtain ⟨ao9, cap9, hv9, q1, q2, q3, q4⟩ := hPA
      cases hv9
      clear hL
      have ltX := oX.lt
      have ltR := oR.lt
      obtain ⟨Xc0, Xc1, Xc2⟩ := oX.three
      obtain ⟨Xk0, Xk1, Xk2⟩ := oX.frozen3
      go_wp2_with fail
      refine (neg_h _ r _ (HRS.out.below hbw)).mono ?_
      rintro e w1 ⟨xN, aN, nN, cN, rfl, hN, hb⟩
      clear Xc0 Xc1 Xc2 Xk0 Xk1 Xk2
      replace oX := oX.stay hb
      replace ltX := oX.lt
      replace oR := oR.stay hb
      replace ltR := oR.lt
      replace q4 := q4.below hb
      replace hbw := hbw.step hb (Nat.le_refl _)
      clear hb
      obtain ⟨Rc0, Rc1, Rc2⟩ := oR.three
      obtain ⟨Rk0, Rk1, Rk2⟩ := oR.frozen3
      try simp only []
      try go_at_K
      repeat (first | go_values | go_skip | go_guarded | go_step | go_upon)
      refine bodyPost_ret (v := .agg #[.slice (some ⟨w.heap.size + 1 + 1, 0, none⟩) k k, .bool xN, .slice aN nN cN]) (by simp [results, Tryz.results18, go_sem, Rc0, Rc1, Rc2]) rfl ?_
      obtain ⟨K1, B1, _⟩ := resT (by decide) (by decide) oR hbw lwR (some ⟨w.heap.size + 1 + 1, 0, none⟩) k k xN aN nN cN
      exact ⟨_, rfl, ⟨_, _, _, _, _, _, _, rfl, ⟨by simp [mulP, HLN.out], q1, q2, q3, q4.keepP K1, hN.keepP K1, negP_fine HFN.out⟩⟩, B1⟩

end Go.Proofs.YteefniagebcagaaGreatDoor
/- Contracts of linear's Sub, copied and Scale; they prove no statement of the seat. -/
namespace Go.Proofs.YteefniagebcagaaGreatDoor
open Go.RowKit
set_option linter.unusedVariables false

set_option maxRecDepth 20000 in
set_option maxHeartbeats 8000000 in
theorem lsub_any (vX vY : Value) (a b : List (Nat × Int)) (r s : Int) (w : World) (hX : TermR w vX a r) (hY : TermR w vY b s) :
    Calls Tryz.prog 14 #[vX, vY] w fun e w' => ∃ v c, e = .returned (.tuple #[v, .int .i64 c]) ∧ TRes (tAddOk a (mulP b (-1)) r (-s)) (addP a (mulP b (-1))) (r + -s) v c w' ∧ Below w.heap.size w w' := by
  obtain ⟨pX, qX, rX, xX, aX, nX, cX, rfl, hX⟩ := hX
  obtain ⟨pY, qY, rY, xY, aY, nY, cY, rfl, hY⟩ := hY
  have oX := (((Blk.new w 33 #[.slice pX qX rX, .bool xX, .slice aX nX cX]).alloc (.cells #[.slice pY qY rY, .bool xY, .slice aY nY cY] 33 (0, 0))).alloc (.cells #[.slice none 0 0, .bool false, .slice none 0 0] 33 (0, 0)))
  have oY := ((Blk.new (w.alloc (.cells #[.slice pX qX rX, .bool xX, .slice aX nX cX] 33 (0, 0))) 33 #[.slice pY qY rY, .bool xY, .slice aY nY cY]).alloc (.cells #[.slice none 0 0, .bool false, .slice none 0 0] 33 (0, 0)))
  have oR := (Blk.new ((w.alloc (.cells #[.slice pX qX rX, .bool xX, .slice aX nX cX] 33 (0, 0))).alloc (.cells #[.slice pY qY rY, .bool xY, .slice aY nY cY] 33 (0, 0))) 33 #[.slice none 0 0, .bool false, .slice none 0 0])
  simp only [World.size_alloc] at oY oR
  have hbw : Below w.heap.size w (((w.alloc (.cells #[.slice pX qX rX, .bool xX, .slice aX nX cX] 33 (0, 0))).alloc (.cells #[.slice pY qY rY, .bool xY, .slice aY nY cY] 33 (0, 0))).alloc (.cells #[.slice none 0 0, .bool false, .slice none 0 0] 33 (0, 0))) := by go_grown
  replace hX := hX.below hbw
  replace hY := hY.below hbw
  have ltX := oX.lt
  have lwX : w.heap.size ≤ w.heap.size := by omega
  have ltY := oY.lt
  have lwY : w.heap.size ≤ w.heap.size + 1 := by omega
  have ltR := oR.lt
  have lwR : w.heap.size ≤ w.heap.size + 1 + 1 := by omega
  go_enter Tryz.func14, Tryz.ntmps14
  go_wp2
  by_cases hok : tAddOk a (mulP b (-1)) r (-s)
  · have HOK : Hid (tAddOk a (mulP b (-1)) r (-s)) := hok
    clear hok
    generalize (((w.alloc (.cells #[.slice pX qX rX, .bool xX, .slice aX nX cX] 33 (0, 0))).alloc (.cells #[.slice pY qY rY, .bool xY, .slice aY nY cY] 33 (0, 0))).alloc (.cells #[.slice none 0 0, .bool false, .slice none 0 0] 33 (0, 0))) = W0 at hbw oX oY oR ltX ltY ltR hX hY ⊢
    have geR : w.heap.size ≤ w.heap.size + 1 + 1 := lwR
    have neRX : w.heap.size + 1 + 1 ≠ w.heap.size := by omega
    have neRY : w.heap.size + 1 + 1 ≠ w.heap.size + 1 := by omega
    have hbW := hbw
    refine wp_region_M (by kernel_rfl) [5, 6, 7, 8, 9, 10, 11] [none, none, none, none, none, some 5, some 6, some 7, some 8, some 9, some 10, some 11] (fun U => by kernel_rfl) (fun L U wr => Below w.heap.size w wr ∧ KeepP W0 wr ∧ W0.heap.size ≤ wr.heap.size ∧ Blk 33 wr (w.heap.size) #[.slice pX qX rX, .bool xX, .slice aX nX cX] ∧ Blk 33 wr (w.heap.size + 1) #[.slice pY qY rY, .bool xY, .slice aY nY cY] ∧ BlkV 33 wr (w.heap.size + 1 + 1) (bif L 6 then U 10 else .agg #[.slice none 0 0, .bool false, .slice none 0 0]) ∧ (L 0 = true → IS (.agg #[.slice pX qX rX, .bool xX, .slice aX nX cX]) (U 6) wr) ∧ (L 1 = true → IS (.agg #[.slice pY qY rY, .bool xY, .slice aY nY cY]) (U 7) wr) ∧ (L 2 = true → TRM (mulP b (-1)) (-s) (U 8) wr) ∧ (L 3 = true → T2 (TRM (addP a (mulP b (-1))) (r + -s)) (IS (.int .i64 0)) (U 9) wr) ∧ (L 4 = true → TRM (addP a (mulP b (-1))) (r + -s) (U 10) wr) ∧ (L 5 = true → IS (.int .i64 0) (U 11) wr) ∧ (L 7 = true → IS (.int .i64 0) (U 5) wr) ∧ (L 6 = true → L 4 = true)) (by kernel_rfl) ?_ ?_ ?_
    · exact fun U => ⟨hbw.drew, KeepP.below (Below.refl _ _).drew, Nat.le_refl _, oX.drew, oY.drew, ⟨_, rfl, oR.drew⟩, (fun h => by cases h), (fun h => by cases h), (fun h => by cases h), (fun h => by cases h), (fun h => by cases h), (fun h => by cases h), (fun h => by cases h), (fun h => by cases h)⟩
    · refine StepsU.run rfl ?_ ?_
      · intro L U wr hF hlk haf A K hA hK
        have HA : Hid (A = putAll _ _ U) := hA
        clear hA
        simp [Aft, Region.binds] at haf
        obtain ⟨fb, fk, fs, oX, oY, rR, f0, f1, f2, f3, f4, f5, f7, s6⟩ := hF
        have e2 : A.tmps[2]? = some (.pointer (some ⟨w.heap.size, 0, none⟩)) := by rw [HA.out]; kernel_rfl
        have c0 := oX.cell 0
        have c1 := oX.cell 1
        have c2 := oX.cell 2
        simp at c0
        simp at c1
        simp at c2
        refine ⟨?_⟩
        go_simp
        refine hK (upd U 6 (.agg #[.slice pX qX rX, .bool xX, .slice aX nX cX])) _ _ ?_ ?_
        · rw [HA.out]; kernel_rfl
        · exact ⟨fb, fk, fs, oX, oY, rR, (fun _ => rfl), f1, f2, f3, f4, f5, f7, s6⟩
      refine StepsU.run rfl ?_ ?_
      · intro L U wr hF hlk haf A K hA hK
        have HA : Hid (A = putAll _ _ U) := hA
        clear hA
        simp [Aft, Region.binds] at haf
        obtain ⟨fb, fk, fs, oX, oY, rR, f0, f1, f2, f3, f4, f5, f7, s6⟩ := hF
        have e3 : A.tmps[3]? = some (.pointer (some ⟨w.heap.size + 1, 0, none⟩)) := by rw [HA.out]; kernel_rfl
        have c0 := oY.cell 0
        have c1 := oY.cell 1
        have c2 := oY.cell 2
        simp at c0
        simp at c1
        simp at c2
        refine ⟨?_⟩
        go_simp
        refine hK (upd U 7 (.agg #[.slice pY qY rY, .bool xY, .slice aY nY cY])) _ _ ?_ ?_
        · rw [HA.out]; kernel_rfl
        · exact ⟨fb, fk, fs, oX, oY, rR, f0, (fun _ => rfl), f2, f3, f4, f5, f7, s6⟩
      refine StepsU.run rfl ?_ ?_
      · intro L U wr hF hlk haf A K hA hK
        have HA : Hid (A = putAll _ _ U) := hA
        clear hA
        simp [Aft, Region.binds] at haf
        obtain ⟨fb, fk, fs, oX, oY, rR, f0, f1, f2, f3, f4, f5, f7, s6⟩ := hF
        have g1 := f1 (by simp [haf])
        have e7 := rd HA.out 7 (by kernel_rfl) g1
        refine ⟨?_⟩
        go_simp
        refine (lneg_any _ b s _ (hY.keepP fk).val).mono ?_
        rintro e w1 ⟨v, rfl, hr, hb⟩
        go_simp
        refine hK (upd U 8 v) _ _ ?_ ?_
        · rw [HA.out]; kernel_rfl
        · exact ⟨(fb.step hb (Nat.le_refl _)), (fk.trans (KeepP.below hb)), (Nat.le_trans fs hb.size), (oX.stay hb), (oY.stay hb), (rR.stay hb), (mvP mp_is (KeepP.below hb) f0), (mvP mp_is (KeepP.below hb) f1), (fun _ => hr), (mvP (mp_t2 mp_trm mp_is) (KeepP.below hb) f3), (mvP mp_trm (KeepP.below hb) f4), (mvP mp_is (KeepP.below hb) f5), (mvP mp_is (KeepP.below hb) f7), s6⟩
      refine StepsU.run rfl ?_ ?_
      · intro L U wr hF hlk haf A K hA hK
        have HA : Hid (A = putAll _ _ U) := hA
        clear hA
        simp [Aft, Region.binds] at haf
        obtain ⟨fb, fk, fs, oX, oY, rR, f0, f1, f2, f3, f4, f5, f7, s6⟩ := hF
        have g0 := f0 (by simp [haf])
        have e6 := rd HA.out 6 (by kernel_rfl) g0
        have g2 := f2 (by simp [haf])
        have e8 := rd HA.out 8 (by kernel_rfl) rfl
        refine ⟨?_⟩
        go_simp
        refine (ladd_any _ _ a (mulP b (-1)) r (-s) _ (hX.keepP fk).val g2).mono ?_
        rintro e w1 ⟨v, c, rfl, hM, hb⟩
        go_simp
        refine hK (upd U 9 (.tuple #[v, .int .i64 c])) _ _ ?_ ?_
        · rw [HA.out]; kernel_rfl
        · exact ⟨(fb.step hb (Nat.le_refl _)), (fk.trans (KeepP.below hb)), (Nat.le_trans fs hb.size), (oX.stay hb), (oY.stay hb), (rR.stay hb), (mvP mp_is (KeepP.below hb) f0), (mvP mp_is (KeepP.below hb) f1), (mvP mp_trm (KeepP.below hb) f2), (fun _ => (by rcases hM with ⟨h1, rfl, h3⟩ | ⟨h1, rfl, h3⟩; exact ⟨_, _, rfl, h3, rfl⟩; exact absurd HOK.out h1)), (mvP mp_trm (KeepP.below hb) f4), (mvP mp_is (KeepP.below hb) f5), (mvP mp_is (KeepP.below hb) f7), s6⟩
      refine StepsU.run rfl ?_ ?_
      · intro L U wr hF hlk haf A K hA hK
        have HA : Hid (A = putAll _ _ U) := hA
        clear hA
        simp [Aft, Region.binds] at haf
        obtain ⟨fb, fk, fs, oX, oY, rR, f0, f1, f2, f3, f4, f5, f7, s6⟩ := hF
        have g3 := f3 (by simp [haf])
        obtain ⟨t0, t1, hT, k0, k1⟩ := g3
        have e9 := rd HA.out 9 (by kernel_rfl) hT
        refine ⟨?_⟩
        go_simp
        have hs6 : L 6 = false := by cases h : L 6 with | false => rfl | true => rw [s6 h] at hlk; cases hlk
        refine hK (upd U 10 t0) _ _ ?_ ?_
        · rw [HA.out]; kernel_rfl
        · exact ⟨fb, fk, fs, oX, oY, (flip_v (P := fun v => BlkV _ _ _ v) hs6 rR), f0, f1, f2, f3, (fun _ => k0), f5, f7, (fun _ => rfl)⟩
      refine StepsU.run rfl ?_ ?_
      · intro L U wr hF hlk haf A K hA hK
        have HA : Hid (A = putAll _ _ U) := hA
        clear hA
        simp [Aft, Region.binds] at haf
        obtain ⟨fb, fk, fs, oX, oY, rR, f0, f1, f2, f3, f4, f5, f7, s6⟩ := hF
        have g3 := f3 (by simp [haf])
        obtain ⟨t0, t1, hT, k0, k1⟩ := g3
        have e9 := rd HA.out 9 (by kernel_rfl) hT
        refine ⟨?_⟩
        go_simp
        refine hK (upd U 11 t1) _ _ ?_ ?_
        · rw [HA.out]; kernel_rfl
        · exact ⟨fb, fk, fs, oX, oY, rR, f0, f1, f2, f3, f4, (fun _ => k1), f7, s6⟩
      refine StepsU.run rfl ?_ ?_
      · intro L U wr hF hlk haf A K hA hK
        have HA : Hid (A = putAll _ _ U) := hA
        clear hA
        simp [Aft, Region.binds] at haf
        obtain ⟨fb, fk, fs, oX, oY, rR, f0, f1, f2, f3, f4, f5, f7, s6⟩ := hF
        have g4 := f4 (by simp [haf])
        obtain ⟨yp, yq, yr, yx, ya, yn, yc, hsrc⟩ := TermR.shape g4
        have e10 := rd HA.out 10 (by kernel_rfl) hsrc
        have e4 : A.tmps[4]? = some (.pointer (some ⟨w.heap.size + 1 + 1, 0, none⟩)) := by rw [HA.out]; kernel_rfl
        have rV := rR
        rw [hlk, cond_false] at rV
        obtain ⟨cs, hcs, hblk⟩ := rV
        injection hcs with hcs
        subst hcs
        have q0 := hblk.frozen 0
        have q1 := hblk.frozen 1
        have q2 := hblk.frozen 2
        have c0 := hblk.cell 0
        have c1 := hblk.cell 1
        have c2 := hblk.cell 2
        simp at c0
        simp at c1
        simp at c2
        have hlt := hblk.lt
        refine ⟨?_⟩
        go_simp
        refine hK U _ _ ?_ ?_
        · exact HA.out
        · exact ⟨(below_stores geR [.slice yp yq yr, .bool yx, .slice ya yn yc] 0 fb), (fk.trans (keepP_stores (by decide) (by decide) [.slice yp yq yr, .bool yx, .slice ya yn yc] 0 hblk (nuT _ _ _ _ _ _ _) (nuT _ _ _ _ _ _ _))), (by simp; exact fs), (oX.otherS neRX 0 [.slice yp yq yr, .bool yx, .slice ya yn yc]), (oY.otherS neRY 0 [.slice yp yq yr, .bool yx, .slice ya yn yc]), (by simp only [cond_true, Bool.true_or, beq_self_eq_true]; exact ⟨_, hsrc, hblk.overS [.slice yp yq yr, .bool yx, .slice ya yn yc] 0 rfl⟩), (mvP mp_is (keepP_stores (by decide) (by decide) [.slice yp yq yr, .bool yx, .slice ya yn yc] 0 hblk (nuT _ _ _ _ _ _ _) (nuT _ _ _ _ _ _ _)) f0), (mvP mp_is (keepP_stores (by decide) (by decide) [.slice yp yq yr, .bool yx, .slice ya yn yc] 0 hblk (nuT _ _ _ _ _ _ _) (nuT _ _ _ _ _ _ _)) f1), (mvP mp_trm (keepP_stores (by decide) (by decide) [.slice yp yq yr, .bool yx, .slice ya yn yc] 0 hblk (nuT _ _ _ _ _ _ _) (nuT _ _ _ _ _ _ _)) f2), (mvP (mp_t2 mp_trm mp_is) (keepP_stores (by decide) (by decide) [.slice yp yq yr, .bool yx, .slice ya yn yc] 0 hblk (nuT _ _ _ _ _ _ _) (nuT _ _ _ _ _ _ _)) f3), (mvP mp_trm (keepP_stores (by decide) (by decide) [.slice yp yq yr, .bool yx, .slice ya yn yc] 0 hblk (nuT _ _ _ _ _ _ _) (nuT _ _ _ _ _ _ _)) f4), (mvP mp_is (keepP_stores (by decide) (by decide) [.slice yp yq yr, .bool yx, .slice ya yn yc] 0 hblk (nuT _ _ _ _ _ _ _) (nuT _ _ _ _ _ _ _)) f5), (mvP mp_is (keepP_stores (by decide) (by decide) [.slice yp yq yr, .bool yx, .slice ya yn yc] 0 hblk (nuT _ _ _ _ _ _ _) (nuT _ _ _ _ _ _ _)) f7), (fun _ => by simp [haf])⟩
      refine StepsU.run rfl ?_ StepsU.nil
      · intro L U wr hF hlk haf A K hA hK
        have HA : Hid (A = putAll _ _ U) := hA
        clear hA
        simp [Aft, Region.binds] at haf
        obtain ⟨fb, fk, fs, oX, oY, rR, f0, f1, f2, f3, f4, f5, f7, s6⟩ := hF
        have g5 := f5 (by simp [haf])
        have e11 := rd HA.out 11 (by kernel_rfl) rfl
        refine ⟨?_⟩
        go_simp
        refine hK (upd U 5 (U 11)) _ _ ?_ ?_
        · rw [HA.out]; kernel_rfl
        · exact ⟨fb, fk, fs, oX, oY, rR, f0, f1, f2, f3, f4, f5, (fun _ => g5), s6⟩
    clear hbw oX oY oR
    intro L U1 V1 hall hF
    obtain ⟨hbw, fk, fs, oX, oY, rR, f0, f1, f2, f3, f4, f5, f7, s6⟩ := hF
    clear s6
    have g0 := f0 (hall 0 (by decide))
    have g1 := f1 (hall 1 (by decide))
    have g2 := f2 (hall 2 (by decide))
    have g3 := f3 (hall 3 (by decide))
    have g4 := f4 (hall 4 (by decide))
    have g5 := f5 (hall 5 (by decide))
    have g7 := f7 (hall 7 (by decide))
    rw [hall 6 (by decide), cond_true] at rR
    clear hall f0 f1 f2 f3 f4 f5 f7
    replace hX := hX.keepP fk
    replace hY := hY.keepP fk
    obtain ⟨csR, hcsR, oR⟩ := rR
    obtain ⟨pR, qR, rR, xR, aR, nR, cR, hvR⟩ := TermR.shape g4
    have hR : TermR _ _ _ _ := g4
    rw [hvR] at hR hcsR
    injection hcsR with hcsR
    subst hcsR
    clear hvR
    replace ltR := oR.lt
    replace ltX := oX.lt
    replace ltY := oY.lt
    try clear g0
    try clear g1
    try clear g2
    try clear g3
    try clear g4
    try clear g5
    clear hbW
    simp only [setM_some, setM_none, setM_nil]
    clear fk fs
    have e5 : U1 5 = _ := g7
    obtain ⟨Rc0, Rc1, Rc2⟩ := oR.three
    obtain ⟨Rk0, Rk1, Rk2⟩ := oR.frozen3
    try simp only []
    try go_at_K
    repeat (first | go_values | go_skip | go_guarded | go_step | go_upon)
    refine bodyPost_ret (v := .tuple #[.agg #[.slice pR qR rR, .bool xR, .slice aR nR cR], .int .i64 0]) (by simp [results, Tryz.results14, go_sem, Rc0, Rc1, Rc2, e5]) rfl ?_
    exact ⟨_, _, rfl, Or.inl ⟨HOK.out, rfl, hR⟩, hbw⟩
  · have HOK : Hid (¬ tAddOk a (mulP b (-1)) r (-s)) := hok
    clear hok
    generalize (((w.alloc (.cells #[.slice pX qX rX, .bool xX, .slice aX nX cX] 33 (0, 0))).alloc (.cells #[.slice pY qY rY, .bool xY, .slice aY nY cY] 33 (0, 0))).alloc (.cells #[.slice none 0 0, .bool false, .slice none 0 0] 33 (0, 0))) = W0 at hbw oX oY oR ltX ltY ltR hX hY ⊢
    have geR : w.heap.size ≤ w.heap.size + 1 + 1 := lwR
    have neRX : w.heap.size + 1 + 1 ≠ w.heap.size := by omega
    have neRY : w.heap.size + 1 + 1 ≠ w.heap.size + 1 := by omega
    have hbW := hbw
    refine wp_region_M (by kernel_rfl) [5, 6, 7, 8, 9, 10, 11] [none, none, none, none, none, some 5, some 6, some 7, some 8, some 9, some 10, some 11] (fun U => by kernel_rfl) (fun L U wr => Below w.heap.size w wr ∧ KeepP W0 wr ∧ W0.heap.size ≤ wr.heap.size ∧ Blk 33 wr (w.heap.size) #[.slice pX qX rX, .bool xX, .slice aX nX cX] ∧ Blk 33 wr (w.heap.size + 1) #[.slice pY qY rY, .bool xY, .slice aY nY cY] ∧ BlkV 33 wr (w.heap.size + 1 + 1) (bif L 6 then U 10 else .agg #[.slice none 0 0, .bool false, .slice none 0 0]) ∧ (L 0 = true → IS (.agg #[.slice pX qX rX, .bool xX, .slice aX nX cX]) (U 6) wr) ∧ (L 1 = true → IS (.agg #[.slice pY qY rY, .bool xY, .slice aY nY cY]) (U 7) wr) ∧ (L 2 = true → TRM (mulP b (-1)) (-s) (U 8) wr) ∧ (L 3 = true → T2 (TRM [] 0) (IS (.int .i64 11)) (U 9) wr) ∧ (L 4 = true → TRM [] 0 (U 10) wr) ∧ (L 5 = true → IS (.int .i64 11) (U 11) wr) ∧ (L 7 = true → IS (.int .i64 11) (U 5) wr) ∧ (L 6 = true → L 4 = true)) (by kernel_rfl) ?_ ?_ ?_
    · exact fun U => ⟨hbw.drew, KeepP.below (Below.refl _ _).drew, Nat.le_refl _, oX.drew, oY.drew, ⟨_, rfl, oR.drew⟩, (fun h => by cases h), (fun h => by cases h), (fun h => by cases h), (fun h => by cases h), (fun h => by cases h), (fun h => by cases h), (fun h => by cases h), (fun h => by cases h)⟩
    · refine StepsU.run rfl ?_ ?_
      · intro L U wr hF hlk haf A K hA hK
        have HA : Hid (A = putAll _ _ U) := hA
        clear hA
        simp [Aft, Region.binds] at haf
        obtain ⟨fb, fk, fs, oX, oY, rR, f0, f1, f2, f3, f4, f5, f7, s6⟩ := hF
        have e2 : A.tmps[2]? = some (.pointer (some ⟨w.heap.size, 0, none⟩)) := by rw [HA.out]; kernel_rfl
        have c0 := oX.cell 0
        have c1 := oX.cell 1
        have c2 := oX.cell 2
        simp at c0
        simp at c1
        simp at c2
        refine ⟨?_⟩
        go_simp
        refine hK (upd U 6 (.agg #[.slice pX qX rX, .bool xX, .slice aX nX cX])) _ _ ?_ ?_
        · rw [HA.out]; kernel_rfl
        · exact ⟨fb, fk, fs, oX, oY, rR, (fun _ => rfl), f1, f2, f3, f4, f5, f7, s6⟩
      refine StepsU.run rfl ?_ ?_
      · intro L U wr hF hlk haf A K hA hK
        have HA : Hid (A = putAll _ _ U) := hA
        clear hA
        simp [Aft, Region.binds] at haf
        obtain ⟨fb, fk, fs, oX, oY, rR, f0, f1, f2, f3, f4, f5, f7, s6⟩ := hF
        have e3 : A.tmps[3]? = some (.pointer (some ⟨w.heap.size + 1, 0, none⟩)) := by rw [HA.out]; kernel_rfl
        have c0 := oY.cell 0
        have c1 := oY.cell 1
        have c2 := oY.cell 2
        simp at c0
        simp at c1
        simp at c2
        refine ⟨?_⟩
        go_simp
        refine hK (upd U 7 (.agg #[.slice pY qY rY, .bool xY, .slice aY nY cY])) _ _ ?_ ?_
        · rw [HA.out]; kernel_rfl
        · exact ⟨fb, fk, fs, oX, oY, rR, f0, (fun _ => rfl), f2, f3, f4, f5, f7, s6⟩
      refine StepsU.run rfl ?_ ?_
      · intro L U wr hF hlk haf A K hA hK
        have HA : Hid (A = putAll _ _ U) := hA
        clear hA
        simp [Aft, Region.binds] at haf
        obtain ⟨fb, fk, fs, oX, oY, rR, f0, f1, f2, f3, f4, f5, f7, s6⟩ := hF
        have g1 := f1 (by simp [haf])
        have e7 := rd HA.out 7 (by kernel_rfl) g1
        refine ⟨?_⟩
        go_simp
        refine (lneg_any _ b s _ (hY.keepP fk).val).mono ?_
        rintro e w1 ⟨v, rfl, hr, hb⟩
        go_simp
        refine hK (upd U 8 v) _ _ ?_ ?_
        · rw [HA.out]; kernel_rfl
        · exact ⟨(fb.step hb (Nat.le_refl _)), (fk.trans (KeepP.below hb)), (Nat.le_trans fs hb.size), (oX.stay hb), (oY.stay hb), (rR.stay hb), (mvP mp_is (KeepP.below hb) f0), (mvP mp_is (KeepP.below hb) f1), (fun _ => hr), (mvP (mp_t2 mp_trm mp_is) (KeepP.below hb) f3), (mvP mp_trm (KeepP.below hb) f4), (mvP mp_is (KeepP.below hb) f5), (mvP mp_is (KeepP.below hb) f7), s6⟩
      refine StepsU.run rfl ?_ ?_
      · intro L U wr hF hlk haf A K hA hK
        have HA : Hid (A = putAll _ _ U) := hA
        clear hA
        simp [Aft, Region.binds] at haf
        obtain ⟨fb, fk, fs, oX, oY, rR, f0, f1, f2, f3, f4, f5, f7, s6⟩ := hF
        have g0 := f0 (by simp [haf])
        have e6 := rd HA.out 6 (by kernel_rfl) g0
        have g2 := f2 (by simp [haf])
        have e8 := rd HA.out 8 (by kernel_rfl) rfl
        refine ⟨?_⟩
        go_simp
        refine (ladd_any _ _ a (mulP b (-1)) r (-s) _ (hX.keepP fk).val g2).mono ?_
        rintro e w1 ⟨v, c, rfl, hM, hb⟩
        go_simp
        refine hK (upd U 9 (.tuple #[v, .int .i64 c])) _ _ ?_ ?_
        · rw [HA.out]; kernel_rfl
        · exact ⟨(fb.step hb (Nat.le_refl _)), (fk.trans (KeepP.below hb)), (Nat.le_trans fs hb.size), (oX.stay hb), (oY.stay hb), (rR.stay hb), (mvP mp_is (KeepP.below hb) f0), (mvP mp_is (KeepP.below hb) f1), (mvP mp_trm (KeepP.below hb) f2), (fun _ => (by rcases hM with ⟨h1, rfl, h3⟩ | ⟨h1, rfl, h3⟩; exact absurd h1 HOK.out; exact ⟨_, _, rfl, h3, rfl⟩)), (mvP mp_trm (KeepP.below hb) f4), (mvP mp_is (KeepP.below hb) f5), (mvP mp_is (KeepP.below hb) f7), s6⟩
      refine StepsU.run rfl ?_ ?_
      · intro L U wr hF hlk haf A K hA hK
        have HA : Hid (A = putAll _ _ U) := hA
        clear hA
        simp [Aft, Region.binds] at haf
        obtain ⟨fb, fk, fs, oX, oY, rR, f0, f1, f2, f3, f4, f5, f7, s6⟩ := hF
        have g3 := f3 (by simp [haf])
        obtain ⟨t0, t1, hT, k0, k1⟩ := g3
        have e9 := rd HA.out 9 (by kernel_rfl) hT
        refine ⟨?_⟩
        go_simp
        have hs6 : L 6 = false := by cases h : L 6 with | false => rfl | true => rw [s6 h] at hlk; cases hlk
        refine hK (upd U 10 t0) _ _ ?_ ?_
        · rw [HA.out]; kernel_rfl
        · exact ⟨fb, fk, fs, oX, oY, (flip_v (P := fun v => BlkV _ _ _ v) hs6 rR), f0, f1, f2, f3, (fun _ => k0), f5, f7, (fun _ => rfl)⟩
      refine StepsU.run rfl ?_ ?_
      · intro L U wr hF hlk haf A K hA hK
        have HA : Hid (A = putAll _ _ U) := hA
        clear hA
        simp [Aft, Region.binds] at haf
        obtain ⟨fb, fk, fs, oX, oY, rR, f0, f1, f2, f3, f4, f5, f7, s6⟩ := hF
        have g3 := f3 (by simp [haf])
        obtain ⟨t0, t1, hT, k0, k1⟩ := g3
        have e9 := rd HA.out 9 (by kernel_rfl) hT
        refine ⟨?_⟩
        go_simp
        refine hK (upd U 11 t1) _ _ ?_ ?_
        · rw [HA.out]; kernel_rfl
        · exact ⟨fb, fk, fs, oX, oY, rR, f0, f1, f2, f3, f4, (fun _ => k1), f7, s6⟩
      refine StepsU.run rfl ?_ ?_
      · intro L U wr hF hlk haf A K hA hK
        have HA : Hid (A = putAll _ _ U) := hA
        clear hA
        simp [Aft, Region.binds] at haf
        obtain ⟨fb, fk, fs, oX, oY, rR, f0, f1, f2, f3, f4, f5, f7, s6⟩ := hF
        have g4 := f4 (by simp [haf])
        obtain ⟨yp, yq, yr, yx, ya, yn, yc, hsrc⟩ := TermR.shape g4
        have e10 := rd HA.out 10 (by kernel_rfl) hsrc
        have e4 : A.tmps[4]? = some (.pointer (some ⟨w.heap.size + 1 + 1, 0, none⟩)) := by rw [HA.out]; kernel_rfl
        have rV := rR
        rw [hlk, cond_false] at rV
        obtain ⟨cs, hcs, hblk⟩ := rV
        injection hcs with hcs
        subst hcs
        have q0 := hblk.frozen 0
        have q1 := hblk.frozen 1
        have q2 := hblk.frozen 2
        have c0 := hblk.cell 0
        have c1 := hblk.cell 1
        have c2 := hblk.cell 2
        simp at c0
        simp at c1
        simp at c2
        have hlt := hblk.lt
        refine ⟨?_⟩
        go_simp
        refine hK U _ _ ?_ ?_
        · exact HA.out
        · exact ⟨(below_stores geR [.slice yp yq yr, .bool yx, .slice ya yn yc] 0 fb), (fk.trans (keepP_stores (by decide) (by decide) [.slice yp yq yr, .bool yx, .slice ya yn yc] 0 hblk (nuT _ _ _ _ _ _ _) (nuT _ _ _ _ _ _ _))), (by simp; exact fs), (oX.otherS neRX 0 [.slice yp yq yr, .bool yx, .slice ya yn yc]), (oY.otherS neRY 0 [.slice yp yq yr, .bool yx, .slice ya yn yc]), (by simp only [cond_true, Bool.true_or, beq_self_eq_true]; exact ⟨_, hsrc, hblk.overS [.slice yp yq yr, .bool yx, .slice ya yn yc] 0 rfl⟩), (mvP mp_is (keepP_stores (by decide) (by decide) [.slice yp yq yr, .bool yx, .slice ya yn yc] 0 hblk (nuT _ _ _ _ _ _ _) (nuT _ _ _ _ _ _ _)) f0), (mvP mp_is (keepP_stores (by decide) (by decide) [.slice yp yq yr, .bool yx, .slice ya yn yc] 0 hblk (nuT _ _ _ _ _ _ _) (nuT _ _ _ _ _ _ _)) f1), (mvP mp_trm (keepP_stores (by decide) (by decide) [.slice yp yq yr, .bool yx, .slice ya yn yc] 0 hblk (nuT _ _ _ _ _ _ _) (nuT _ _ _ _ _ _ _)) f2), (mvP (mp_t2 mp_trm mp_is) (keepP_stores (by decide) (by decide) [.slice yp yq yr, .bool yx, .slice ya yn yc] 0 hblk (nuT _ _ _ _ _ _ _) (nuT _ _ _ _ _ _ _)) f3), (mvP mp_trm (keepP_stores (by decide) (by decide) [.slice yp yq yr, .bool yx, .slice ya yn yc] 0 hblk (nuT _ _ _ _ _ _ _) (nuT _ _ _ _ _ _ _)) f4), (mvP mp_is (keepP_stores (by decide) (by decide) [.slice yp yq yr, .bool yx, .slice ya yn yc] 0 hblk (nuT _ _ _ _ _ _ _) (nuT _ _ _ _ _ _ _)) f5), (mvP mp_is (keepP_stores (by decide) (by decide) [.slice yp yq yr, .bool yx, .slice ya yn yc] 0 hblk (nuT _ _ _ _ _ _ _) (nuT _ _ _ _ _ _ _)) f7), (fun _ => by simp [haf])⟩
      refine StepsU.run rfl ?_ StepsU.nil
      · intro L U wr hF hlk haf A K hA hK
        have HA : Hid (A = putAll _ _ U) := hA
        clear hA
        simp [Aft, Region.binds] at haf
        obtain ⟨fb, fk, fs, oX, oY, rR, f0, f1, f2, f3, f4, f5, f7, s6⟩ := hF
        have g5 := f5 (by simp [haf])
        have e11 := rd HA.out 11 (by kernel_rfl) rfl
        refine ⟨?_⟩
        go_simp
        refine hK (upd U 5 (U 11)) _ _ ?_ ?_
        · rw [HA.out]; kernel_rfl
        · exact ⟨fb, fk, fs, oX, oY, rR, f0, f1, f2, f3, f4, f5, (fun _ => g5), s6⟩
    clear hbw oX oY oR
    intro L U1 V1 hall hF
    obtain ⟨hbw, fk, fs, oX, oY, rR, f0, f1, f2, f3, f4, f5, f7, s6⟩ := hF
    clear s6
    have g0 := f0 (hall 0 (by decide))
    have g1 := f1 (hall 1 (by decide))
    have g2 := f2 (hall 2 (by decide))
    have g3 := f3 (hall 3 (by decide))
    have g4 := f4 (hall 4 (by decide))
    have g5 := f5 (hall 5 (by decide))
    have g7 := f7 (hall 7 (by decide))
    rw [hall 6 (by decide), cond_true] at rR
    clear hall f0 f1 f2 f3 f4 f5 f7
    replace hX := hX.keepP fk
    replace hY := hY.keepP fk
    obtain ⟨csR, hcsR, oR⟩ := rR
    obtain ⟨pR, qR, rR, xR, aR, nR, cR, hvR⟩ := TermR.shape g4
    have hR : TermR _ _ _ _ := g4
    rw [hvR] at hR hcsR
    injection hcsR with hcsR
    subst hcsR
    clear hvR
    replace ltR := oR.lt
    replace ltX := oX.lt
    replace ltY := oY.lt
    try clear g0
    try clear g1
    try clear g2
    try clear g3
    try clear g4
    try clear g5
    clear hbW
    simp only [setM_some, setM_none, setM_nil]
    clear fk fs
    have e5 : U1 5 = _ := g7
    obtain ⟨Rc0, Rc1, Rc2⟩ := oR.three
    obtain ⟨Rk0, Rk1, Rk2⟩ := oR.frozen3
    try simp only []
    try go_at_K
    repeat (first | go_values | go_skip | go_guarded | go_step | go_upon)
    refine bodyPost_ret (v := .tuple #[.agg #[.slice pR qR rR, .bool xR, .slice aR nR cR], .int .i64 11]) (by simp [results, Tryz.results14, go_sem, Rc0, Rc1, Rc2, e5]) rfl ?_
    exact ⟨_, _, rfl, Or.inr ⟨HOK.out, rfl, hR⟩, hbw⟩

/-- Every product fits. -/
def tMulOk (a : List (Nat × Int)) (r k : Int) : Prop := (r * k).natAbs < lim ∧ ∀ p ∈ a, (p.2 * k).natAbs < lim

set_option maxRecDepth 20000 in
set_option maxHeartbeats 8000000 in
theorem lscale_any (vX vB : Value) (a : List (Nat × Int)) (r z : Int) (w : World) (hX : TermR w vX a r) (hB : AInt w vB z) :
    Calls Tryz.prog 23 #[vX, vB] w fun e w' => ∃ v c, e = .returned (.tuple #[v, .int .i64 c]) ∧ ((z = 0 ∧ c = 0 ∧ TermR w' v [] 0) ∨ (z ≠ 0 ∧ tMulOk a r z ∧ c = 0 ∧ TermR w' v (mulP a z) (r * z)) ∨ (z ≠ 0 ∧ ¬ tMulOk a r z ∧ c = 11 ∧ TermR w' v [] 0)) ∧ Below w.heap.size w w' := by
  obtain ⟨pX, qX, rX, xX, aX, nX, cX, rfl, hX⟩ := hX
  obtain ⟨xB, aB, nB, cB, rfl⟩ := hB.shape
  have ha0 := hX.arr
  have oX := (((Blk.new w 33 #[.slice pX qX rX, .bool xX, .slice aX nX cX]).alloc (.cells #[.bool xB, .slice aB nB cB] 31 (0, 0))).alloc (.cells #[.slice none 0 0, .bool false, .slice none 0 0] 33 (0, 0)))
  have oB := ((Blk.new (w.alloc (.cells #[.slice pX qX rX, .bool xX, .slice aX nX cX] 33 (0, 0))) 31 #[.bool xB, .slice aB nB cB]).alloc (.cells #[.slice none 0 0, .bool false, .slice none 0 0] 33 (0, 0)))
  have oR := (Blk.new ((w.alloc (.cells #[.slice pX qX rX, .bool xX, .slice aX nX cX] 33 (0, 0))).alloc (.cells #[.bool xB, .slice aB nB cB] 31 (0, 0))) 33 #[.slice none 0 0, .bool false, .slice none 0 0])
  simp only [World.size_alloc] at oB oR
  have hbw : Below w.heap.size w (((w.alloc (.cells #[.slice pX qX rX, .bool xX, .slice aX nX cX] 33 (0, 0))).alloc (.cells #[.bool xB, .slice aB nB cB] 31 (0, 0))).alloc (.cells #[.slice none 0 0, .bool false, .slice none 0 0] 33 (0, 0))) := by go_grown
  replace hX := hX.below hbw
  replace hB := hB.below hbw
  have ltX := oX.lt
  have lwX : w.heap.size ≤ w.heap.size := by omega
  have ltB := oB.lt
  have lwB : w.heap.size ≤ w.heap.size + 1 := by omega
  have ltR := oR.lt
  have lwR : w.heap.size ≤ w.heap.size + 1 + 1 := by omega
  go_enter Tryz.func23, Tryz.ntmps23
  have HX : Hid (PArr w pX a) := ha0
  have hlen := hX.n_le
  have HLN : Hid (a.length = qX) := hX.len
  have HFN : Hid (Fine a) := hX.fine
  clear ha0
  obtain ⟨Bc0, Bc1, Bk0, Bk1⟩ := oB.two
  go_wp2_with fail
  refine (sign_h _ z _ hB).mono ?_
  rintro e w1 ⟨rfl, hb⟩
  clear Bc0 Bc1 Bk0 Bk1
  replace oX := oX.stay hb
  replace ltX := oX.lt
  replace oB := oB.stay hb
  replace ltB := oB.lt
  replace oR := oR.stay hb
  replace ltR := oR.lt
  replace hX := hX.below hb
  replace hB := hB.below hb
  replace hbw := hbw.step hb (Nat.le_refl _)
  clear hb
  by_cases hz0 : z = 0
  · have hs : (z.sign == 0) = true := by rw [hz0]; rfl
    have HZ : Hid (z = 0) := hz0
    clear hz0
    obtain ⟨Rc0, Rc1, Rc2⟩ := oR.three
    obtain ⟨Rk0, Rk1, Rk2⟩ := oR.frozen3
    try simp only []
    try go_at_K
    repeat (first | go_values | go_skip | go_guarded | go_step | go_upon)
    refine bodyPost_ret (v := .tuple #[.agg #[.slice none 0 0, .bool false, .slice none 0 0], .int .i64 0]) (by simp [results, Tryz.results23, go_sem, Rc0, Rc1, Rc2]) rfl ?_
    obtain ⟨K1, B1, _⟩ := resT (by decide) (by decide) oR hbw lwR none 0 0 false none 0 0
    exact ⟨_, _, rfl, Or.inl ⟨HZ.out, rfl, (TP.zero _).val⟩, B1⟩
  · have hs : (z.sign == 0) = false := by rw [beq_eq_false_iff_ne]; exact fun h => hz0 (Int.sign_eq_zero_iff_zero.1 h)
    have HZ : Hid (z ≠ 0) := hz0
    clear hz0
    by_cases hr : (r * z).natAbs < lim
    · have E0 : ec (r * z) = 0 := if_pos hr
      have HR : Hid ((r * z).natAbs < lim) := hr
      clear hr
      obtain ⟨Xc0, Xc1, Xc2⟩ := oX.three
      obtain ⟨Xk0, Xk1, Xk2⟩ := oX.frozen3
      obtain ⟨Bc0, Bc1, Bk0, Bk1⟩ := oB.two
      go_wp2_with fail
      refine (mul_h _ _ r z _ hX.rest hB).mono ?_
      rintro e w2 ⟨xS, aS, nS, cS, rfl, hS, hb⟩
      clear Xc0 Xc1 Xc2 Xk0 Xk1 Xk2
      clear Bc0 Bc1 Bk0 Bk1
      replace oX := oX.stay hb
      replace ltX := oX.lt
      replace oB := oB.stay hb
      replace ltB := oB.lt
      replace oR := oR.stay hb
      replace ltR := oR.lt
      replace hX := hX.below hb
      replace hB := hB.below hb
      replace hbw := hbw.step hb (Nat.le_refl _)
      clear hb
      rw [hz_of HR.out] at hS
      have hn := below_new w2 (.cells #[.bool xS, .slice aS nS cS] 31 (0, 0))
      have oS := Blk.new w2 31 #[.bool xS, .slice aS nS cS]
      have neXS : w.heap.size ≠ w2.heap.size := by have := ltX; (try simp at this); omega
      have neBS : w.heap.size + 1 ≠ w2.heap.size := by have := ltB; (try simp at this); omega
      have neRS : w.heap.size + 1 + 1 ≠ w2.heap.size := by have := ltR; (try simp at this); omega
      have lwS : w.heap.size ≤ w2.heap.size := by have := hbw.size; (try simp at this); omega
      replace oX := oX.stay hn
      replace ltX := oX.lt
      replace oB := oB.stay hn
      replace ltB := oB.lt
      replace oR := oR.stay hn
      replace ltR := oR.lt
      replace hX := hX.below hn
      replace hB := hB.below hn
      replace hS := hS.below hn
      replace hbw := hbw.step hn (Nat.le_refl _)
      clear hn
      have ltS := oS.lt
      obtain ⟨Xc0, Xc1, Xc2⟩ := oX.three
      obtain ⟨Xk0, Xk1, Xk2⟩ := oX.frozen3
      go_wp2_with (at_make; refine wpList_make_g _ rfl _ _ 28 rfl 3 116 (.agg #[.int .i64 0, .bool false, .slice none 0 0]) 40 Tryz.und_parts Tryz.info_part rfl (by decide) (nuP _ _ _ _ _) _ _ _ _ qX qX rfl rfl rfl rfl (by decide) (Nat.le_refl _) (by omega) ?_; intro w3 xs0 hL0 hB0 hS0; have oX1 := oX.stay hB0; have oB1 := oB.stay hB0; have oR1 := oR.stay hB0; have oS1 := oS.stay hB0; have hS1 := hS.below hB0; have hB1 := hB.below hB0; obtain ⟨Y0, Y1, Y2⟩ := oX1.three; have hbw1 := hbw.step hB0 (Nat.le_refl _))
      have hL1 : LstG 3 116 w.heap.size w3 (.slice (some ⟨w2.heap.size + 1, 0, none⟩) qX qX) qX xs0 := by have h := hL0.mono (base' := w.heap.size) hbw.size; simpa using h
      clear hL0
      go_loopw [35] (fun i wl => ∃ (k : Nat) (xs : List Value), k ≤ qX ∧ i = .int .i64 k ∧ Blk 33 wl (w.heap.size) #[.slice pX qX rX, .bool xX, .slice aX nX cX] ∧ Blk 31 wl (w.heap.size + 1) #[.bool xB, .slice aB nB cB] ∧ Blk 33 wl (w.heap.size + 1 + 1) #[.slice none 0 0, .bool false, .slice none 0 0] ∧ Blk 31 wl (w2.heap.size) #[.bool xS, .slice aS nS cS] ∧ AInt wl (.agg #[.bool xS, .slice aS nS cS]) (r * z) ∧ AInt wl (.agg #[.bool xB, .slice aB nB cB]) z ∧ LstG 3 116 w.heap.size wl (.slice (some ⟨w2.heap.size + 1, 0, none⟩) qX qX) qX xs ∧ ElsP wl (xs.take (k * 3)) (mulP (a.take k) z) ∧ Hid (∀ p ∈ a.take k, (p.2 * z).natAbs < lim) ∧ Below w.heap.size w wl) (fun i _ => qX - (intOf i).toNat)
      case atStart => exact ⟨0, xs0, Nat.zero_le _, rfl, oX1, oB1, oR1, oS1, hS1, hB1, hL1, by simpa [mulP] using ElsP.nil _, (fun p hp => by simp at hp), hbw1⟩
      case round =>
        rename World => wl
        clear oX oB oR oS hbw hS hB oX1 oB1 oR1 oS1 hS1 hB1 hL1 hbw1 hB0 hS0 ltX ltB ltR ltS Xc0 Xc1 Xc2 Xk0 Xk1 Xk2 Y0 Y1 Y2 hX
        obtain ⟨k, xs, hk, rfl, oX, oB, oR, oS, hS, hB, hL, hE, HFT, hbw⟩ := hrel
        have ltX := oX.lt
        have ltB := oB.lt
        have ltR := oR.lt
        have ltS := oS.lt
        by_cases h0 : k < qX
        · obtain ⟨gE, oE, sE, aE, mE, cE, had, k1, k2, k3, k4⟩ := HX.out.at k (by rw [HLN.out]; exact h0)
          subst had
          obtain ⟨pv, hpv⟩ : ∃ x, x = (a.getD k (0, 0)).1 := ⟨_, rfl⟩
          obtain ⟨pz, hpz⟩ : ∃ x, x = (a.getD k (0, 0)).2 := ⟨_, rfl⟩
          rw [← hpv] at k1
          rw [← hpz] at k4
          have HPV : Hid (a.getD k (0, 0) = (pv, pz)) := by show _ = _; rw [hpv, hpz]
          clear hpv hpz
          have A0 := (hbw.cell (p := ⟨gE, oE + k * 3, none⟩) (World.block_lt_of_cell? w _ k1)).trans k1
          have A1 := (hbw.cell (p := ⟨gE, oE + k * 3 + 1, none⟩) (World.block_lt_of_cell? w _ k2)).trans k2
          have A2 := (hbw.cell (p := ⟨gE, oE + k * 3 + 2, none⟩) (World.block_lt_of_cell? w _ k3)).trans k3
          have hE0 := k4.below hbw
          clear k1 k2 k3 k4
          have ltL := (hL.lt _ rfl).2
          have hn := below_new wl (.cells #[.int .i64 (pv : Nat), .bool sE, .slice aE mE cE] 116 (0, 0))
          have oP := Blk.new wl 116 #[.int .i64 (pv : Nat), .bool sE, .slice aE mE cE]
          obtain ⟨Xc0, Xc1, Xc2⟩ := oX.three
          obtain ⟨Xk0, Xk1, Xk2⟩ := oX.frozen3
          obtain ⟨Bc0, Bc1, Bk0, Bk1⟩ := oB.two
          go_wp2_with fail
          refine (mul_h _ _ pz z _ (hE0.below hn) (hB.below hn)).mono ?_
          rintro e w5 ⟨xT, aT, nT, cT, rfl, hT, hb5⟩
          replace oP := oP.stay hb5
          have ltP := oP.lt
          obtain ⟨P0, P1, P2⟩ := oP.three
          have hb := hn.step hb5 (Nat.le_refl _)
          replace hE := hE.keep (KeepN.below hb)
          replace ltL := Nat.lt_of_lt_of_le ltL hb.size
          clear A0 A1 A2 hn hb5
          clear Xc0 Xc1 Xc2 Xk0 Xk1 Xk2
          clear Bc0 Bc1 Bk0 Bk1
          replace oX := oX.stay hb
          replace ltX := oX.lt
          replace oB := oB.stay hb
          replace ltB := oB.lt
          replace oR := oR.stay hb
          replace ltR := oR.lt
          replace oS := oS.stay hb
          replace ltS := oS.lt
          replace hS := hS.below hb
          replace hB := hB.below hb
          replace hL := hL.below hb
          replace hE0 := hE0.below hb
          replace hbw := hbw.step hb (Nat.le_refl _)
          clear hb
          have HXL : Hid (xs.length = qX * 3) := hL.1
          by_cases hbig : (pz * z).natAbs < lim
          · have E1 : ec (pz * z) = 0 := if_pos hbig
            rw [hz_of hbig] at hT
            have HBG : Hid ((pz * z).natAbs < lim) := hbig
            clear hbig
            obtain ⟨z0, c0, -⟩ := hL.cell (k * 3) (by omega)
            obtain ⟨z1, c1, -⟩ := hL.cell (k * 3 + 1) (by omega)
            obtain ⟨z2, c2, -⟩ := hL.cell (k * 3 + 2) (by omega)
            have q0 := hL.frozen (k * 3)
            have q1 := hL.frozen (k * 3 + 1)
            have q2 := hL.frozen (k * 3 + 2)
            have hKN := keepN_list hL (k * 3) [.int .i64 (pv : Nat), .bool xT, .slice aT nT cT] (nuP _ _ _ _ _)
            have HPU : Hid (LstG _ _ _ _ _ _ _) := hL.putA (k * 3) [.int .i64 (pv : Nat), .bool xT, .slice aT nT cT] (by simp; omega) (nuP _ _ _ _ _)
            have hE2 := (hE.keep hKN).step (p := pv) (by simp [mulP]; have := HLN.out; omega) (by rw [HXL.out]; omega) (hT.keepN hKN)
            obtain ⟨-, -, -, hgb⟩ := hL.blkG
            have hbw2 := below_stores hgb [.int .i64 (pv : Nat), .bool xT, .slice aT nT cT] (k * 3) hbw
            have hn := below_new (stores w5 (w2.heap.size + 1) (k * 3) [.int .i64 (pv : Nat), .bool xT, .slice aT nT cT]) (.cells #[.bool xT, .slice aT nT cT] 31 (0, 0))
            replace oX := (oX.otherS (show w2.heap.size + 1 ≠ w.heap.size by have := neXS; omega) (k * 3) [.int .i64 (pv : Nat), .bool xT, .slice aT nT cT]).stay hn
            replace oB := (oB.otherS (show w2.heap.size + 1 ≠ w.heap.size + 1 by have := neBS; omega) (k * 3) [.int .i64 (pv : Nat), .bool xT, .slice aT nT cT]).stay hn
            replace oR := (oR.otherS (show w2.heap.size + 1 ≠ w.heap.size + 1 + 1 by have := neRS; omega) (k * 3) [.int .i64 (pv : Nat), .bool xT, .slice aT nT cT]).stay hn
            replace oS := (oS.otherS (show w2.heap.size + 1 ≠ w2.heap.size by omega) (k * 3) [.int .i64 (pv : Nat), .bool xT, .slice aT nT cT]).stay hn
            replace hS := (hS.keepN hKN).below hn
            replace hB := (hB.keepN hKN).below hn
            have HP2 := HPU.out.below hn
            replace hE2 := hE2.keep (KeepN.below hn)
            replace hbw2 := hbw2.step hn (Nat.le_refl _)
            clear hn hKN hE
            have H9 : Hid (mulP (a.take (k + 1)) z = mulP (a.take k) z ++ [(pv, pz * z)] ∧ ∀ p ∈ a.take (k + 1), (p.2 * z).natAbs < lim) := by
              constructor
              · unfold mulP
                rw [ptake_step a k _ (by rw [HLN.out]; exact h0), HPV.out]
              · intro p hp
                rw [List.take_succ_eq_append_getElem (by rw [HLN.out]; exact h0), List.mem_append] at hp
                rcases hp with hp | hp
                · exact HFT.out p hp
                · have e9 := HPV.out
                  rw [List.getD_eq_getElem?_getD, List.getElem?_eq_getElem (by rw [HLN.out]; exact h0)] at e9
                  simp at hp e9
                  rw [hp, e9]; exact HBG.out
            go_wp2
            go_roundw
            case rel =>
              refine ⟨k + 1, _, by omega, by go_num, oX, oB, oR, oS, hS, hB, HP2, ?_, H9.out.2, hbw2⟩
              rw [H9.out.1]; exact hE2
            case measure => simp [intOf]; omega
          · have E1 : ec (pz * z) = 11 := if_neg hbig
            have HBG : Hid (¬ (pz * z).natAbs < lim) := hbig
            clear hbig
            have HNO : Hid (¬ tMulOk a r z) := fun h => HBG.out (by
              have e9 := HPV.out
              rw [List.getD_eq_getElem?_getD, List.getElem?_eq_getElem (by rw [HLN.out]; exact h0)] at e9
              simp at e9
              have := h.2 _ (List.getElem_mem (by rw [HLN.out]; exact h0))
              rw [e9] at this; exact this)
            obtain ⟨Rc0, Rc1, Rc2⟩ := oR.three
            obtain ⟨Rk0, Rk1, Rk2⟩ := oR.frozen3
            try simp only []
            try go_at_K
            repeat (first | go_values | go_skip | go_guarded | go_step | go_upon)
            refine bodyPost_ret (v := .tuple #[.agg #[.slice none 0 0, .bool false, .slice none 0 0], .int .i64 11]) (by simp [results, Tryz.results23, go_sem, Rc0, Rc1, Rc2, E1, ltR]) rfl ?_
            obtain ⟨K1, B1, _⟩ := resT (by decide) (by decide) oR hbw lwR none 0 0 false none 0 0
            exact ⟨_, _, rfl, Or.inr (Or.inr ⟨HZ.out, HNO.out, rfl, (TP.zero _).val⟩), B1.step (below_new _ _) (Nat.le_refl _)⟩
        · have hkq : k = qX := by omega
          subst hkq
          have hPA := hL.parr (ps := mulP a z) (by have h := hE; rw [List.take_of_length_le (by rw [hL.1]; exact Nat.le_refl _), List.take_of_length_le (by rw [HLN.out]; exact Nat.le_refl _)] at h; exact h) (by simp [mulP, HLN.out])
          have HOK : Hid (∀ p ∈ a, (p.2 * z).natAbs < lim) := by
            have h := HFT.out
            rw [List.take_of_length_le (by rw [HLN.out]; exact Nat.le_refl _)] at h
            exact h
          clear hE hk h0 HFT
          obtain ⟨ao9, cap9, hv9, q1, q2, q3, q4⟩ := hPA
          cases hv9
          clear hL
          obtain ⟨Rc0, Rc1, Rc2⟩ := oR.three
          obtain ⟨Rk0, Rk1, Rk2⟩ := oR.frozen3
          obtain ⟨Sc0, Sc1, Sk0, Sk1⟩ := oS.two
          try simp only []
          try go_at_K
          repeat (first | go_values | go_skip | go_guarded | go_step | go_upon)
          refine bodyPost_ret (v := .tuple #[.agg #[.slice (some ⟨w2.heap.size + 1, 0, none⟩) k k, .bool xS, .slice aS nS cS], .int .i64 0]) (by simp [results, Tryz.results23, go_sem, Rc0, Rc1, Rc2]) rfl ?_
          obtain ⟨K1, B1, _⟩ := resT (by decide) (by decide) oR hbw lwR (some ⟨w2.heap.size + 1, 0, none⟩) k k xS aS nS cS
          exact ⟨_, _, rfl, Or.inr (Or.inl ⟨HZ.out, ⟨HR.out, HOK.out⟩, rfl, ⟨_, _, _, _, _, _, _, rfl, ⟨by simp [mulP, HLN.out], q1, q2, q3, q4.keepP K1, hS.keepP K1, mulP_fine HFN.out HZ.out HOK.out⟩⟩⟩), B1⟩
    · have E0 : ec (r * z) = 11 := if_neg hr
      have HR : Hid (¬ (r * z).natAbs < lim) := hr
      clear hr
      obtain ⟨Xc0, Xc1, Xc2⟩ := oX.three
      obtain ⟨Xk0, Xk1, Xk2⟩ := oX.frozen3
      obtain ⟨Bc0, Bc1, Bk0, Bk1⟩ := oB.two
      go_wp2_with fail
      refine (mul_h _ _ r z _ hX.rest hB).mono ?_
      rintro e w2 ⟨xS, aS, nS, cS, rfl, hS, hb⟩
      clear Xc0 Xc1 Xc2 Xk0 Xk1 Xk2
      clear Bc0 Bc1 Bk0 Bk1
      replace oX := oX.stay hb
      replace ltX := oX.lt
      replace oB := oB.stay hb
      replace ltB := oB.lt
      replace oR := oR.stay hb
      replace ltR := oR.lt
      replace hX := hX.below hb
      replace hB := hB.below hb
      replace hbw := hbw.step hb (Nat.le_refl _)
      clear hb
      obtain ⟨Rc0, Rc1, Rc2⟩ := oR.three
      obtain ⟨Rk0, Rk1, Rk2⟩ := oR.frozen3
      try simp only []
      try go_at_K
      repeat (first | go_values | go_skip | go_guarded | go_step | go_upon)
      refine bodyPost_ret (v := .tuple #[.agg #[.slice none 0 0, .bool false, .slice none 0 0], .int .i64 11]) (by simp [results, Tryz.results23, go_sem, Rc0, Rc1, Rc2, E0, ltR]) rfl ?_
      obtain ⟨K1, B1, _⟩ := resT (by decide) (by decide) oR hbw lwR none 0 0 false none 0 0
      exact ⟨_, _, rfl, Or.inr (Or.inr ⟨HZ.out, fun h => HR.out h.1, rfl, (TP.zero _).val⟩), B1.step (below_new _ _) (Nat.le_refl _)⟩

end Go.Proofs.YteefniagebcagaaGreatDoor
