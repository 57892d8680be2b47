/- The walk of suretylaw03.LinearValues; they prove no statement of the seat. -/
import Derived.Test.YteefniagebcagaaGreatDoorRefXJValues
import Derived.Test.YteefniagebcagaaGreatDoorRefTJValues
namespace Go.Proofs.YteefniagebcagaaGreatDoor
open Go.RowKit
set_option linter.unusedVariables false

set_option maxRecDepth 20000 in
set_option maxHeartbeats 16000000 in
theorem linearValues_any (aX : Option Addr) (nX cX : Nat) (ms : List (Int × ByteArray)) (vo : Option Addr) (vn vc : Nat) (ss : List ByteArray) (w : World) (ht : Tab w) (hm : MArr w aX ms) (hl : ms.length = nX) (hx : nX ≤ maxLen) (hs : SArr w vo ss) (hsn : ss.length = vn) (hvn : vn ≤ maxLen) :
    Calls Tryz.prog 5 #[.slice aX nX cX, .slice vo vn vc] w fun e w' => e = .returned (.bool true) ∧ Below w.heap.size w w' := by
  have HTB : Hid (Tab w) := ht
  have HM : Hid (MArr w aX ms) := hm
  have HLN : Hid (ms.length = nX) := hl
  have HXN : Hid (nX ≤ maxLen) := hx
  have HSA : Hid (SArr w vo ss) := hs
  have HSN : Hid (ss.length = vn) := hsn
  have HVN : Hid (vn ≤ maxLen) := hvn
  clear ht hm hl hs hsn hvn hx
  have hbw := Below.refl w.heap.size w
  go_enter Tryz.func5, Tryz.ntmps5
  go_wp2_with fail
  refine (awake3_any _ (HTB.out.below hbw)).mono ?_
  rintro e w1 ⟨rfl, hb⟩
  replace hbw := hbw.step hb (Nat.le_refl _)
  clear hb
  go_wp2_with fail
  refine (few_any aX nX cX ms _ (HM.out.below hbw) HLN.out HXN.out).mono ?_
  rintro e w2 ⟨a0, n0, c0, rfl, hn0, hm0, hb⟩
  replace hbw := hbw.step hb (Nat.le_refl _)
  clear hb
  have HN0 : Hid ((fewM ms).length = n0) := hn0
  have HN1 : Hid (n0 ≤ maxLen) := by show _ ≤ _; rw [← hn0]; have := fewM_len ms; unfold maxLen; omega
  clear hn0
  go_wp2_with fail
  refine (term_any a0 n0 c0 (fewM ms) _ hm0 HN0.out HN1.out (fewM_size ms)).mono ?_
  rintro e w3 ⟨_, ps, r, ok, rfl, ⟨pA, qA, rA, xA, aA, nA, cA, rfl, hA⟩, HT, hb⟩
  replace hm0 := hm0.below hb
  replace hbw := hbw.step hb (Nat.le_refl _)
  clear hb
  have hn := below_new w3 (.cells #[.slice pA qA rA, .bool xA, .slice aA nA cA] 33 (0, 0))
  have oA := Blk.new w3 33 #[.slice pA qA rA, .bool xA, .slice aA nA cA]
  have lwA : w.heap.size ≤ w3.heap.size := by have := hbw.size; (try simp at this); omega
  replace hm0 := hm0.below hn
  replace hA := hA.below hn
  replace hbw := hbw.step hn (Nat.le_refl _)
  clear hn
  have ltA := oA.lt
  go_wp2_with fail
  refine (rsum_any a0 n0 c0 (fewM ms) _ hm0 HN0.out HN1.out (fewM_size ms)).mono ?_
  rintro e w4 ⟨_, co, qs, t, rfl, ⟨pB, qB, rB, xB, aB, nB, cB, rfl, hB⟩, HT2, hb⟩
  replace oA := oA.stay hb
  replace ltA := oA.lt
  replace hm0 := hm0.below hb
  replace hA := hA.below hb
  replace hbw := hbw.step hb (Nat.le_refl _)
  clear hb
  have hn := below_new w4 (.cells #[.slice pB qB rB, .bool xB, .slice aB nB cB] 41 (0, 0))
  have oB := Blk.new w4 41 #[.slice pB qB rB, .bool xB, .slice aB nB cB]
  have neAB : w3.heap.size ≠ w4.heap.size := by have := ltA; (try simp at this); omega
  have lwB : w.heap.size ≤ w4.heap.size := by have := hbw.size; (try simp at this); omega
  replace oA := oA.stay hn
  replace ltA := oA.lt
  replace hm0 := hm0.below hn
  replace hA := hA.below hn
  replace hB := hB.below hn
  replace hbw := hbw.step hn (Nat.le_refl _)
  clear hn
  have ltB := oB.lt
  clear hm0
  cases ok
  · go_wp2
    go_ret
    exact ⟨rfl, hbw⟩
  · obtain ⟨rfl, rfl, rfl⟩ := term_sum HT.out HT2.out
    clear HT HT2
    go_wp2_with fail
    refine (values_any vo vn vc ss _ (HSA.out.below hbw) HSN.out HVN.out).mono ?_
    rintro e w5 ⟨a1, c1, a2, c2, k9, rfl, hk9, hA1, hA2, hb⟩
    replace oA := oA.stay hb
    replace ltA := oA.lt
    replace oB := oB.stay hb
    replace ltB := oB.lt
    replace hA := hA.below hb
    replace hB := hB.below hb
    replace hbw := hbw.step hb (Nat.le_refl _)
    clear hb
    have HK9 : Hid ((valZ ss).length = k9) := hk9
    have HK8 : Hid (k9 ≤ 1000) := by show _ ≤ _; rw [← hk9]; exact Nat.le_trans (valZ_len ss) (by decide)
    clear hk9
    generalize valZ ss = zs at hA1 hA2 HK9
    obtain ⟨Ac0, Ac1, Ac2⟩ := oA.three
    obtain ⟨Ak0, Ak1, Ak2⟩ := oA.frozen3
    go_wp2_with fail
    refine (lat_any _ qs t a1 k9 c1 zs _ hA.val HK9.out hA1 HK8.out).mono ?_
    rintro e w6 ⟨xN, aN, nN, cN, rfl, hN, hb⟩
    clear Ac0 Ac1 Ac2 Ak0 Ak1 Ak2
    replace oA := oA.stay hb
    replace ltA := oA.lt
    replace oB := oB.stay hb
    replace ltB := oB.lt
    replace hA := hA.below hb
    replace hB := hB.below hb
    replace hA1 := hA1.below hb
    replace hA2 := hA2.below hb
    replace hbw := hbw.step hb (Nat.le_refl _)
    clear hb
    have hn := below_new w6 (.cells #[.bool xN, .slice aN nN cN] 31 (0, 0))
    have oN := Blk.new w6 31 #[.bool xN, .slice aN nN cN]
    have neAN : w3.heap.size ≠ w6.heap.size := by have := ltA; (try simp at this); omega
    have neBN : w4.heap.size ≠ w6.heap.size := by have := ltB; (try simp at this); omega
    have lwN : w.heap.size ≤ w6.heap.size := by have := hbw.size; (try simp at this); omega
    replace oA := oA.stay hn
    replace ltA := oA.lt
    replace oB := oB.stay hn
    replace ltB := oB.lt
    replace hA := hA.below hn
    replace hB := hB.below hn
    replace hA1 := hA1.below hn
    replace hA2 := hA2.below hn
    replace hN := hN.below hn
    replace hbw := hbw.step hn (Nat.le_refl _)
    clear hn
    have ltN := oN.lt
    obtain ⟨Bc0, Bc1, Bc2⟩ := oB.three
    obtain ⟨Bk0, Bk1, Bk2⟩ := oB.frozen3
    go_wp2_with fail
    refine (rat_any _ qs t a2 k9 c2 zs _ hB.val HK9.out hA2 HK8.out).mono ?_
    rintro e w7 ⟨xM, aM, nM, cM, rfl, hM, hb⟩
    clear Bc0 Bc1 Bc2 Bk0 Bk1 Bk2
    replace oA := oA.stay hb
    replace ltA := oA.lt
    replace oB := oB.stay hb
    replace ltB := oB.lt
    replace oN := oN.stay hb
    replace ltN := oN.lt
    replace hA := hA.below hb
    replace hB := hB.below hb
    replace hA1 := hA1.below hb
    replace hA2 := hA2.below hb
    replace hN := hN.below hb
    replace hbw := hbw.step hb (Nat.le_refl _)
    clear hb
    have hn := below_new w7 (.cells #[.bool xM, .slice aM nM cM] 39 (0, 0))
    have oM := Blk.new w7 39 #[.bool xM, .slice aM nM cM]
    have neAM : w3.heap.size ≠ w7.heap.size := by have := ltA; (try simp at this); omega
    have neBM : w4.heap.size ≠ w7.heap.size := by have := ltB; (try simp at this); omega
    have neNM : w6.heap.size ≠ w7.heap.size := by have := ltN; (try simp at this); omega
    have lwM : w.heap.size ≤ w7.heap.size := by have := hbw.size; (try simp at this); omega
    replace oA := oA.stay hn
    replace ltA := oA.lt
    replace oB := oB.stay hn
    replace ltB := oB.lt
    replace oN := oN.stay hn
    replace ltN := oN.lt
    replace hA := hA.below hn
    replace hB := hB.below hn
    replace hA1 := hA1.below hn
    replace hA2 := hA2.below hn
    replace hN := hN.below hn
    replace hM := hM.below hn
    replace hbw := hbw.step hn (Nat.le_refl _)
    clear hn
    have ltM := oM.lt
    generalize atE qs t zs = d
    generalize atZ qs t zs = z at hN hM
    clear hA hB hA1 hA2
    go_wp2
    generalize (w7.alloc (.cells #[.bool xM, .slice aM nM cM] 39 (0, 0))) = W7 at hbw oA oB oN oM ltA ltB ltN ltM hN hM ⊢
    clear ltA oA
    clear ltB oB
    have hbW := hbw
    refine wp_region_M (by kernel_rfl) [4, 48, 49, 50, 51, 52, 53, 54, 55, 56, 57] [none, none, none, none, some 4, none, none, none, none, none, none, none, none, none, none, none, none, none, none, none, none, none, none, none, none, none, none, none, none, none, none, none, none, none, none, none, none, none, none, none, none, none, none, none, none, none, none, none, some 48, some 49, some 50, some 51, some 52, some 53, some 54, some 55, some 56, some 57] (fun U => by kernel_rfl) (fun L U wr => Below w.heap.size w wr ∧ KeepB W7 wr ∧ W7.heap.size ≤ wr.heap.size ∧ Blk 31 wr (w6.heap.size) #[.bool xN, .slice aN nN cN] ∧ Blk 39 wr (w7.heap.size) #[.bool xM, .slice aM nM cM] ∧ (L 0 = true → IS (.int .i64 d) (U 48) wr) ∧ (L 1 = true → IS (.int .i64 d) (U 49) wr) ∧ (L 2 = true → IS (.bool true) (U 50) wr) ∧ (L 3 = true → IS (.bool true) (U 51) wr) ∧ (L 4 = true → IS (.agg #[.bool xN, .slice aN nN cN]) (U 52) wr) ∧ (L 5 = true → IS (.string (nT z)) (U 53) wr) ∧ (L 6 = true → IS (.agg #[.bool xM, .slice aM nM cM]) (U 54) wr) ∧ (L 7 = true → IS (.string (nT z)) (U 55) wr) ∧ (L 8 = true → IS (.bool true) (U 56) wr) ∧ (L 9 = true → IS (.bool true) (U 57) wr) ∧ (L 10 = true → IS (.bool true) (U 4) wr)) (by kernel_rfl) ?_ ?_ ?_
    · exact fun U => ⟨hbw.drew, KeepB.below (Below.refl _ _).drew, Nat.le_refl _, oN.drew, oM.drew, (fun h => by cases h), (fun h => by cases h), (fun h => by cases h), (fun h => by cases h), (fun h => by cases h), (fun h => by cases h), (fun h => by cases h), (fun h => by cases h), (fun h => by cases h), (fun h => by cases h), (fun h => by cases h)⟩
    · refine StepsU.run rfl ?_ ?_
      · intro L U wr hF hlk haf A K hA hK
        have HA : Hid (A = putAll _ _ U) := hA
        clear hA
        simp [Aft, Region.binds] at haf
        obtain ⟨fb, fk, fs, oN, oM, f0, f1, f2, f3, f4, f5, f6, f7, f8, f9, f10⟩ := hF
        have e12 : A.tmps[12]? = some (.int .i64 d) := by rw [HA.out]; kernel_rfl
        refine ⟨?_⟩
        go_simp
        refine hK (upd U 48 (.int .i64 d)) _ _ ?_ ?_
        · rw [HA.out]; kernel_rfl
        · exact ⟨fb, fk, fs, oN, oM, (fun _ => rfl), f1, f2, f3, f4, f5, f6, f7, f8, f9, f10⟩
      refine StepsU.run rfl ?_ ?_
      · intro L U wr hF hlk haf A K hA hK
        have HA : Hid (A = putAll _ _ U) := hA
        clear hA
        simp [Aft, Region.binds] at haf
        obtain ⟨fb, fk, fs, oN, oM, f0, f1, f2, f3, f4, f5, f6, f7, f8, f9, f10⟩ := hF
        have e14 : A.tmps[14]? = some (.int .i64 d) := by rw [HA.out]; kernel_rfl
        refine ⟨?_⟩
        go_simp
        refine hK (upd U 49 (.int .i64 d)) _ _ ?_ ?_
        · rw [HA.out]; kernel_rfl
        · exact ⟨fb, fk, fs, oN, oM, f0, (fun _ => rfl), f2, f3, f4, f5, f6, f7, f8, f9, f10⟩
      refine StepsU.run rfl ?_ ?_
      · intro L U wr hF hlk haf A K hA hK
        have HA : Hid (A = putAll _ _ U) := hA
        clear hA
        simp [Aft, Region.binds] at haf
        obtain ⟨fb, fk, fs, oN, oM, f0, f1, f2, f3, f4, f5, f6, f7, f8, f9, f10⟩ := hF
        have g0 := f0 (by simp [haf])
        have g1 := f1 (by simp [haf])
        have e48 := rd HA.out 48 (by kernel_rfl) g0
        have e49 := rd HA.out 49 (by kernel_rfl) g1
        refine ⟨?_⟩
        go_simp
        refine hK (upd U 50 (.bool true)) _ _ ?_ ?_
        · rw [HA.out]; kernel_rfl
        · exact ⟨fb, fk, fs, oN, oM, f0, f1, (fun _ => rfl), f3, f4, f5, f6, f7, f8, f9, f10⟩
      refine StepsU.run rfl ?_ ?_
      · intro L U wr hF hlk haf A K hA hK
        have HA : Hid (A = putAll _ _ U) := hA
        clear hA
        simp [Aft, Region.binds] at haf
        obtain ⟨fb, fk, fs, oN, oM, f0, f1, f2, f3, f4, f5, f6, f7, f8, f9, f10⟩ := hF
        have g2 := f2 (by simp [haf])
        have e50 := rd HA.out 50 (by kernel_rfl) rfl
        refine ⟨?_⟩
        go_simp
        refine hK (upd U 51 (U 50)) _ _ ?_ ?_
        · rw [HA.out]; kernel_rfl
        · exact ⟨fb, fk, fs, oN, oM, f0, f1, f2, (fun _ => g2), f4, f5, f6, f7, f8, f9, f10⟩
      refine StepsU.cond ?_ ?_
      · intro L U wr hF hlk haf A K hA hK
        have HA : Hid (A = putAll _ _ U) := hA
        clear hA
        simp [Aft, Region.binds] at haf
        obtain ⟨fb, fk, fs, oN, oM, f0, f1, f2, f3, f4, f5, f6, f7, f8, f9, f10⟩ := hF
        have gg := f3 (by simp [haf])
        have ee := rd HA.out 51 (by kernel_rfl) gg
        refine ⟨?_⟩
        rw [if_pos (by simp [Region.wanted, yielded, ee])]
        refine Gate.out ?_
        clear gg ee
        have e11 : A.tmps[11]? = some (.pointer (some ⟨w6.heap.size, 0, none⟩)) := by rw [HA.out]; kernel_rfl
        have c0 := oN.cell 0
        have c1 := oN.cell 1
        simp at c0
        simp at c1
        refine ⟨?_⟩
        go_simp
        refine hK (upd U 52 (.agg #[.bool xN, .slice aN nN cN])) _ _ ?_ ?_
        · rw [HA.out]; kernel_rfl
        · exact ⟨fb, fk, fs, oN, oM, f0, f1, f2, f3, (fun _ => rfl), f5, f6, f7, f8, f9, f10⟩
      refine StepsU.cond ?_ ?_
      · intro L U wr hF hlk haf A K hA hK
        have HA : Hid (A = putAll _ _ U) := hA
        clear hA
        simp [Aft, Region.binds] at haf
        obtain ⟨fb, fk, fs, oN, oM, f0, f1, f2, f3, f4, f5, f6, f7, f8, f9, f10⟩ := hF
        have gg := f3 (by simp [haf])
        have ee := rd HA.out 51 (by kernel_rfl) gg
        refine ⟨?_⟩
        rw [if_pos (by simp [Region.wanted, yielded, ee])]
        refine Gate.out ?_
        clear gg ee
        have g4 := f4 (by simp [haf])
        have e52 := rd HA.out 52 (by kernel_rfl) g4
        refine ⟨?_⟩
        go_simp
        refine (text_h _ z _ (hN.below fk.b)).mono ?_
        rintro e w1 ⟨rfl, hb⟩
        go_simp
        refine hK (upd U 53 (.string (nT z))) _ _ ?_ ?_
        · rw [HA.out]; kernel_rfl
        · exact ⟨(fb.step hb (Nat.le_refl _)), (fk.trans (KeepB.below hb)), (Nat.le_trans fs hb.size), (oN.stay hb), (oM.stay hb), (mvB mb_is (KeepB.below hb) f0), (mvB mb_is (KeepB.below hb) f1), (mvB mb_is (KeepB.below hb) f2), (mvB mb_is (KeepB.below hb) f3), (mvB mb_is (KeepB.below hb) f4), (fun _ => rfl), (mvB mb_is (KeepB.below hb) f6), (mvB mb_is (KeepB.below hb) f7), (mvB mb_is (KeepB.below hb) f8), (mvB mb_is (KeepB.below hb) f9), (mvB mb_is (KeepB.below hb) f10)⟩
      refine StepsU.cond ?_ ?_
      · intro L U wr hF hlk haf A K hA hK
        have HA : Hid (A = putAll _ _ U) := hA
        clear hA
        simp [Aft, Region.binds] at haf
        obtain ⟨fb, fk, fs, oN, oM, f0, f1, f2, f3, f4, f5, f6, f7, f8, f9, f10⟩ := hF
        have gg := f3 (by simp [haf])
        have ee := rd HA.out 51 (by kernel_rfl) gg
        refine ⟨?_⟩
        rw [if_pos (by simp [Region.wanted, yielded, ee])]
        refine Gate.out ?_
        clear gg ee
        have e13 : A.tmps[13]? = some (.pointer (some ⟨w7.heap.size, 0, none⟩)) := by rw [HA.out]; kernel_rfl
        have c0 := oM.cell 0
        have c1 := oM.cell 1
        simp at c0
        simp at c1
        refine ⟨?_⟩
        go_simp
        refine hK (upd U 54 (.agg #[.bool xM, .slice aM nM cM])) _ _ ?_ ?_
        · rw [HA.out]; kernel_rfl
        · exact ⟨fb, fk, fs, oN, oM, f0, f1, f2, f3, f4, f5, (fun _ => rfl), f7, f8, f9, f10⟩
      refine StepsU.cond ?_ ?_
      · intro L U wr hF hlk haf A K hA hK
        have HA : Hid (A = putAll _ _ U) := hA
        clear hA
        simp [Aft, Region.binds] at haf
        obtain ⟨fb, fk, fs, oN, oM, f0, f1, f2, f3, f4, f5, f6, f7, f8, f9, f10⟩ := hF
        have gg := f3 (by simp [haf])
        have ee := rd HA.out 51 (by kernel_rfl) gg
        refine ⟨?_⟩
        rw [if_pos (by simp [Region.wanted, yielded, ee])]
        refine Gate.out ?_
        clear gg ee
        have g6 := f6 (by simp [haf])
        have e54 := rd HA.out 54 (by kernel_rfl) g6
        refine ⟨?_⟩
        go_simp
        refine (rshow_h _ z 400 _ (hM.below fk.b) (by decide)).mono ?_
        rintro e w1 ⟨rfl, hb⟩
        go_simp
        refine hK (upd U 55 (.string (nT z))) _ _ ?_ ?_
        · rw [HA.out]; kernel_rfl
        · exact ⟨(fb.step hb (Nat.le_refl _)), (fk.trans (KeepB.below hb)), (Nat.le_trans fs hb.size), (oN.stay hb), (oM.stay hb), (mvB mb_is (KeepB.below hb) f0), (mvB mb_is (KeepB.below hb) f1), (mvB mb_is (KeepB.below hb) f2), (mvB mb_is (KeepB.below hb) f3), (mvB mb_is (KeepB.below hb) f4), (mvB mb_is (KeepB.below hb) f5), (mvB mb_is (KeepB.below hb) f6), (fun _ => rfl), (mvB mb_is (KeepB.below hb) f8), (mvB mb_is (KeepB.below hb) f9), (mvB mb_is (KeepB.below hb) f10)⟩
      refine StepsU.cond ?_ ?_
      · intro L U wr hF hlk haf A K hA hK
        have HA : Hid (A = putAll _ _ U) := hA
        clear hA
        simp [Aft, Region.binds] at haf
        obtain ⟨fb, fk, fs, oN, oM, f0, f1, f2, f3, f4, f5, f6, f7, f8, f9, f10⟩ := hF
        have gg := f3 (by simp [haf])
        have ee := rd HA.out 51 (by kernel_rfl) gg
        refine ⟨?_⟩
        rw [if_pos (by simp [Region.wanted, yielded, ee])]
        refine Gate.out ?_
        clear gg ee
        have g5 := f5 (by simp [haf])
        have g7 := f7 (by simp [haf])
        have e53 := rd HA.out 53 (by kernel_rfl) g5
        have e55 := rd HA.out 55 (by kernel_rfl) g7
        refine ⟨?_⟩
        go_simp
        refine hK (upd U 56 (.bool true)) _ _ ?_ ?_
        · rw [HA.out]; kernel_rfl
        · exact ⟨fb, fk, fs, oN, oM, f0, f1, f2, f3, f4, f5, f6, f7, (fun _ => rfl), f9, f10⟩
      refine StepsU.run rfl ?_ ?_
      · intro L U wr hF hlk haf A K hA hK
        have HA : Hid (A = putAll _ _ U) := hA
        clear hA
        simp [Aft, Region.binds] at haf
        obtain ⟨fb, fk, fs, oN, oM, f0, f1, f2, f3, f4, f5, f6, f7, f8, f9, f10⟩ := hF
        have g3 := f3 (by simp [haf])
        have g8 := f8 (by simp [haf])
        have e51 := rd HA.out 51 (by kernel_rfl) g3
        have e56 := rd HA.out 56 (by kernel_rfl) g8
        refine ⟨?_⟩
        go_simp
        refine hK (upd U 57 (.bool true)) _ _ ?_ ?_
        · rw [HA.out]; kernel_rfl
        · exact ⟨fb, fk, fs, oN, oM, f0, f1, f2, f3, f4, f5, f6, f7, f8, (fun _ => rfl), f10⟩
      refine StepsU.run rfl ?_ StepsU.nil
      · intro L U wr hF hlk haf A K hA hK
        have HA : Hid (A = putAll _ _ U) := hA
        clear hA
        simp [Aft, Region.binds] at haf
        obtain ⟨fb, fk, fs, oN, oM, f0, f1, f2, f3, f4, f5, f6, f7, f8, f9, f10⟩ := hF
        have g9 := f9 (by simp [haf])
        have e57 := rd HA.out 57 (by kernel_rfl) rfl
        refine ⟨?_⟩
        go_simp
        refine hK (upd U 4 (U 57)) _ _ ?_ ?_
        · rw [HA.out]; kernel_rfl
        · exact ⟨fb, fk, fs, oN, oM, f0, f1, f2, f3, f4, f5, f6, f7, f8, f9, (fun _ => g9)⟩
    clear hbw oN oM
    intro L U8 V8 hall hF
    obtain ⟨hbw, fk, fs, oN, oM, f0, f1, f2, f3, f4, f5, f6, f7, f8, f9, f10⟩ := hF
    have g0 := f0 (hall 0 (by decide))
    have g1 := f1 (hall 1 (by decide))
    have g2 := f2 (hall 2 (by decide))
    have g3 := f3 (hall 3 (by decide))
    have g4 := f4 (hall 4 (by decide))
    have g5 := f5 (hall 5 (by decide))
    have g6 := f6 (hall 6 (by decide))
    have g7 := f7 (hall 7 (by decide))
    have g8 := f8 (hall 8 (by decide))
    have g9 := f9 (hall 9 (by decide))
    have g10 := f10 (hall 10 (by decide))
    clear hall f0 f1 f2 f3 f4 f5 f6 f7 f8 f9 f10
    replace hN := hN.below fk.b
    replace hM := hM.below fk.b
    replace ltN := oN.lt
    replace ltM := oM.lt
    try clear g0
    try clear g1
    try clear g2
    try clear g3
    try clear g4
    try clear g5
    try clear g6
    try clear g7
    try clear g8
    try clear g9
    clear hbW
    simp only [setM_some, setM_none, setM_nil]
    clear fk fs
    have e4 : U8 4 = _ := g10
    try simp only []
    try go_at_K
    repeat (first | go_values | go_skip | go_guarded | go_step | go_upon)
    refine bodyPost_ret (v := .bool true) (by simp [results, Tryz.results5, go_sem, e4]) rfl ?_
    exact ⟨rfl, hbw⟩

end Go.Proofs.YteefniagebcagaaGreatDoor
