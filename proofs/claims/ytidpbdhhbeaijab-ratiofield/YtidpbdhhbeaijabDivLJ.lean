/- Contract of arith.divLimbs where the divisor has more than one limb (Knuth's algorithm D), and so of all; it proves no statement of the seat. -/
import Derived.Test.YtidpbdhhbeaijabDivHJ
import Derived.Test.YtidpbdhhbeaijabJoin5
namespace Go.Proofs.Ytidpbdhhbeaijab
open Go.RowKit

theorem knuth_init (B V r l : Nat) : r = V * (B ^ (l + 1) * val B ((List.replicate (l + 1) 0).drop (l + 1))) + r := by
  rw [List.drop_of_length_le (by simp), val_nil, Nat.mul_zero, Nat.mul_zero, Nat.zero_add]
theorem i64_pred (l : Nat) : Value.int .i64 (l : Int) = Value.int .i64 (((l + 1 : Nat) : Int) - 1) := by
  congr 1; omega
theorem len_zeros (l : Nat) : (List.replicate (l + 1) 0).length = l + 1 := List.length_replicate

theorem knuth_round {B V n j U q : Nat} {R Q win' : List Nat} (hR : j + n + 1 ≤ R.length) (hQ : j < Q.length) (hz : val B (R.drop (j + n + 1)) = 0) (hw : val B ((R.drop j).take (n + 1)) = val B (R.drop j))
    (hq : q = val B ((R.drop j).take (n + 1)) / V) (hv : val B win' = val B ((R.drop j).take (n + 1)) % V) (hV : 0 < V) (hU : U = V * (B ^ (j + 1) * val B (Q.drop (j + 1))) + val B R) :
    val B ((R.take j ++ (win' ++ R.drop (j + n + 1))).drop j) < V ∧ U = V * (B ^ j * val B ((Q.set j q).drop j)) + val B (R.take j ++ (win' ++ R.drop (j + n + 1))) := by
  have hl : (R.take j).length = j := by rw [List.length_take]; omega
  have e1 : (R.take j ++ (win' ++ R.drop (j + n + 1))).drop j = win' ++ R.drop (j + n + 1) := by
    rw [List.drop_append, List.drop_of_length_le (by omega), hl, Nat.sub_self]; rfl
  have e2 : val B (win' ++ R.drop (j + n + 1)) = val B win' := by rw [val_append, hz]; omega
  rw [e1, e2, val_append, hl, e2]
  refine ⟨by rw [hv]; exact Nat.mod_lt _ hV, ?_⟩
  have e3 := val_cut B R j (by omega)
  have e4 : val B ((Q.set j q).drop j) = q + B * val B (Q.drop (j + 1)) := by
    rw [val_drop_cons _ _ _ (by rw [List.length_set]; exact hQ), getD_set _ _ _ _ hQ, if_pos rfl, drop_set_succ]
  rw [e4]
  refine knuth_step U V _ (val B R) _ (B ^ j) (val B (R.drop j)) q _ B (by rw [← Nat.pow_succ]; exact hU) e3 ?_
  rw [hv, hq, hw]
  exact (Nat.div_add_mod _ _).symm
theorem knuth_last {B V U X Y S : Nat} {R Q : List Nat} (hS : 0 < S) (h : val B (R.drop 0) < V ∧ U = V * (B ^ 0 * val B (Q.drop 0)) + val B R) (hU : U = X * S) (hV : V = Y * S) : val B Q = X / Y ∧ val B R / S = X % Y := by
  rw [List.drop_zero, List.drop_zero, Nat.pow_zero, Nat.one_mul] at h
  exact knuth_end hS h.2 h.1 hU hV

set_option maxRecDepth 20000 in
set_option maxHeartbeats 8000000 in
theorem divLimbs_long (m l : Nat) (xs ys : List Nat) (hl : m + 2 + l ≤ 8000) (hxl : xs.length = m + 2 + l) (hyl : ys.length = m + 2) (hdx : Digs 4294967296 xs) (hdy : Digs 4294967296 ys) (nx : Norm xs) (ny : Norm ys) (hge : val 4294967296 ys ≤ val 4294967296 xs) : DivC xs ys := by
  intro ao bo cap cap' w hs ht
  have hc : ¬ cmpL 4294967296 xs ys < 0 := fun h => by have := (cmpL_neg (by decide) hdx hdy nx ny).1 h; omega
  have hone : (((m + 2 : Nat) : Int) == 1) = false := by rw [beq_eq_false_iff_ne]; omega
  obtain ⟨b, off, rfl, hcs⟩ := ht.open 0 (by omega)
  have hc0 := hcs (m + 1) (by omega)
  obtain ⟨y, hy⟩ : ∃ y, y = ys.getD (m + 1) 0 := ⟨_, rfl⟩
  rw [← hy] at hc0
  have hyb : y < 4294967296 := hy ▸ hdy.getD (by decide) _
  have hy0 : 0 < y := by
    have := ny.last (by omega)
    rw [hyl] at this
    rw [hy]; exact Nat.pos_of_ne_zero this
  have hbw : b < w.heap.size := World.block_lt_of_cell? w ⟨b, off + (m + 1), none⟩ hc0
  have HY : Hid (y = ys.getD (m + 1) 0) := hy
  have HXL : Hid (xs.length = m + 2 + l) := hxl
  have HYL : Hid (ys.length = m + 2) := hyl
  rw [hxl, hyl]
  clear hcs hy hge hxl hyl
  go_enter Try.func61, Try.ntmps61
  go_wp2_with fail
  refine (cmpLimbs_any ao _ (m + 2 + l) (m + 2) cap cap' xs ys _ HXL.out HYL.out (by omega) (by omega) hs ht hdx hdy).mono ?_
  rintro e w1 ⟨rfl, hb1⟩
  have hc1 := (hb1.cell (p := ⟨b, off + (m + 1), none⟩) hbw).trans hc0
  go_wp2_with fail
  refine (lead_any y _ hyb hy0).mono ?_
  rintro e w1' ⟨s, rfl, hs31, hs1, hs2, rfl⟩
  have HS : Hid (y * 2 ^ s < 4294967296 ∧ 2147483648 ≤ y * 2 ^ s) := ⟨hs1, hs2⟩
  clear hs1 hs2
  go_wp2_with fail
  refine (shiftedUp_any ao (m + 2 + l) cap s xs _ HXL.out (by omega) hs31 (hs.below hb1) hdx).mono ?_
  rintro e w2 ⟨rs0, rfl, hrl0, hrd0, hrv0, hrr0, hb2⟩
  have hb12 := hb1.step hb2 (Nat.le_refl _)
  have HR0 : Hid (rs0.length = m + 2 + l + 1 ∧ val 4294967296 rs0 = val 4294967296 xs * 2 ^ s) := ⟨hrl0, hrv0⟩
  clear hrl0 hrv0
  go_wp2_with fail
  refine (shiftedUp_any _ (m + 2) cap' s ys _ HYL.out (by omega) hs31 (ht.below hb12) hdy).mono ?_
  rintro e w3 ⟨bs, rfl, hbl, hbd, hbv, hbr, hb3⟩
  have hb13 := hb12.step hb3 (Nat.le_refl _)
  go_wp2_with fail
  refine (trimmed_any (some ⟨w2.heap.size, 0, none⟩) (m + 2 + 1) (m + 2 + 1) bs _ hbl (Nat.le_refl _) (by unfold maxLen; omega) hbr.all).mono ?_
  rintro e w3' ⟨rfl, rfl⟩
  have HB0 : Hid (bs.length = m + 2 + 1 ∧ val 4294967296 bs = val 4294967296 ys * 2 ^ s) := ⟨hbl, hbv⟩
  have hvl : 4294967296 ^ (m + 1) * 2147483648 ≤ val 4294967296 bs ∧ val 4294967296 bs < 4294967296 ^ (m + 2) := by
    have e1 := val_take_succ 4294967296 ys (m + 1) (by have := HYL.out; omega)
    rw [List.take_of_length_le (by have := HYL.out; omega), ← HY.out] at e1
    have h2 := val_lt (hdy.take (m + 1))
    rw [List.length_take, Nat.min_eq_left (by have := HYL.out; omega)] at h2
    rw [hbv, e1]
    generalize val 4294967296 (ys.take (m + 1)) = A at h2
    rw [Nat.pow_succ 4294967296 (m + 1)]
    generalize 4294967296 ^ (m + 1) = P at h2
    have h3 := HS.out
    have hp : 0 < 2 ^ s := Nat.pow_pos (by decide)
    have e32 : 2 ^ s * 2 ^ (32 - s) = 4294967296 := by rw [← Nat.pow_add, show s + (32 - s) = 32 by omega]
    refine ⟨?_, ?_⟩
    · have h4 : P * 2147483648 ≤ P * (y * 2 ^ s) := Nat.mul_le_mul_left _ h3.2
      rw [Nat.add_mul, Nat.mul_assoc P y]
      omega
    · have h5 : y < 2 ^ (32 - s) := by
        have h6 : 2 ^ s * y < 2 ^ s * 2 ^ (32 - s) := by rw [e32, Nat.mul_comm]; exact h3.1
        exact Nat.lt_of_mul_lt_mul_left h6
      have h7 : A + P * y < P * 2 ^ (32 - s) := by
        have : P * (y + 1) ≤ P * 2 ^ (32 - s) := Nat.mul_le_mul_left _ h5
        rw [Nat.mul_add] at this
        omega
      have h8 := Nat.mul_lt_mul_of_pos_right h7 hp
      rw [Nat.mul_assoc, Nat.mul_comm (2 ^ (32 - s)), e32] at h8
      exact h8
  have hnl : (trimZ bs).length = m + 2 := by
    refine norm_length (B := 4294967296) (by decide) (norm_trimZ bs) hbd.trimZ (by omega) ?_ ?_
    · rw [val_trimZ, show m + 2 - 1 = m + 1 by omega]; omega
    · rw [val_trimZ]; exact hvl.2
  have HVL : Hid (4294967296 ^ (m + 1) * 2147483648 ≤ val 4294967296 bs ∧ val 4294967296 bs < 4294967296 ^ (m + 2)) := hvl
  have HNL : Hid ((trimZ bs).length = m + 2) := hnl
  rw [hnl]
  clear hbl hbv hvl hnl
  go_wp2_with (first
    | (at_make; refine wpList_make_nums _ rfl _ _ 23 rfl 91 .u32 4 Try.underlying23 Try.info91 _ _ _ _ (l + 1) rfl rfl (by omega) (by omega) (by decide) (by omega) ?_; intro w4 hr4 hb4 hz4))
  have g1 : w.heap.size ≤ w1'.heap.size := hb1.size
  have g2 : w1'.heap.size < w2.heap.size := hrr0.lt
  have g3 : w2.heap.size < w3'.heap.size := hbr.lt
  have hrr4 := (hrr0.keep hb3 g2).keep hb4 (by omega)
  have hbr4 := hbr.keep hb4 g3
  have hb14 := hb13.step hb4 (Nat.le_refl _)
  have HU : Hid (val 4294967296 rs0 = val 4294967296 xs * 2 ^ s) := HR0.out.2
  have HST : Hid (val 4294967296 (rs0.drop (l + 1)) < val 4294967296 bs) := by
    show _ < _
    have h2 := val_lt hdx
    rw [HXL.out] at h2
    exact knuth_start (B := 4294967296) (V := val 4294967296 bs) (X := val 4294967296 xs) (S := 2 ^ s) (la := m + 2 + l) (n := m + 2) (L := l + 1) (r := 2147483648) HR0.out.1 HU.out h2 (by omega) (by omega) (by rw [show m + 2 - 1 = m + 1 by omega]; exact HVL.out.1) (Nat.pow_le_pow_right (by decide) hs31) (Nat.pow_pos (by decide))
  clear hrr0 hbr hb2 hb3 hb4 hz4 hb12 hb13 hb1 hc1 hc0 hy0 hyb
  go_loopw [12] (fun i wr => ∃ k : Nat, ∃ R Q, k ≤ l + 1 ∧ i = .int .i64 ((k : Int) - 1) ∧ Hid (R.length = m + 2 + l + 1) ∧ Hid (Q.length = l + 1) ∧ Digs 4294967296 R ∧ Digs 4294967296 Q ∧
      Hid (val 4294967296 (R.drop k) < val 4294967296 bs ∧ val 4294967296 rs0 = val 4294967296 bs * (4294967296 ^ k * val 4294967296 (Q.drop k)) + val 4294967296 R) ∧
      Row .u32 91 wr w1'.heap.size R ∧ Row .u32 91 wr w3'.heap.size Q ∧ Row .u32 91 wr w2.heap.size bs ∧ Below w.heap.size w wr) (fun i _ => (intOf i + 1).toNat)
  case atStart =>
    have hst : val 4294967296 (rs0.drop (l + 1)) < val 4294967296 bs ∧ val 4294967296 rs0 = val 4294967296 bs * (4294967296 ^ (l + 1) * val 4294967296 ((List.replicate (l + 1) 0).drop (l + 1))) + val 4294967296 rs0 := ⟨HST.out, knuth_init _ _ _ _⟩
    exact ⟨l + 1, rs0, List.replicate (l + 1) 0, Nat.le_refl _, i64_pred l, HR0.out.1, len_zeros l, hrd0, Digs.replicate _ _ (by decide), hst, hrr4, hr4, hbr4, hb14⟩
  case round =>
    obtain ⟨k, R, Q, hk, rfl, HRL, HQL, hRd, hQd, HV, hRr, hQr, hBr, hbel⟩ := hrel
    by_cases h0 : 0 < k
    · obtain ⟨j, rfl⟩ : ∃ j, k = j + 1 := ⟨k - 1, by omega⟩
      obtain ⟨hz, hw, hlt⟩ := win_facts (B := 4294967296) (V := val 4294967296 bs) (n := m + 2) (R := R) (j := j) (by decide) hRd (by have := HRL.out; omega) (Nat.le_of_lt HVL.out.2) HV.out.1
      have HW : Hid (val 4294967296 (R.drop (j + (m + 2) + 1)) = 0 ∧ val 4294967296 ((R.drop j).take (m + 2 + 1)) = val 4294967296 (R.drop j)) := ⟨hz, hw⟩
      have hwin : Win wr w1'.heap.size j (R.take j) ((R.drop j).take (m + 3)) (R.drop (j + (m + 2) + 1)) := by
        refine ⟨?_, by rw [List.length_take]; have := HRL.out; omega⟩
        rw [show j + (m + 2) + 1 = j + (m + 3) by omega, ← List.drop_drop, List.take_append_drop, List.take_append_drop]
        exact hRr
      have hwl : ((R.drop j).take (m + 3)).length = m + 3 := by rw [List.length_take, List.length_drop]; have := HRL.out; omega
      have hlt2 : val 4294967296 ((R.drop j).take (m + 3)) < 4294967296 * val 4294967296 (trimZ bs) := by
        rw [val_trimZ, show m + 3 = m + 2 + 1 by omega, hw]; exact hlt
      have htop : 0 < (trimZ bs).getD (m + 1) 0 := by
        have := (norm_trimZ bs).last (by rw [HNL.out]; omega)
        rw [HNL.out] at this
        exact Nat.pos_of_ne_zero this
      have hstep := fun cap cap' => divStep_any w1'.heap.size j m cap cap' (some ⟨w2.heap.size, 0, none⟩) (R.take j) ((R.drop j).take (m + 3)) (R.drop (j + (m + 2) + 1)) (trimZ bs) wr hwin hwl HNL.out (by omega) (trimZ_seg hBr) (by intro a ha; cases ha; exact Nat.ne_of_gt g2) ((hRd.drop j).take _) hbd.trimZ hlt2 htop
      have HSTEP := Hid2.mk hstep
      clear hstep hz hw hlt hwin hwl hlt2 htop
      go_wp2_with fail
      rw [show j + (m + 2) + 1 - j = m + 3 by omega]
      refine (HSTEP.out _ _).mono ?_
      rintro e wq ⟨q, win', rfl, hq, hqv, hwl', hwd', hwv', hwin', hbut⟩
      have hQ2 := hbut.row hQr (by omega)
      have hB2 := hbut.row hBr (by omega)
      have hcq := hQ2.cell j (by have := HQL.out; omega)
      have hfq := hQ2.frozen j
      obtain ⟨z, hzq⟩ : ∃ z, z = Q.getD j 0 := ⟨_, rfl⟩
      rw [← hzq] at hcq
      have hbel2 := hbel.trans (hbut.1 _ g1)
      have HE : Hid2 (val 4294967296 ((R.take j ++ (win' ++ R.drop (j + (m + 2) + 1))).drop j) < val 4294967296 bs ∧ val 4294967296 rs0 = val 4294967296 bs * (4294967296 ^ j * val 4294967296 ((Q.set j q).drop j)) + val 4294967296 (R.take j ++ (win' ++ R.drop (j + (m + 2) + 1)))) := by
        rw [val_trimZ] at hqv hwv'
        exact ⟨knuth_round (B := 4294967296) (n := m + 2) (by have := HRL.out; omega) (by have := HQL.out; omega) HW.out.1 HW.out.2 hqv hwv' (by have := HV.out.1; omega) HV.out.2⟩
      have HRL2 : Hid ((R.take j ++ (win' ++ R.drop (j + (m + 2) + 1))).length = m + 2 + l + 1) := by
        show _ = _
        have := HRL.out
        rw [List.length_append, List.length_append, hwl', List.length_take, List.length_drop]
        omega
      have hRd2 : Digs 4294967296 (R.take j ++ (win' ++ R.drop (j + (m + 2) + 1))) := (hRd.take j).append (hwd'.append (hRd.drop _))
      have hR2 := hwin'.1
      clear hqv hwl' hwd' hwv' hwin' hzq hbut HSTEP
      generalize R.take j ++ (win' ++ R.drop (j + (m + 2) + 1)) = R2 at HE HRL2 hRd2 hR2
      go_wp2
      go_roundw
      case rel =>
        have hlq : (Q.set j q).length = l + 1 := by rw [List.length_set]; exact HQL.out
        exact ⟨j, R2, Q.set j q, by omega, by go_num, HRL2.out, hlq, hRd2, hQd.set _ _ hq, HE.out, (hR2.other (a := ⟨w3'.heap.size, j, none⟩) (by show w3'.heap.size ≠ _; omega) _), hQ2.set j _ _ rfl, (hB2.other (a := ⟨w3'.heap.size, j, none⟩) (by show w3'.heap.size ≠ _; omega) _), hbel2.setCell (p := ⟨w3'.heap.size, j, none⟩) (by show _ ≤ w3'.heap.size; omega) _⟩
      case measure => simp [intOf]
    · have hk0 : k = 0 := by omega
      subst hk0
      have HE : Hid2 (val 4294967296 Q = val 4294967296 xs / val 4294967296 ys ∧ val 4294967296 R / 2 ^ s = val 4294967296 xs % val 4294967296 ys) :=
        ⟨knuth_last (B := 4294967296) (Nat.pow_pos (by decide)) HV.out HU.out HB0.out.2⟩
      clear HV
      go_wp2_with fail
      refine (shiftDown_any w1'.heap.size (m + 2 + l + 1) (m + 2 + l + 1) s R _ HRL.out (by omega) hs31 hRr hRd).mono ?_
      rintro e wd ⟨v, rfl, rs, hrsl, hrsd, hrsv, hrsr, honly⟩
      have hQ2 := honly.row hQr (by omega)
      have HRS : Hid2 (rs.length = m + 2 + l + 1 ∧ val 4294967296 rs = val 4294967296 R / 2 ^ s) := ⟨hrsl, hrsv⟩
      clear hrsl hrsv
      go_wp2_with fail
      refine (trimmed_any (some ⟨w3'.heap.size, 0, none⟩) (l + 1) (l + 1) Q _ HQL.out (Nat.le_refl _) (by unfold maxLen; omega) hQ2.all).mono ?_
      rintro e wd' ⟨rfl, rfl⟩
      go_wp2_with fail
      refine (trimmed_any (some ⟨w1'.heap.size, 0, none⟩) (m + 2 + l + 1) (m + 2 + l + 1) rs _ HRS.out.1 (Nat.le_refl _) (by unfold maxLen; omega) hrsr.all).mono ?_
      rintro e wd'' ⟨rfl, rfl⟩
      go_wp2
      go_ret2
      refine ⟨_, _, rfl, ?_, ?_, hbel.trans (honly.below g1)⟩
      · rw [← HE.out.1]
        exact LimR.row hQ2 hQd (l + 1) 9001 (by rw [HQL.out]; exact Nat.le_refl _) (by omega)
      · rw [← HE.out.2, ← HRS.out.2]
        exact LimR.row hrsr hrsd (m + 2 + l + 1) 9001 (by rw [HRS.out.1]; exact Nat.le_refl _) (by omega)
end Go.Proofs.Ytidpbdhhbeaijab
