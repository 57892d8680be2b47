/- Joined: DivL, VarsZ, DivA, Gcd2: words and contracts; no statement of the seat is proved here. -/
import Derived.Test.YteefniagebcagaaGreatDoorJoin11Tells
import Derived.Test.YteefniagebcagaaGreatDoorJoin6Tells
import Derived.Test.YteefniagebcagaaGreatDoorJoin10Tells
/- Contract of arith.divLimbs where the divisor has more than one limb (Knuth's algorithm D), and so of all; it proves no statement of the seat. -/
namespace Go.Proofs.YteefniagebcagaaGreatDoor
open Go.RowKit

theorem knuth_init (B V r l : Nat) : r = V * (B ^ (l + 1) * val B ((List.replicate (l + 1) 0).drop (l + 1))) + r := by
  rw [List.drop_of_length_le (by simp), val_nil, Nat.mul_zero, Nat.mul_zero, Nat.zero_add]
theorem i64_pred (l : Nat) : Value.int .i64 (l : Int) = Value.int .i64 (((l + 1 : Nat) : Int) - 1) := by
  congr 1; omega
theorem len_zeros (l : Nat) : (List.replicate (l + 1) 0).length = l + 1 := List.length_replicate

theorem knuth_round {B V n j U q : Nat} {R Q win' : List Nat} (hR : j + n + 1 ≤ R.length) (hQ : j < Q.length) (hz : val B (R.drop (j + n + 1)) = 0) (hw : val B ((R.drop j).take (n + 1)) = val B (R.drop j))
    (hq : q = val B ((R.drop j).take (n + 1)) / V) (hv : val B win' = val B ((R.drop j).take (n + 1)) % V) (hV : 0 < V) (hU : U = V * (B ^ (j + 1) * val B (Q.drop (j + 1))) + val B R) :
    val B ((R.take j ++ (win' ++ R.drop (j + n + 1))).drop j) < V ∧ U = V * (B ^ j * val B ((Q.set j q).drop j)) + val B (R.take j ++ (win' ++ R.drop (j + n + 1))) := by
  have hl : (R.take j).length = j := by rw [List.length_take]; omega
  have e1 : (R.take j ++ (win' ++ R.drop (j + n + 1))).drop j = win' ++ R.drop (j + n + 1) := by
    rw [List.drop_append, List.drop_of_length_le (by omega), hl, Nat.sub_self]; rfl
  have e2 : val B (win' ++ R.drop (j + n + 1)) = val B win' := by rw [val_append, hz]; omega
  rw [e1, e2, val_append, hl, e2]
  refine ⟨by rw [hv]; exact Nat.mod_lt _ hV, ?_⟩
  have e3 := val_cut B R j (by omega)
  have e4 : val B ((Q.set j q).drop j) = q + B * val B (Q.drop (j + 1)) := by
    rw [val_drop_cons _ _ _ (by rw [List.length_set]; exact hQ), getD_set _ _ _ _ hQ, if_pos rfl, drop_set_succ]
  rw [e4]
  refine knuth_step U V _ (val B R) _ (B ^ j) (val B (R.drop j)) q _ B (by rw [← Nat.pow_succ]; exact hU) e3 ?_
  rw [hv, hq, hw]
  exact (Nat.div_add_mod _ _).symm
theorem knuth_last {B V U X Y S : Nat} {R Q : List Nat} (hS : 0 < S) (h : val B (R.drop 0) < V ∧ U = V * (B ^ 0 * val B (Q.drop 0)) + val B R) (hU : U = X * S) (hV : V = Y * S) : val B Q = X / Y ∧ val B R / S = X % Y := by
  rw [List.drop_zero, List.drop_zero, Nat.pow_zero, Nat.one_mul] at h
  exact knuth_end hS h.2 h.1 hU hV

set_option maxRecDepth 20000 in
set_option maxHeartbeats 8000000 in
theorem divLimbs_long (m l : Nat) (xs ys : List Nat) (hl : m + 2 + l ≤ 8000) (hxl : xs.length = m + 2 + l) (hyl : ys.length = m + 2) (hdx : Digs 4294967296 xs) (hdy : Digs 4294967296 ys) (nx : Norm xs) (ny : Norm ys) (hge : val 4294967296 ys ≤ val 4294967296 xs) : DivC xs ys := by
  intro ao bo cap cap' w hs ht
  have hc : ¬ cmpL 4294967296 xs ys < 0 := fun h => by have := (cmpL_neg (by decide) hdx hdy nx ny).1 h; omega
  have hone : (((m + 2 : Nat) : Int) == 1) = false := by rw [beq_eq_false_iff_ne]; omega
  obtain ⟨b, off, rfl, hcs⟩ := ht.open 0 (by omega)
  have hc0 := hcs (m + 1) (by omega)
  obtain ⟨y, hy⟩ : ∃ y, y = ys.getD (m + 1) 0 := ⟨_, rfl⟩
  rw [← hy] at hc0
  have hyb : y < 4294967296 := hy ▸ hdy.getD (by decide) _
  have hy0 : 0 < y := by
    have := ny.last (by omega)
    rw [hyl] at this
    rw [hy]; exact Nat.pos_of_ne_zero this
  have hbw : b < w.heap.size := World.block_lt_of_cell? w ⟨b, off + (m + 1), none⟩ hc0
  have HY : Hid (y = ys.getD (m + 1) 0) := hy
  have HXL : Hid (xs.length = m + 2 + l) := hxl
  have HYL : Hid (ys.length = m + 2) := hyl
  rw [hxl, hyl]
  clear hcs hy hge hxl hyl
  go_enter Tryz.func114, Tryz.ntmps114
  go_wp2_with fail
  refine (cmpLimbs_any ao _ (m + 2 + l) (m + 2) cap cap' xs ys _ HXL.out HYL.out (by omega) (by omega) hs ht hdx hdy).mono ?_
  rintro e w1 ⟨rfl, hb1⟩
  have hc1 := (hb1.cell (p := ⟨b, off + (m + 1), none⟩) hbw).trans hc0
  go_wp2_with fail
  refine (lead_any y _ hyb hy0).mono ?_
  rintro e w1' ⟨s, rfl, hs31, hs1, hs2, rfl⟩
  have HS : Hid (y * 2 ^ s < 4294967296 ∧ 2147483648 ≤ y * 2 ^ s) := ⟨hs1, hs2⟩
  clear hs1 hs2
  go_wp2_with fail
  refine (shiftedUp_any ao (m + 2 + l) cap s xs _ HXL.out (by omega) hs31 (hs.below hb1) hdx).mono ?_
  rintro e w2 ⟨rs0, rfl, hrl0, hrd0, hrv0, hrr0, hb2⟩
  have hb12 := hb1.step hb2 (Nat.le_refl _)
  have HR0 : Hid (rs0.length = m + 2 + l + 1 ∧ val 4294967296 rs0 = val 4294967296 xs * 2 ^ s) := ⟨hrl0, hrv0⟩
  clear hrl0 hrv0
  go_wp2_with fail
  refine (shiftedUp_any _ (m + 2) cap' s ys _ HYL.out (by omega) hs31 (ht.below hb12) hdy).mono ?_
  rintro e w3 ⟨bs, rfl, hbl, hbd, hbv, hbr, hb3⟩
  have hb13 := hb12.step hb3 (Nat.le_refl _)
  go_wp2_with fail
  refine (trimmed_any (some ⟨w2.heap.size, 0, none⟩) (m + 2 + 1) (m + 2 + 1) bs _ hbl (Nat.le_refl _) (by unfold maxLen; omega) hbr.all).mono ?_
  rintro e w3' ⟨rfl, rfl⟩
  have HB0 : Hid (bs.length = m + 2 + 1 ∧ val 4294967296 bs = val 4294967296 ys * 2 ^ s) := ⟨hbl, hbv⟩
  have hvl : 4294967296 ^ (m + 1) * 2147483648 ≤ val 4294967296 bs ∧ val 4294967296 bs < 4294967296 ^ (m + 2) := by
    have e1 := val_take_succ 4294967296 ys (m + 1) (by have := HYL.out; omega)
    rw [List.take_of_length_le (by have := HYL.out; omega), ← HY.out] at e1
    have h2 := val_lt (hdy.take (m + 1))
    rw [List.length_take, Nat.min_eq_left (by have := HYL.out; omega)] at h2
    rw [hbv, e1]
    generalize val 4294967296 (ys.take (m + 1)) = A at h2
    rw [Nat.pow_succ 4294967296 (m + 1)]
    generalize 4294967296 ^ (m + 1) = P at h2
    have h3 := HS.out
    have hp : 0 < 2 ^ s := Nat.pow_pos (by decide)
    have e32 : 2 ^ s * 2 ^ (32 - s) = 4294967296 := by rw [← Nat.pow_add, show s + (32 - s) = 32 by omega]
    refine ⟨?_, ?_⟩
    · have h4 : P * 2147483648 ≤ P * (y * 2 ^ s) := Nat.mul_le_mul_left _ h3.2
      rw [Nat.add_mul, Nat.mul_assoc P y]
      omega
    · have h5 : y < 2 ^ (32 - s) := by
        have h6 : 2 ^ s * y < 2 ^ s * 2 ^ (32 - s) := by rw [e32, Nat.mul_comm]; exact h3.1
        exact Nat.lt_of_mul_lt_mul_left h6
      have h7 : A + P * y < P * 2 ^ (32 - s) := by
        have : P * (y + 1) ≤ P * 2 ^ (32 - s) := Nat.mul_le_mul_left _ h5
        rw [Nat.mul_add] at this
        omega
      have h8 := Nat.mul_lt_mul_of_pos_right h7 hp
      rw [Nat.mul_assoc, Nat.mul_comm (2 ^ (32 - s)), e32] at h8
      exact h8
  have hnl : (trimZ bs).length = m + 2 := by
    refine norm_length (B := 4294967296) (by decide) (norm_trimZ bs) hbd.trimZ (by omega) ?_ ?_
    · rw [val_trimZ, show m + 2 - 1 = m + 1 by omega]; omega
    · rw [val_trimZ]; exact hvl.2
  have HVL : Hid (4294967296 ^ (m + 1) * 2147483648 ≤ val 4294967296 bs ∧ val 4294967296 bs < 4294967296 ^ (m + 2)) := hvl
  have HNL : Hid ((trimZ bs).length = m + 2) := hnl
  rw [hnl]
  clear hbl hbv hvl hnl
  go_wp2_with (first
    | (at_make; refine wpList_make_nums _ rfl _ _ 29 rfl 167 .u32 4 Tryz.underlying29 Tryz.info167 _ _ _ _ (l + 1) rfl rfl (by omega) (by omega) (by decide) (by omega) ?_; intro w4 hr4 hb4 hz4))
  have g1 : w.heap.size ≤ w1'.heap.size := hb1.size
  have g2 : w1'.heap.size < w2.heap.size := hrr0.lt
  have g3 : w2.heap.size < w3'.heap.size := hbr.lt
  have hrr4 := (hrr0.keep hb3 g2).keep hb4 (by omega)
  have hbr4 := hbr.keep hb4 g3
  have hb14 := hb13.step hb4 (Nat.le_refl _)
  have HU : Hid (val 4294967296 rs0 = val 4294967296 xs * 2 ^ s) := HR0.out.2
  have HST : Hid (val 4294967296 (rs0.drop (l + 1)) < val 4294967296 bs) := by
    show _ < _
    have h2 := val_lt hdx
    rw [HXL.out] at h2
    exact knuth_start (B := 4294967296) (V := val 4294967296 bs) (X := val 4294967296 xs) (S := 2 ^ s) (la := m + 2 + l) (n := m + 2) (L := l + 1) (r := 2147483648) HR0.out.1 HU.out h2 (by omega) (by omega) (by rw [show m + 2 - 1 = m + 1 by omega]; exact HVL.out.1) (Nat.pow_le_pow_right (by decide) hs31) (Nat.pow_pos (by decide))
  clear hrr0 hbr hb2 hb3 hb4 hz4 hb12 hb13 hb1 hc1 hc0 hy0 hyb
  go_loopw [12] (fun i wr => ∃ k : Nat, ∃ R Q, k ≤ l + 1 ∧ i = .int .i64 ((k : Int) - 1) ∧ Hid (R.length = m + 2 + l + 1) ∧ Hid (Q.length = l + 1) ∧ Digs 4294967296 R ∧ Digs 4294967296 Q ∧
      Hid (val 4294967296 (R.drop k) < val 4294967296 bs ∧ val 4294967296 rs0 = val 4294967296 bs * (4294967296 ^ k * val 4294967296 (Q.drop k)) + val 4294967296 R) ∧
      Row .u32 167 wr w1'.heap.size R ∧ Row .u32 167 wr w3'.heap.size Q ∧ Row .u32 167 wr w2.heap.size bs ∧ Below w.heap.size w wr) (fun i _ => (intOf i + 1).toNat)
  case atStart =>
    have hst : val 4294967296 (rs0.drop (l + 1)) < val 4294967296 bs ∧ val 4294967296 rs0 = val 4294967296 bs * (4294967296 ^ (l + 1) * val 4294967296 ((List.replicate (l + 1) 0).drop (l + 1))) + val 4294967296 rs0 := ⟨HST.out, knuth_init _ _ _ _⟩
    exact ⟨l + 1, rs0, List.replicate (l + 1) 0, Nat.le_refl _, i64_pred l, HR0.out.1, len_zeros l, hrd0, Digs.replicate _ _ (by decide), hst, hrr4, hr4, hbr4, hb14⟩
  case round =>
    obtain ⟨k, R, Q, hk, rfl, HRL, HQL, hRd, hQd, HV, hRr, hQr, hBr, hbel⟩ := hrel
    by_cases h0 : 0 < k
    · obtain ⟨j, rfl⟩ : ∃ j, k = j + 1 := ⟨k - 1, by omega⟩
      obtain ⟨hz, hw, hlt⟩ := win_facts (B := 4294967296) (V := val 4294967296 bs) (n := m + 2) (R := R) (j := j) (by decide) hRd (by have := HRL.out; omega) (Nat.le_of_lt HVL.out.2) HV.out.1
      have HW : Hid (val 4294967296 (R.drop (j + (m + 2) + 1)) = 0 ∧ val 4294967296 ((R.drop j).take (m + 2 + 1)) = val 4294967296 (R.drop j)) := ⟨hz, hw⟩
      have hwin : Win wr w1'.heap.size j (R.take j) ((R.drop j).take (m + 3)) (R.drop (j + (m + 2) + 1)) := by
        refine ⟨?_, by rw [List.length_take]; have := HRL.out; omega⟩
        rw [show j + (m + 2) + 1 = j + (m + 3) by omega, ← List.drop_drop, List.take_append_drop, List.take_append_drop]
        exact hRr
      have hwl : ((R.drop j).take (m + 3)).length = m + 3 := by rw [List.length_take, List.length_drop]; have := HRL.out; omega
      have hlt2 : val 4294967296 ((R.drop j).take (m + 3)) < 4294967296 * val 4294967296 (trimZ bs) := by
        rw [val_trimZ, show m + 3 = m + 2 + 1 by omega, hw]; exact hlt
      have htop : 0 < (trimZ bs).getD (m + 1) 0 := by
        have := (norm_trimZ bs).last (by rw [HNL.out]; omega)
        rw [HNL.out] at this
        exact Nat.pos_of_ne_zero this
      have hstep := fun cap cap' => divStep_any w1'.heap.size j m cap cap' (some ⟨w2.heap.size, 0, none⟩) (R.take j) ((R.drop j).take (m + 3)) (R.drop (j + (m + 2) + 1)) (trimZ bs) wr hwin hwl HNL.out (by omega) (trimZ_seg hBr) (by intro a ha; cases ha; exact Nat.ne_of_gt g2) ((hRd.drop j).take _) hbd.trimZ hlt2 htop
      have HSTEP := Hid2.mk hstep
      clear hstep hz hw hlt hwin hwl hlt2 htop
      go_wp2_with fail
      rw [show j + (m + 2) + 1 - j = m + 3 by omega]
      refine (HSTEP.out _ _).mono ?_
      rintro e wq ⟨q, win', rfl, hq, hqv, hwl', hwd', hwv', hwin', hbut⟩
      have hQ2 := hbut.row hQr (by omega)
      have hB2 := hbut.row hBr (by omega)
      have hcq := hQ2.cell j (by have := HQL.out; omega)
      have hfq := hQ2.frozen j
      obtain ⟨z, hzq⟩ : ∃ z, z = Q.getD j 0 := ⟨_, rfl⟩
      rw [← hzq] at hcq
      have hbel2 := hbel.trans (hbut.1 _ g1)
      have HE : Hid2 (val 4294967296 ((R.take j ++ (win' ++ R.drop (j + (m + 2) + 1))).drop j) < val 4294967296 bs ∧ val 4294967296 rs0 = val 4294967296 bs * (4294967296 ^ j * val 4294967296 ((Q.set j q).drop j)) + val 4294967296 (R.take j ++ (win' ++ R.drop (j + (m + 2) + 1)))) := by
        rw [val_trimZ] at hqv hwv'
        exact ⟨knuth_round (B := 4294967296) (n := m + 2) (by have := HRL.out; omega) (by have := HQL.out; omega) HW.out.1 HW.out.2 hqv hwv' (by have := HV.out.1; omega) HV.out.2⟩
      have HRL2 : Hid ((R.take j ++ (win' ++ R.drop (j + (m + 2) + 1))).length = m + 2 + l + 1) := by
        show _ = _
        have := HRL.out
        rw [List.length_append, List.length_append, hwl', List.length_take, List.length_drop]
        omega
      have hRd2 : Digs 4294967296 (R.take j ++ (win' ++ R.drop (j + (m + 2) + 1))) := (hRd.take j).append (hwd'.append (hRd.drop _))
      have hR2 := hwin'.1
      clear hqv hwl' hwd' hwv' hwin' hzq hbut HSTEP
      generalize R.take j ++ (win' ++ R.drop (j + (m + 2) + 1)) = R2 at HE HRL2 hRd2 hR2
      go_wp2
      go_roundw
      case rel =>
        have hlq : (Q.set j q).length = l + 1 := by rw [List.length_set]; exact HQL.out
        exact ⟨j, R2, Q.set j q, by omega, by go_num, HRL2.out, hlq, hRd2, hQd.set _ _ hq, HE.out, (hR2.other (a := ⟨w3'.heap.size, j, none⟩) (by show w3'.heap.size ≠ _; omega) _), hQ2.set j _ _ rfl, (hB2.other (a := ⟨w3'.heap.size, j, none⟩) (by show w3'.heap.size ≠ _; omega) _), hbel2.setCell (p := ⟨w3'.heap.size, j, none⟩) (by show _ ≤ w3'.heap.size; omega) _⟩
      case measure => simp [intOf]
    · have hk0 : k = 0 := by omega
      subst hk0
      have HE : Hid2 (val 4294967296 Q = val 4294967296 xs / val 4294967296 ys ∧ val 4294967296 R / 2 ^ s = val 4294967296 xs % val 4294967296 ys) :=
        ⟨knuth_last (B := 4294967296) (Nat.pow_pos (by decide)) HV.out HU.out HB0.out.2⟩
      clear HV
      go_wp2_with fail
      refine (shiftDown_any w1'.heap.size (m + 2 + l + 1) (m + 2 + l + 1) s R _ HRL.out (by omega) hs31 hRr hRd).mono ?_
      rintro e wd ⟨v, rfl, rs, hrsl, hrsd, hrsv, hrsr, honly⟩
      have hQ2 := honly.row hQr (by omega)
      have HRS : Hid2 (rs.length = m + 2 + l + 1 ∧ val 4294967296 rs = val 4294967296 R / 2 ^ s) := ⟨hrsl, hrsv⟩
      clear hrsl hrsv
      go_wp2_with fail
      refine (trimmed_any (some ⟨w3'.heap.size, 0, none⟩) (l + 1) (l + 1) Q _ HQL.out (Nat.le_refl _) (by unfold maxLen; omega) hQ2.all).mono ?_
      rintro e wd' ⟨rfl, rfl⟩
      go_wp2_with fail
      refine (trimmed_any (some ⟨w1'.heap.size, 0, none⟩) (m + 2 + l + 1) (m + 2 + l + 1) rs _ HRS.out.1 (Nat.le_refl _) (by unfold maxLen; omega) hrsr.all).mono ?_
      rintro e wd'' ⟨rfl, rfl⟩
      go_wp2
      go_ret2
      refine ⟨_, _, rfl, ?_, ?_, hbel.trans (honly.below g1)⟩
      · rw [← HE.out.1]
        exact LimR.row hQ2 hQd (l + 1) 9001 (by rw [HQL.out]; exact Nat.le_refl _) (by omega)
      · rw [← HE.out.2, ← HRS.out.2]
        exact LimR.row hrsr hrsd (m + 2 + l + 1) 9001 (by rw [HRS.out.1]; exact Nat.le_refl _) (by omega)
end Go.Proofs.YteefniagebcagaaGreatDoor
/- arith's calls, with the result's number under a name; they prove no statement of the seat. -/
namespace Go.Proofs.YteefniagebcagaaGreatDoor
open Go.RowKit

end Go.Proofs.YteefniagebcagaaGreatDoor
/- arith.Div of any two numbers; it proves no statement of the seat. -/
namespace Go.Proofs.YteefniagebcagaaGreatDoor
open Go.RowKit

theorem divC_all (xs ys : List Nat) (hl : xs.length ≤ 8000) (hl' : ys.length ≤ 8000) (hy : 0 < ys.length) (hdx : Digs 4294967296 xs) (hdy : Digs 4294967296 ys) (nx : Norm xs) (ny : Norm ys) : DivC xs ys := by
  rcases Nat.lt_or_ge (val 4294967296 xs) (val 4294967296 ys) with h | h
  · exact divLimbs_less xs ys (by omega) (by omega) hdx hdy nx ny h
  · by_cases h1 : ys.length = 1
    · exact divLimbs_one xs ys (by omega) h1 hdx hdy nx ny h
    · have h2 : ys.length ≤ xs.length := by
        rcases Nat.lt_or_ge xs.length ys.length with k | k
        · have := val_lt_of_length hdx ny (by decide) k; omega
        · exact k
      exact divLimbs_long (ys.length - 2) (xs.length - ys.length) xs ys (by omega) (by omega) (by omega) hdx hdy nx ny h

theorem div_h (va vb : Value) (x y q r : Int) (w : World) (ha : AInt w va x) (hb : AInt w vb y) (hy : y ≠ 0) (hq : x.fdiv y = q) (hr : x.fmod y = r) :
    Calls Tryz.prog 122 #[va, vb] w fun e w' => ∃ s a n c s' a' n' c', e = .returned (.tuple #[.agg #[.bool s, .slice a n c], .agg #[.bool s', .slice a' n' c'], .int .i64 0]) ∧ AInt w' (.agg #[.bool s, .slice a n c]) q ∧ AInt w' (.agg #[.bool s', .slice a' n' c']) r ∧ Below w.heap.size w w' := by
  subst hq hr
  obtain ⟨na, xs, hx, rfl, hxl⟩ := ha
  obtain ⟨nb, ys, hy', rfl, hyl⟩ := hb
  have hl1 := AInt.len hx hxl
  have hl2 := AInt.len hy' hyl
  have hy0 : 0 < ys.length := by
    rcases Nat.eq_zero_or_pos ys.length with h | h
    · exfalso
      have : ys = [] := List.eq_nil_of_length_eq_zero h
      subst this
      exact hy (by rw [val_nil, sv_zero])
    · exact h
  have hdc : DivC xs ys := by
    obtain ⟨_, _, _, _, _, _, d1, n1, _⟩ := hx
    obtain ⟨_, _, _, _, _, _, d2, n2, _⟩ := hy'
    exact divC_all xs ys (by omega) (by omega) hy0 d1 d2 n1 n2
  refine (div_of va vb na nb xs ys w hx hy' hxl hyl hy0 hdc).mono ?_
  rintro e w' ⟨vq, vr, rfl, hq, hr, hb⟩
  obtain ⟨s, a, n, c, rfl⟩ := hq.shape
  obtain ⟨s', a', n', c', rfl⟩ := hr.shape
  exact ⟨s, a, n, c, s', a', n', c', rfl, hq, hr, hb⟩

end Go.Proofs.YteefniagebcagaaGreatDoor
/- arith.Gcd of any two numbers (by Euclid's rests, over the limbs); it proves no statement of the seat. -/
namespace Go.Proofs.YteefniagebcagaaGreatDoor
open Go.RowKit

set_option maxRecDepth 20000 in
set_option maxHeartbeats 8000000 in
theorem gcd_long (va vb : Value) (na nb : Bool) (xs ys : List Nat) (w : World) (hva : IntV w va na xs) (hvb : IntV w vb nb ys) (hxl : val 4294967296 xs < lim) (hyl : val 4294967296 ys < lim) :
    Calls Tryz.prog 76 #[va, vb] w fun e w' => ∃ v, e = .returned v ∧ AInt w' v (Nat.gcd (val 4294967296 xs) (val 4294967296 ys)) ∧ Below w.heap.size w w' := by
  obtain ⟨ao, cap, rfl, h1, h2, hs, hd, hn, h3⟩ := hva
  obtain ⟨bo, cap', rfl, k1, k2, ks, kd, kn, k3⟩ := hvb
  have HXL : Hid (val 4294967296 xs < lim) := hxl
  have HYL : Hid (val 4294967296 ys < lim) := hyl
  clear h3 k3 hxl hyl
  have R0 := Blk.new ((w.alloc (.cells #[.bool na, .slice ao xs.length cap] 31 (0, 0))).alloc (.cells #[.bool nb, .slice bo ys.length cap'] 31 (0, 0))) 31 #[.bool false, .slice none 0 0]
  simp only [World.size_alloc] at R0
  have hbw : Below w.heap.size w (((w.alloc (.cells #[.bool na, .slice ao xs.length cap] 31 (0, 0))).alloc (.cells #[.bool nb, .slice bo ys.length cap'] 31 (0, 0))).alloc (.cells #[.bool false, .slice none 0 0] 31 (0, 0))) := by go_grown
  go_enter Tryz.func76, Tryz.ntmps76
  go_wp2
  go_region
  go_wp2
  go_loopg [5, 6] (val 4294967296 ys) (fun gk v5 v6 wr => ∃ p q : List Nat, ∃ pa qa : Option Addr, ∃ pc qc : Nat, v5 = .slice pa p.length pc ∧ v6 = .slice qa q.length qc ∧ p.length ≤ pc ∧ pc ≤ 10000 ∧ q.length ≤ qc ∧ qc ≤ 10000 ∧
      Seg .u32 wr pa p ∧ Seg .u32 wr qa q ∧ Digs 4294967296 p ∧ Digs 4294967296 q ∧ Norm p ∧ Norm q ∧
      Hid (val 4294967296 p < lim ∧ val 4294967296 q < lim ∧ val 4294967296 q = gk ∧ Nat.gcd (val 4294967296 p) (val 4294967296 q) = Nat.gcd (val 4294967296 xs) (val 4294967296 ys)) ∧
      Blk 31 wr (w.heap.size + 1 + 1) #[.bool false, .slice none 0 0] ∧ Below w.heap.size w wr)
  case atStart =>
    exact ⟨xs, ys, ao, bo, cap, cap', rfl, rfl, h1, h2, k1, k2, hs.below hbw.drew, ks.below hbw.drew, hd, kd, hn, kn, ⟨HXL.out, HYL.out, rfl, rfl⟩, R0.drew, hbw.drew⟩
  case round =>
    obtain ⟨p, q, pa, qa, pc, qc, rfl, rfl, p1, p2, q1, q2, ps, qs, pd, qd, pn, qn, HG, R1, hbel⟩ := hrel
    have hpl := norm_len pn HG.out.1
    have hql := norm_len qn HG.out.2.1
    by_cases hsm : p.length ≤ 2 ∧ q.length ≤ 2
    · obtain ⟨s1, s2⟩ := hsm
      have g1 : decide (2 < (p.length : Int)) = false := by simp; omega
      have g2 : decide (2 < (q.length : Int)) = false := by simp; omega
      have HX : Hid (val 4294967296 p < 18446744073709551616) := two_limbs pd s1
      have HY : Hid (val 4294967296 q < 18446744073709551616) := two_limbs qd s2
      have HGG : Hid (Nat.gcd (val 4294967296 p) (val 4294967296 q) < 18446744073709551616) := by
        show _ < _
        rcases Nat.eq_zero_or_pos (val 4294967296 p) with h | h
        · rw [h, Nat.gcd_zero_left]; exact HY.out
        · exact Nat.lt_of_le_of_lt (Nat.gcd_le_left _ h) HX.out
      go_wp2_with fail
      refine (joinWord_any pa p.length pc p _ rfl s1 ps pd).mono ?_
      rintro e w1 ⟨rfl, rfl⟩
      go_wp2_with fail
      refine (joinWord_any qa q.length qc q _ rfl s2 qs qd).mono ?_
      rintro e w1 ⟨rfl, rfl⟩
      go_wp2_with fail
      refine (gcdWords_any _ _ _ (by have := HX.out; omega) (by have := HY.out; omega)).mono ?_
      rintro e w1 ⟨rfl, hb1⟩
      have R2 := R1.stay hb1
      go_wp2_with fail
      refine (splitWord_int _ _ rfl _ HGG.out).mono ?_
      rintro e w2 ⟨v2, rfl, hl, hb2⟩
      have R3 := R2.stay hb2
      go_wp2_with fail
      refine (signed_lim false v2 _ 2 _ hl (by decide) (Nat.lt_of_lt_of_le HGG.out word_lim)).mono ?_
      rintro e w3 ⟨v3, rfl, ha3, hb3⟩
      have R4 := R3.stay hb3
      obtain ⟨x, a, n, c, rfl⟩ := ha3.shape
      obtain ⟨r0, r1, f0, f1⟩ := R4.two
      go_wp2
      refine bodyPost_ret (v := .agg #[.bool x, .slice a n c]) (by simp [results, Tryz.results76, go_sem, r0, r1]) rfl ?_
      refine ⟨_, rfl, ?_, below_store2 (((hbel.step hb1 (Nat.le_refl _)).step hb2 (Nat.le_refl _)).step hb3 (Nat.le_refl _)) (by omega) _ _⟩
      have h5 := ha3.store2 R4 x a n c
      rw [HG.out.2.2.2] at h5
      exact h5
    · by_cases hq0 : q.length = 0
      · have hqz : (((q.length : Nat) : Int) == 0) = true := by rw [beq_iff_eq]; omega
        have g1 : decide (2 < (p.length : Int)) = true := by simp; omega
        have HQ : Hid (val 4294967296 q = 0) := by
          have : q = [] := List.eq_nil_of_length_eq_zero hq0
          subst this; exact rfl
        have HP : Hid (LimR wr (.slice pa p.length pc) (val 4294967296 p) 10000) := ⟨pa, pc, p, rfl, p1, p2, ps, pd, pn, rfl⟩
        clear hsm hq0
        go_wp2_with fail
        refine (copied_lim _ _ 10000 _ HP.out HG.out.1).mono ?_
        rintro e w1 ⟨v1, rfl, hl, hb1⟩
        have R2 := R1.stay hb1
        go_wp2_with fail
        refine (signed_lim _ v1 _ 9001 _ hl (by decide) HG.out.1).mono ?_
        rintro e w2 ⟨v2, rfl, ha2, hb2⟩
        have R3 := R2.stay hb2
        obtain ⟨x, a, n, c, rfl⟩ := ha2.shape
        obtain ⟨r0, r1, f0, f1⟩ := R3.two
        go_wp2
        refine bodyPost_ret (v := .agg #[.bool x, .slice a n c]) (by simp [results, Tryz.results76, go_sem, r0, r1]) rfl ?_
        refine ⟨_, rfl, ?_, below_store2 ((hbel.step hb1 (Nat.le_refl _)).step hb2 (Nat.le_refl _)) (by omega) _ _⟩
        have h5 := ha2.store2 R3 x a n c
        have h6 := HG.out.2.2.2
        rw [HQ.out, Nat.gcd_zero_right] at h6
        rw [← h6]
        exact h5
      · have hqz : (((q.length : Nat) : Int) == 0) = false := by rw [beq_eq_false_iff_ne]; omega
        have HDC : Hid (DivC p q) := divC_all p q (by omega) (by omega) (by omega) pd qd pn qn
        have HQ : Hid (0 < val 4294967296 q) := (qn.pos (B := 4294967296) (List.ne_nil_of_length_pos (by omega))).resolve_right (by decide)
        have key : ∀ u2 w2, LimR w2 u2 (val 4294967296 p % val 4294967296 q) 9001 → Below wr.heap.size wr w2 → ∃ ra rc, ∃ ls : List Nat, u2 = .slice ra ls.length rc ∧ Hid (ls.length ≤ rc ∧ rc ≤ 10000 ∧ Seg .u32 w2 ra ls ∧ Digs 4294967296 ls ∧ Norm ls ∧ val 4294967296 ls = val 4294967296 p % val 4294967296 q) := by
          rintro u2 w2 ⟨ra, rc, ls, rfl, l1, l2, l3, l4, l5, l6⟩ _
          exact ⟨ra, rc, ls, rfl, l1, by omega, l3, l4, l5, l6⟩
        have HK := Hid2.mk key
        clear key hq0
        have tail : True := trivial
        by_cases hp2 : 2 < p.length
        · have g1 : decide (2 < (p.length : Int)) = true := by simp; omega
          clear hsm hp2
          go_wp2_with fail
          refine (HDC.out pa qa pc qc _ ps qs).mono ?_
          rintro e w2 ⟨u1, u2, rfl, hu1, hu2, hb2⟩
          obtain ⟨ra, rc, ls, rfl, HLS⟩ := HK.out u2 w2 hu2 hb2
          have R2 := R1.stay hb2
          go_wp2
          go_roundg (val 4294967296 ls)
          case measure => rw [HLS.out.2.2.2.2.2, ← HG.out.2.2.1]; exact Nat.mod_lt _ HQ.out
          case rel =>
            obtain ⟨l1, l2, l3, l4, l5, l6⟩ := HLS.out
            refine ⟨q, ls, qa, ra, qc, rc, rfl, rfl, q1, q2, l1, l2, qs.below hb2, l3, qd, l4, qn, l5, ⟨HG.out.2.1, ?_, rfl, ?_⟩, R2, hbel.step hb2 (Nat.le_refl _)⟩
            · rw [l6]; exact Nat.lt_trans (Nat.mod_lt _ HQ.out) HG.out.2.1
            · rw [l6, ← HG.out.2.2.2, Nat.gcd_comm, ← Nat.gcd_rec, Nat.gcd_comm]
        · have g1 : decide (2 < (p.length : Int)) = false := by simp; omega
          have g2 : decide (2 < (q.length : Int)) = true := by simp; omega
          clear hsm hp2
          go_wp2_with fail
          refine (HDC.out pa qa pc qc _ ps qs).mono ?_
          rintro e w2 ⟨u1, u2, rfl, hu1, hu2, hb2⟩
          obtain ⟨ra, rc, ls, rfl, HLS⟩ := HK.out u2 w2 hu2 hb2
          have R2 := R1.stay hb2
          go_wp2
          go_roundg (val 4294967296 ls)
          case measure => rw [HLS.out.2.2.2.2.2, ← HG.out.2.2.1]; exact Nat.mod_lt _ HQ.out
          case rel =>
            obtain ⟨l1, l2, l3, l4, l5, l6⟩ := HLS.out
            refine ⟨q, ls, qa, ra, qc, rc, rfl, rfl, q1, q2, l1, l2, qs.below hb2, l3, qd, l4, qn, l5, ⟨HG.out.2.1, ?_, rfl, ?_⟩, R2, hbel.step hb2 (Nat.le_refl _)⟩
            · rw [l6]; exact Nat.lt_trans (Nat.mod_lt _ HQ.out) HG.out.2.1
            · rw [l6, ← HG.out.2.2.2, Nat.gcd_comm, ← Nat.gcd_rec, Nat.gcd_comm]

theorem gcd_h (va vb : Value) (x y z : Int) (w : World) (ha : AInt w va x) (hb : AInt w vb y) (hz' : ((Int.gcd x y : Nat) : Int) = z) :
    Calls Tryz.prog 76 #[va, vb] w fun e w' => ∃ s a n c, e = .returned (.agg #[.bool s, .slice a n c]) ∧ AInt w' (.agg #[.bool s, .slice a n c]) z ∧ Below w.heap.size w w' := by
  subst hz'
  obtain ⟨na, xs, hx, rfl, hxl⟩ := ha
  obtain ⟨nb, ys, hy, rfl, hyl⟩ := hb
  refine (gcd_long va vb na nb xs ys w hx hy hxl hyl).mono ?_
  rintro e w' ⟨v, rfl, hv, hb⟩
  obtain ⟨s, a, n, c, rfl⟩ := hv.shape
  refine ⟨s, a, n, c, rfl, ?_, hb⟩
  rw [show Int.gcd (sv na (val 4294967296 xs)) (sv nb (val 4294967296 ys)) = Nat.gcd (val 4294967296 xs) (val 4294967296 ys) by unfold Int.gcd; rw [sv_natAbs, sv_natAbs]]
  exact hv
end Go.Proofs.YteefniagebcagaaGreatDoor
