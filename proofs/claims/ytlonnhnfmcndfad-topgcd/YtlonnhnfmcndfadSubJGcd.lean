/- Contract of arith.subLimbs; it proves no statement of the seat. -/
import Derived.Test.YtlonnhnfmcndfadAddJGcd
namespace Go.Proofs.Ytlonnhnfmcndfad
open Go.RowKit

theorem sub32_c (x y b : Nat) (w : World) (hx : x < 4294967296) (hy : y < 4294967296) (hb : b ≤ 1) :
    Calls Try.prog 57 #[.int .u32 x, .int .u32 y, .int .u32 b] w fun e w' =>
      ∃ d b' : Nat, e = .returned (.tuple #[.int .u32 d, .int .u32 b']) ∧ d < 4294967296 ∧ b' ≤ 1 ∧ Hid (d + y + b = x + 4294967296 * b') ∧ w' = w := by
  refine (sub32_any x y b w (by omega) (by omega) hb).mono ?_
  rintro e w' ⟨rfl, rfl⟩
  refine ⟨_, _, rfl, Nat.mod_lt _ (by decide), by split <;> omega, ?_, rfl⟩
  show _ = _
  by_cases h : x < y + b
  · rw [if_pos h]; omega
  · rw [if_neg h]; omega

theorem sub_step (P A b X Y x y d b' B : Nat) (h : A + Y = X + P * b) (hs : d + y + b = x + B * b') : (A + P * d) + (Y + P * y) = (X + P * x) + P * B * b' := by
  have e := congrArg (P * ·) hs
  simp only [Nat.mul_add, Nat.mul_assoc] at *
  omega

theorem sub_rest (B : Nat) (zs xs ys : List Nat) (k : Nat) (hz : zs.length = xs.length) (hk : k ≤ xs.length) (hm : ys.length ≤ k) (hd : zs.drop k = xs.drop k) (h : val B (zs.take k) + val B (ys.take k) = val B (xs.take k) + B ^ k * 0) : val B zs + val B ys = val B xs := by
  rw [val_split B zs k (by omega), hd, val_split B xs k hk]
  rw [List.take_of_length_le hm] at h
  omega

set_option maxHeartbeats 4000000 in
theorem subLimbs_any (ao bo : Option Addr) (n m cap cap' : Nat) (xs ys : List Nat) (w : World) (hn : xs.length = n) (hm : ys.length = m) (h1 : n ≤ 9000) (hmn : m ≤ n) (hs : Seg .u32 w ao xs) (ht : Seg .u32 w bo ys) (hdx : Digs 4294967296 xs) (hdy : Digs 4294967296 ys) (hle : val 4294967296 ys ≤ val 4294967296 xs) :
    Calls Try.prog 40 #[.slice ao n cap, .slice bo m cap'] w fun e w' => ∃ v, e = .returned v ∧ LimR w' v (val 4294967296 xs - val 4294967296 ys) 9001 ∧ Below w.heap.size w w' := by
  have HN : Hid (xs.length = n) := hn
  have HM : Hid (ys.length = m) := hm
  have HLE : Hid (val 4294967296 ys ≤ val 4294967296 xs) := hle
  clear hn hm hle
  go_enter Try.func40, Try.ntmps40
  go_wp2_with fail
  refine (copied_any ao n cap xs _ HN.out (by omega) hs).mono ?_
  rintro e w1 ⟨rfl, hr1, hb1, hz1⟩
  clear hz1
  go_wp2
  go_loopw [6, 13] (fun c i wr => ∃ k bN : Nat, ∃ zs, k ≤ n ∧ i = .int .i64 k ∧ c = .int .u32 bN ∧ bN ≤ 1 ∧ Hid (zs.length = n) ∧ Digs 4294967296 zs ∧ Hid (val 4294967296 (zs.take k) + val 4294967296 (ys.take k) = val 4294967296 (xs.take k) + 4294967296 ^ k * bN) ∧
      Hid (zs.drop k = xs.drop k) ∧ Row .u32 114 wr w.heap.size zs ∧ Below w.heap.size w wr) (fun _ i _ => n - (intOf i).toNat)
  case atStart => exact ⟨0, 0, xs, Nat.zero_le _, rfl, rfl, by omega, HN, hdx, (by simp [val] : _ = _), (rfl : _ = _), hr1, hb1⟩
  case round =>
    obtain ⟨k, bN, zs, hk, rfl, rfl, hc, HZ, hzd, HV, HD, hrow, hbel⟩ := hrel
    by_cases h0 : k < n
    · have hout := hrow.cell k (by have := HZ.out; omega)
      obtain ⟨x, hx⟩ : ∃ x, x = zs.getD k 0 := ⟨_, rfl⟩
      rw [← hx] at hout
      have hxl : x < 4294967296 := hx ▸ hzd.getD (by decide) k
      have HXX : Hid (x = xs.getD k 0) := by show _ = _; rw [hx, getD_drop0 zs _ k HD.out]
      have hfr := hrow.frozen k
      clear hx
      by_cases hb : k < m
      · obtain ⟨b, off, rfl, hcs⟩ := ht.open k (by have := HM.out; omega)
        have hbw : b < w.heap.size := World.block_lt_of_cell? w ⟨b, off + k, none⟩ (hcs k (by have := HM.out; omega))
        have hcell := (hbel.cell (p := ⟨b, off + k, none⟩) hbw).trans (hcs k (by have := HM.out; omega))
        obtain ⟨y, hy⟩ : ∃ y, y = ys.getD k 0 := ⟨_, rfl⟩
        have hyl : y < 4294967296 := hy ▸ hdy.getD (by decide) k
        rw [← hy] at hcell
        have HYY : Hid (y = ys.getD k 0) := hy
        clear hy hcs
        go_wp2_with (go_at_call 57; refine (sub32_c x y bN _ hxl hyl hc).mono ?_; rintro e w2 ⟨d, b', rfl, hdl, hb', HS, rfl⟩)
        go_roundw
        case rel =>
          refine ⟨k + 1, b', zs.set k d, by omega, by go_num, rfl, hb', ?_, hzd.set _ _ hdl, ?_, ?_, hrow.set k _ _ rfl, hbel.setCell (Nat.le_refl _) _⟩
          · show _ = _
            rw [List.length_set]; exact HZ.out
          · show _ = _
            rw [val_set_succ _ _ _ _ (by have := HZ.out; omega), val_take_succ', val_take_succ', ← HXX.out, ← HYY.out, Nat.pow_succ]
            exact sub_step _ _ _ _ _ _ _ _ _ _ HV.out HS.out
          · show _ = _
            rw [drop_set_succ]; exact drop_succ_of _ _ _ HD.out
        case measure => simp [intOf]; omega
      · have hy0 : ys.getD k 0 = 0 := by
          rw [List.getD_eq_getElem?_getD, List.getElem?_eq_none (by have := HM.out; omega)]; rfl
        have HY0 : Hid (ys.getD k 0 = 0) := hy0
        clear hy0
        by_cases hc0 : bN = 0
        · have hcb : ((bN : Int) == 0) = true := by rw [beq_iff_eq]; omega
          have HV2 : Hid (val 4294967296 zs + val 4294967296 ys = val 4294967296 xs) := sub_rest 4294967296 zs xs ys k (by rw [HZ.out, HN.out]) (by have := HN.out; omega) (by have := HM.out; omega) HD.out (by have h := HV.out; rw [hc0] at h; exact h)
          have hsg := hrow.all
          clear hc0
          go_wp2_with (go_at_call 50; refine (trimmed_any (some ⟨w.heap.size, 0, none⟩) n n zs _ HZ.out (Nat.le_refl _) (by unfold maxLen; omega) hsg).mono ?_; rintro e w' ⟨rfl, rfl⟩)
          go_ret
          refine ⟨_, rfl, ?_, hbel⟩
          have h5 := LimR.row hrow hzd n 9001 (by rw [HZ.out]; exact Nat.le_refl _) (by omega)
          rw [show val 4294967296 zs = val 4294967296 xs - val 4294967296 ys by have := HV2.out; omega] at h5
          exact h5
        · have hcb : ((bN : Int) == 0) = false := by rw [beq_eq_false_iff_ne]; omega
          clear hc0
          go_wp2_with (go_at_call 57; refine (sub32_c x 0 bN _ hxl (by decide) hc).mono ?_; rintro e w2 ⟨d, b', rfl, hdl, hb', HS, rfl⟩)
          go_roundw
          case rel =>
            refine ⟨k + 1, b', zs.set k d, by omega, by go_num, rfl, hb', ?_, hzd.set _ _ hdl, ?_, ?_, hrow.set k _ _ rfl, hbel.setCell (Nat.le_refl _) _⟩
            · show _ = _
              rw [List.length_set]; exact HZ.out
            · show _ = _
              rw [val_set_succ _ _ _ _ (by have := HZ.out; omega), val_take_succ', val_take_succ', ← HXX.out, HY0.out, Nat.pow_succ]
              exact sub_step _ _ _ _ _ _ _ _ _ _ HV.out HS.out
            · show _ = _
              rw [drop_set_succ]; exact drop_succ_of _ _ _ HD.out
          case measure => simp [intOf]; omega
    · have hkn : k = n := by omega
      subst hkn
      have HV2 : Hid (val 4294967296 zs + val 4294967296 ys = val 4294967296 xs) := by
        show _ = _
        have h := HV.out
        rw [List.take_of_length_le (by have := HZ.out; omega), List.take_of_length_le (by have := HM.out; omega), List.take_of_length_le (by have := HN.out; omega)] at h
        have h3 := val_lt hzd
        rw [HZ.out] at h3
        have h4 := HLE.out
        have h5 : bN = 0 := by
          rcases Nat.eq_zero_or_pos bN with h6 | h6
          · exact h6
          · have : 4294967296 ^ k * 1 ≤ 4294967296 ^ k * bN := Nat.mul_le_mul_left _ h6
            omega
        rw [h5] at h
        omega
      have hsg := hrow.all
      go_wp2_with (go_at_call 50; refine (trimmed_any (some ⟨w.heap.size, 0, none⟩) k k zs _ HZ.out (Nat.le_refl _) (by unfold maxLen; omega) hsg).mono ?_; rintro e w' ⟨rfl, rfl⟩)
      go_ret
      refine ⟨_, rfl, ?_, hbel⟩
      have h5 := LimR.row hrow hzd k 9001 (by rw [HZ.out]; exact Nat.le_refl _) (by omega)
      rw [show val 4294967296 zs = val 4294967296 xs - val 4294967296 ys by have := HV2.out; omega] at h5
      exact h5
end Go.Proofs.Ytlonnhnfmcndfad
