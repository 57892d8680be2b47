/- Contracts of math/bits.LeadingZeros32, arith.shiftedUp and shiftDown; they prove no statement of the seat. -/
import Derived.Test.YtidpbdhhbeaijabDivQJ
import Derived.Test.YtidpbdhhbeaijabDivSJ
import Derived.Test.YtidpbdhhbeaijabJoin5
namespace Go.Proofs.Ytidpbdhhbeaijab
open Go.RowKit

set_option maxHeartbeats 2000000 in
theorem lead_any (x : Nat) (w : World) (hx : x < 4294967296) (h0 : 0 < x) :
    Calls Try.prog 82 #[.int .u32 x] w fun e w' => ∃ s : Nat, e = .returned (.int .i64 s) ∧ s ≤ 31 ∧ x * 2 ^ s < 4294967296 ∧ 2147483648 ≤ x * 2 ^ s ∧ w' = w := by
  obtain ⟨a, b, c⟩ := bitLen_bounds x (by omega) (by omega)
  generalize hB : Lib.bitLen x = k at a b c
  have hk : k ≤ 32 := by
    rcases Nat.lt_or_ge 32 k with h | h
    · have := Nat.pow_le_pow_right (show 0 < 2 by decide) (show 32 ≤ k - 1 by omega)
      omega
    · exact h
  have HB : Hid (Lib.bitLen ((x : Int)).toNat = k) := by show _ = _; simpa using hB
  have HA : Hid (x * 2 ^ (32 - k) < 4294967296 ∧ 2147483648 ≤ x * 2 ^ (32 - k)) := by
    have e : 2 ^ k * 2 ^ (32 - k) = 4294967296 := by rw [← Nat.pow_add, show k + (32 - k) = 32 by omega]
    have e2 : 2 ^ (k - 1) * 2 ^ (32 - k) = 2147483648 := by rw [← Nat.pow_add, show k - 1 + (32 - k) = 31 by omega]
    have hp : 0 < 2 ^ (32 - k) := Nat.pow_pos (by decide)
    refine ⟨?_, ?_⟩
    · rw [← e]; exact Nat.mul_lt_mul_of_pos_right b hp
    · rw [← e2]; exact Nat.mul_le_mul_right _ a
  clear a b hB
  go_enter Try.func82, Try.ntmps82
  go_wp2_with fail
  refine (len32_any x _ (by omega) (by omega)).mono ?_
  rintro e w1 ⟨rfl, rfl⟩
  rw [HB.out]
  go_wp2
  go_ret
  refine ⟨32 - k, ?_, by omega, HA.out.1, HA.out.2, rfl⟩
  rw [show (((32 - k : Nat) : Nat) : Int) = 32 - (k : Int) by omega]
  rfl

set_option maxHeartbeats 4000000 in
theorem shiftedUp_any (ao : Option Addr) (n cap s : Nat) (xs : List Nat) (w : World) (hn : xs.length = n) (h1 : n ≤ 9000) (hs : s ≤ 31) (hsg : Seg .u32 w ao xs) (hd : Digs 4294967296 xs) :
    Calls Try.prog 83 #[.slice ao n cap, .int .i64 s] w fun e w' => ∃ zs, e = .returned (.slice (some ⟨w.heap.size, 0, none⟩) (n + 1) (n + 1)) ∧ zs.length = n + 1 ∧ Digs 4294967296 zs ∧ val 4294967296 zs = val 4294967296 xs * 2 ^ s ∧ Row .u32 91 w' w.heap.size zs ∧ Below w.heap.size w w' := by
  have HN : Hid (xs.length = n) := hn
  clear hn
  go_enter Try.func83, Try.ntmps83
  go_wp2_with (first
    | (at_make; refine wpList_make_nums _ rfl _ _ 23 rfl 91 .u32 4 Try.underlying23 Try.info91 _ _ _ _ (n + 1) rfl rfl (by omega) (by omega) (by decide) (by omega) ?_; intro w1 hr1 hb1 hz1))
  go_loopw [15] (fun i wr => ∃ k : Nat, ∃ zs, k ≤ n ∧ i = .int .i64 k ∧ Hid (zs.length = n + 1) ∧ Digs 4294967296 zs ∧ Hid (zs.getD k 0 < 2 ^ s ∧ val 4294967296 (zs.take (k + 1)) = val 4294967296 (xs.take k) * 2 ^ s) ∧ Row .u32 91 wr w.heap.size zs ∧ Below w.heap.size w wr) (fun i _ => n - (intOf i).toNat)
  case atStart => exact ⟨0, _, Nat.zero_le _, rfl, (by simp : _ = _), Digs.replicate _ _ (by decide), (⟨by simp; exact Nat.pow_pos (by decide), by rw [take_zeros]; simp [val]⟩ : _ ∧ _), hr1, hb1⟩
  case round =>
    obtain ⟨k, z0, hk, rfl, HZ0, hzd0, HV0, hrow0, hbel0⟩ := hrel
    by_cases h0 : k < n
    · obtain ⟨b, off, rfl, hcs⟩ := hsg.open k (by have := HN.out; omega)
      have hbw : b < w.heap.size := World.block_lt_of_cell? w ⟨b, off + k, none⟩ (hcs k (by have := HN.out; omega))
      have hcell := (hbel0.cell (p := ⟨b, off + k, none⟩) hbw).trans (hcs k (by have := HN.out; omega))
      obtain ⟨x, hx⟩ : ∃ x, x = xs.getD k 0 := ⟨_, rfl⟩
      have hxl : x < 4294967296 := hx ▸ hd.getD (by decide) k
      rw [← hx] at hcell
      have HX : Hid (x = xs.getD k 0) := hx
      have hout := hrow0.cell k (by have := HZ0.out; omega)
      obtain ⟨z, hz⟩ : ∃ z, z = z0.getD k 0 := ⟨_, rfl⟩
      rw [← hz] at hout
      have HZZ : Hid (z = z0.getD k 0) := hz
      have hzl : z < 4294967296 := hz ▸ hzd0.getD (by decide) k
      have hfr := hrow0.frozen k
      obtain ⟨W, hW⟩ : ∃ W, W = x * 2 ^ s := ⟨_, rfl⟩
      obtain ⟨D, hD⟩ : ∃ D, D = z + W % 4294967296 := ⟨_, rfl⟩
      have hps : 2 ^ s ≤ 2147483648 := Nat.pow_le_pow_right (by decide) hs
      have hWl : W ≤ 9223372034707292160 := by
        have := Nat.mul_le_mul (show x ≤ 4294967295 by omega) hps
        omega
      have hwr : IntKind.u64.wrap ((x : Int) * 2 ^ s) = (W : Int) := by
        rw [show (x : Int) * 2 ^ s = (W : Int) by rw [hW, Int.natCast_mul, Int.natCast_pow]; rfl]
        exact wrap_u64 (by omega)
      have e32 : 2 ^ s * 2 ^ (32 - s) = 4294967296 := by rw [← Nat.pow_add, show s + (32 - s) = 32 by omega]
      have hlow : W % 4294967296 = 2 ^ s * (x % 2 ^ (32 - s)) := by
        rw [hW, ← e32, Nat.mul_comm x, Nat.mul_mod_mul_left]
      have hzs : z < 2 ^ s := by rw [hz]; exact HV0.out.1
      have hor : bits BinOp.or IntKind.u32 (z : Int) ((W : Int) % 4294967296) = (D : Int) := by
        rw [show (W : Int) % 4294967296 = ((W % 4294967296 : Nat) : Int) by omega, u32_or_nat _ _ hzl (by omega), hD]
        congr 1
        rw [Nat.or_comm, hlow, shl_or _ _ _ hzs, Nat.add_comm]
      have hDl : D < 4294967296 := by
        have h2 := u32_or_nat z (W % 4294967296) hzl (by omega)
        rw [hD, hlow]
        have h3 := Nat.mod_lt x (show 0 < 2 ^ (32 - s) from Nat.pow_pos (by decide))
        have h4 : 2 ^ s * (x % 2 ^ (32 - s) + 1) ≤ 2 ^ s * 2 ^ (32 - s) := Nat.mul_le_mul_left _ h3
        rw [e32, Nat.mul_add] at h4
        omega
      have HST : Hid (W / 4294967296 < 2 ^ s ∧ D + 4294967296 * (W / 4294967296) = x * 2 ^ s + z) := by
        refine ⟨?_, ?_⟩
        · rw [Nat.div_lt_iff_lt_mul (by decide), hW, Nat.mul_comm (2 ^ s)]
          exact Nat.mul_lt_mul_of_pos_right hxl (Nat.pow_pos (by decide))
        · rw [← hW, hD]; omega
      have hrow1 := hrow0.set k (D : Int) D rfl
      have hl1 : (z0.set k D).length = n + 1 := by rw [List.length_set]; exact HZ0.out
      have hout1 := hrow1.cell (k + 1) (by omega)
      have hfr1 := hrow1.frozen (k + 1)
      obtain ⟨z1, hz1⟩ : ∃ z1, z1 = (z0.set k D).getD (k + 1) 0 := ⟨_, rfl⟩
      rw [← hz1] at hout1
      clear hx hcs hr1 hb1 hz1 hz hW hD hps hlow hzs e32 hl1
      go_wp2
      go_roundw
      case rel =>
        refine ⟨k + 1, (z0.set k D).set (k + 1) (W / 4294967296), by omega, by go_num, ?_, (hzd0.set _ _ hDl).set _ _ (by omega), ⟨?_, ?_⟩, ?_, ?_⟩
        · show _ = _
          rw [List.length_set, List.length_set]; exact HZ0.out
        · rw [getD_set _ _ _ _ (by rw [List.length_set]; have := HZ0.out; omega), if_pos rfl]; exact HST.out.1
        · rw [val_set_succ _ _ _ _ (by rw [List.length_set]; have := HZ0.out; omega), val_set_succ _ _ _ _ (by have := HZ0.out; omega), val_take_succ', ← HX.out, Nat.pow_succ]
          have h5 := HV0.out.2
          rw [val_take_succ', ← HZZ.out] at h5
          exact up_step _ _ _ _ _ _ _ _ _ h5 HST.out.2
        · exact hrow1.set (k + 1) _ _ (by omega)
        · exact (hbel0.setCell (Nat.le_refl _) _).setCell (Nat.le_refl _) _
      case measure => simp [intOf]; omega
    · have hkn : k = n := by omega
      subst hkn
      go_wp2
      go_ret
      refine ⟨z0, rfl, HZ0.out, hzd0, ?_, hrow0, hbel0⟩
      have h := HV0.out.2
      rw [List.take_of_length_le (by have := HZ0.out; omega), List.take_of_length_le (by have := HN.out; omega)] at h
      exact h


theorem down_rel {Pk A d B E T N : Nat} (h : A + Pk * N = T) (hN : N = d + B * E) : (A + Pk * d) + Pk * B * E = T := by
  rw [← h, hN, Nat.mul_add, Nat.mul_assoc]; omega

/-- A hidden fact of any form. -/
structure Hid2 (p : Prop) : Prop where
  out : p

set_option maxHeartbeats 4000000 in
theorem shiftDown_any (g n cap s : Nat) (zs : List Nat) (w : World) (hn : zs.length = n) (h1 : n ≤ 9001) (hs : s ≤ 31) (hr : Row .u32 91 w g zs) (hd : Digs 4294967296 zs) :
    Calls Try.prog 85 #[.slice (some ⟨g, 0, none⟩) n cap, .int .i64 s] w fun e w' => ∃ v, e = .returned v ∧ ∃ rs, rs.length = n ∧ Digs 4294967296 rs ∧ val 4294967296 rs = val 4294967296 zs / 2 ^ s ∧ Row .u32 91 w' g rs ∧ Only g w w' := by
  have HN : Hid (zs.length = n) := hn
  clear hn
  go_enter Try.func85, Try.ntmps85
  go_wp2
  go_loopw [8] (fun i wr => ∃ k : Nat, ∃ rs, k ≤ n ∧ i = .int .i64 k ∧ Hid (rs.length = n) ∧ Digs 4294967296 rs ∧ Hid (rs.drop k = zs.drop k ∧ val 4294967296 (rs.take k) + 4294967296 ^ k * (val 4294967296 (zs.drop k) / 2 ^ s) = val 4294967296 zs / 2 ^ s) ∧ Row .u32 91 wr g rs ∧ Only g w wr) (fun i _ => n - (intOf i).toNat)
  case atStart => exact ⟨0, zs, Nat.zero_le _, rfl, HN, hd, (⟨rfl, by simp [val]⟩ : _ ∧ _), hr, Only.refl _ _⟩
  case round =>
    obtain ⟨k, rs, hk, rfl, HR, hrd, HV, hrow, honly⟩ := hrel
    by_cases h0 : k < n
    · have hc0 := hrow.cell k (by have := HR.out; omega)
      have ex : rs.getD k 0 = zs.getD k 0 := getD_drop0 rs zs k HV.out.1
      rw [ex] at hc0
      obtain ⟨x, hx⟩ : ∃ x, x = zs.getD k 0 := ⟨_, rfl⟩
      rw [← hx] at hc0
      have hxl : x < 4294967296 := hx ▸ hd.getD (by decide) k
      have hfr := hrow.frozen k
      obtain ⟨y, hy⟩ : ∃ y, y = zs.getD (k + 1) 0 := ⟨_, rfl⟩
      have hyl : y < 4294967296 := hy ▸ hd.getD (by decide) (k + 1)
      obtain ⟨W, hW⟩ : ∃ W, W = y * 4294967296 + x := ⟨_, rfl⟩
      have hWl : W ≤ 18446744073709551615 := by omega
      have hor : bits BinOp.or IntKind.u64 (x : Int) ((y : Int) * 4294967296) = (W : Int) := by
        rw [hW, ← or_shift y x hyl hxl, show (y : Int) * 4294967296 = ((y * 4294967296 : Nat) : Int) by omega, u64_or_nat _ _ (by omega) (by omega), u64_or_nat _ _ (by omega) (by omega), Nat.or_comm]
      have HE : Hid (val 4294967296 (zs.drop k) / 2 ^ s = W / 2 ^ s % 4294967296 + 4294967296 * (val 4294967296 (zs.drop (k + 1)) / 2 ^ s)) := by
        show _ = _
        have e32 : 2 ^ s * 2 ^ (32 - s) = 4294967296 := by rw [← Nat.pow_add, show s + (32 - s) = 32 by omega]
        have hps : 0 < 2 ^ s := Nat.pow_pos (by decide)
        have h5 : val 4294967296 (zs.drop (k + 1)) % 2 ^ s = y % 2 ^ s := by
          by_cases h2 : k + 1 < n
          · rw [val_drop_cons _ _ _ (by have := HN.out; omega), ← hy]
            generalize val 4294967296 (zs.drop (k + 1 + 1)) = D
            rw [← e32, Nat.mul_assoc, Nat.add_mul_mod_self_left]
          · rw [hy, List.drop_of_length_le (by have := HN.out; omega), List.getD_eq_getElem?_getD, List.getElem?_eq_none (by have := HN.out; omega)]
            rfl
        have h6 := down_step (2 ^ s) (2 ^ (32 - s)) x y (val 4294967296 (zs.drop (k + 1))) hps (by rw [e32]; exact hxl) h5
        rw [e32] at h6
        rw [val_drop_cons _ _ _ (by have := HN.out; omega), ← hx, h6, hW, Nat.add_comm (y * 4294967296), Nat.mul_comm y]
      have HD2 : ∀ d : Nat, d = W / 2 ^ s % 4294967296 → (rs.set k d).drop (k + 1) = zs.drop (k + 1) ∧ val 4294967296 ((rs.set k d).take (k + 1)) + 4294967296 ^ (k + 1) * (val 4294967296 (zs.drop (k + 1)) / 2 ^ s) = val 4294967296 zs / 2 ^ s := by
        intro d hd2
        refine ⟨by rw [drop_set_succ]; exact drop_succ_of _ _ _ HV.out.1, ?_⟩
        rw [val_set_succ _ _ _ _ (by have := HR.out; omega), Nat.pow_succ, hd2]
        exact down_rel HV.out.2 HE.out
      have HDD := Hid2.mk HD2
      clear HD2
      by_cases h2 : k + 1 < n
      · have hc1 := hrow.cell (k + 1) (by have := HR.out; omega)
        rw [getD_drop0 rs zs (k + 1) (drop_succ_of _ _ _ HV.out.1), ← hy] at hc1
        clear hx ex hW hy
        go_wp2
        go_roundw
        case rel =>
          refine ⟨k + 1, rs.set k (W / 2 ^ s % 4294967296), by omega, by go_num, ?_, hrd.set _ _ (Nat.mod_lt _ (by decide)), HDD.out _ rfl, hrow.set k _ _ (by rw [Int.natCast_emod, Int.natCast_ediv, Int.natCast_pow]; rfl), honly.set _ _⟩
          show _ = _
          rw [List.length_set]; exact HR.out
        case measure => simp [intOf]; omega
      · have hy0 : y = 0 := by rw [hy, List.getD_eq_getElem?_getD, List.getElem?_eq_none (by have := HN.out; omega)]; rfl
        have hWx : W = x := by rw [hW, hy0]; omega
        subst hWx
        clear hx ex hW hy hor hy0
        go_wp2
        go_roundw
        case rel =>
          refine ⟨k + 1, rs.set k (W / 2 ^ s % 4294967296), by omega, by go_num, ?_, hrd.set _ _ (Nat.mod_lt _ (by decide)), HDD.out _ rfl, hrow.set k _ _ (by rw [Int.natCast_emod, Int.natCast_ediv, Int.natCast_pow]; rfl), honly.set _ _⟩
          show _ = _
          rw [List.length_set]; exact HR.out
        case measure => simp [intOf]; omega
    · have hkn : k = n := by omega
      subst hkn
      go_wp2
      go_end0
      refine ⟨_, rfl, rs, HR.out, hrd, ?_, hrow, honly⟩
      have h := HV.out.2
      rw [List.take_of_length_le (by have := HR.out; omega), List.drop_of_length_le (by have := HN.out; omega)] at h
      simpa [val] using h
end Go.Proofs.Ytidpbdhhbeaijab
