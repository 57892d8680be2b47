/- Contract of arith.mulLimbs; it proves no statement of the seat. -/
import Derived.Test.YteaejdcnpjhpoabSub
namespace Go.Proofs.Yteaejdcnpjhpoab
open Go.RowKit

theorem mul_step (A P Q c Z0 x Y y z d c' B : Nat) (h : A + P * Q * c = Z0 + P * x * Y) (hs : d + B * c' = x * y + z + c) :
    (A + P * Q * d) + P * Q * B * c' = (Z0 + P * Q * z) + P * x * (Y + Q * y) := by
  have e := congrArg (P * Q * ·) hs
  simp only [Nat.mul_add, Nat.mul_assoc] at *
  have e2 : Q * (x * y) = x * (Q * y) := by rw [← Nat.mul_assoc, Nat.mul_comm Q x, Nat.mul_assoc]
  rw [e2] at e
  omega

theorem mul_end (A P Q c V0 x Y X : Nat) (h : A + P * Q * c = V0 + P * x * Y) (h0 : V0 = X * Y) : A + P * Q * c = (X + P * x) * Y := by
  rw [h, h0, Nat.add_mul]

theorem take_zeros (B n k : Nat) : val B ((List.replicate n 0).take k) = 0 := by
  rw [List.take_replicate, val_replicate_zero]

set_option maxHeartbeats 4000000 in
theorem mulLimbs_any (ao bo : Option Addr) (n m cap cap' : Nat) (xs ys : List Nat) (w : World) (hn : xs.length = n) (hm : ys.length = m) (h1 : n ≤ 4000) (h2 : m ≤ 4000) (hs : Seg .u32 w ao xs) (ht : Seg .u32 w bo ys) (hdx : Digs 4294967296 xs) (hdy : Digs 4294967296 ys) :
    Calls Try.prog 31 #[.slice ao n cap, .slice bo m cap'] w fun e w' => ∃ v, e = .returned v ∧ LimR w' v (val 4294967296 xs * val 4294967296 ys) 9001 ∧ Below w.heap.size w w' := by
  have HN : Hid (xs.length = n) := hn
  have HM : Hid (ys.length = m) := hm
  clear hn hm
  go_enter Try.func31, Try.ntmps31
  go_wp2_with (first
    | (at_make; refine wpList_make_nums _ rfl _ _ 23 rfl 74 .u32 4 Try.underlying23 Try.info74 _ _ _ _ (n + m) rfl rfl (by omega) (by omega) (by decide) (by omega) ?_; intro w1 hr1 hb1 hz1))
  go_loopw [20] (fun i wr => ∃ k : Nat, ∃ zs, k ≤ n ∧ i = .int .i64 k ∧ Hid (zs.length = n + m) ∧ Digs 4294967296 zs ∧ Hid (val 4294967296 (zs.take (k + m)) = val 4294967296 (xs.take k) * val 4294967296 ys) ∧ Row .u32 74 wr w.heap.size zs ∧ Below w.heap.size w wr) (fun i _ => n - (intOf i).toNat)
  case atStart => exact ⟨0, _, Nat.zero_le _, rfl, (by simp : _ = _), Digs.replicate _ _ (by decide), (by rw [take_zeros]; simp [val] : _ = _), hr1, hb1⟩
  case round =>
    obtain ⟨k, z0, hk, rfl, HZ0, hzd0, HV0, hrow0, hbel0⟩ := hrel
    by_cases h0 : k < n
    · obtain ⟨b, off, rfl, hcs⟩ := hs.open k (by have := HN.out; omega)
      have hbw : b < w.heap.size := World.block_lt_of_cell? w ⟨b, off + k, none⟩ (hcs k (by have := HN.out; omega))
      have hcell := (hbel0.cell (p := ⟨b, off + k, none⟩) hbw).trans (hcs k (by have := HN.out; omega))
      obtain ⟨x, hx⟩ : ∃ x, x = xs.getD k 0 := ⟨_, rfl⟩
      have hxl : x < 4294967296 := hx ▸ hdx.getD (by decide) k
      rw [← hx] at hcell
      have HX : Hid (x = xs.getD k 0) := hx
      clear hx hcs hr1 hb1 hz1
      go_wp2
      go_loopw [8, 27] (fun c i wr => ∃ j cN : Nat, ∃ zs, j ≤ m ∧ i = .int .i64 j ∧ c = .int .u64 cN ∧ cN < 4294967296 ∧ Hid (zs.length = n + m) ∧ Digs 4294967296 zs ∧ Hid (zs.drop (k + j) = z0.drop (k + j)) ∧
        Hid (val 4294967296 (zs.take (k + j)) + 4294967296 ^ k * 4294967296 ^ j * cN = val 4294967296 (z0.take (k + j)) + 4294967296 ^ k * x * val 4294967296 (ys.take j)) ∧ Row .u32 74 wr w.heap.size zs ∧ Below w.heap.size w wr) (fun _ i _ => m - (intOf i).toNat)
      case atStart => exact ⟨0, 0, z0, Nat.zero_le _, rfl, rfl, by omega, HZ0, hzd0, (rfl : _ = _), (by simp [val] : _ = _), hrow0, hbel0⟩
      case round =>
        obtain ⟨j, cN, zs, hj, rfl, rfl, hcl, HZ, hzd, HD, HV, hrow, hbel⟩ := hrel
        by_cases hjm : j < m
        · obtain ⟨b2, off2, rfl, hcs2⟩ := ht.open j (by have := HM.out; omega)
          have hbw2 : b2 < w.heap.size := World.block_lt_of_cell? w ⟨b2, off2 + j, none⟩ (hcs2 j (by have := HM.out; omega))
          have hcell2 := (hbel.cell (p := ⟨b2, off2 + j, none⟩) hbw2).trans (hcs2 j (by have := HM.out; omega))
          obtain ⟨y, hy⟩ : ∃ y, y = ys.getD j 0 := ⟨_, rfl⟩
          have hyl : y < 4294967296 := hy ▸ hdy.getD (by decide) j
          rw [← hy] at hcell2
          have HY : Hid (y = ys.getD j 0) := hy
          have hout := hrow.cell (k + j) (by have := HZ.out; omega)
          obtain ⟨z, hz⟩ : ∃ z, z = zs.getD (k + j) 0 := ⟨_, rfl⟩
          rw [← hz] at hout
          have hzl : z < 4294967296 := hz ▸ hzd.getD (by decide) (k + j)
          have HZZ : Hid (z = z0.getD (k + j) 0) := by show _ = _; rw [hz, getD_drop0 zs _ (k + j) HD.out]
          have hfr := hrow.frozen (k + j)
          have hprod := mul_lt_word x y hxl hyl
          have hprod' : (x : Int) * (y : Int) ≤ 18446744065119617025 := by rw [← Int.natCast_mul]; omega
          have hprod0 : 0 ≤ (x : Int) * (y : Int) := by rw [← Int.natCast_mul]; omega
          clear hy hz hcs2 hprod
          go_wp2
          go_roundw
          case rel =>
            have hprod := mul_lt_word x y hxl hyl
            refine ⟨j + 1, (x * y + z + cN) / 4294967296, zs.set (k + j) ((x * y + z + cN) % 4294967296), by omega, by go_num, rfl, by omega, ?_, hzd.set _ _ (Nat.mod_lt _ (by decide)), ?_, ?_, hrow.set (k + j) _ _ rfl, hbel.setCell (Nat.le_refl _) _⟩
            · show _ = _
              rw [List.length_set]; exact HZ.out
            · show _ = _
              rw [← Nat.add_assoc, drop_set_succ]; exact drop_succ_of _ _ _ HD.out
            · show _ = _
              rw [← Nat.add_assoc, val_set_succ _ _ _ _ (by have := HZ.out; omega), val_take_succ', val_take_succ', ← HZZ.out, ← HY.out, Nat.pow_succ, Nat.pow_add, ← Nat.mul_assoc]
              exact mul_step _ _ _ _ _ _ _ _ _ _ _ _ HV.out (Nat.mod_add_div _ _)
          case measure => simp [intOf]; omega
        · have hjm' : j = m := by omega
          subst hjm'
          have hout := hrow.cell (k + j) (by have := HZ.out; omega)
          obtain ⟨z, hz⟩ : ∃ z, z = zs.getD (k + j) 0 := ⟨_, rfl⟩
          rw [← hz] at hout
          have hfr := hrow.frozen (k + j)
          clear hz
          go_wp2
          go_roundw
          case rel =>
            refine ⟨k + 1, zs.set (k + j) cN, by omega, by go_num, ?_, hzd.set _ _ hcl, ?_, hrow.set (k + j) _ _ rfl, hbel.setCell (Nat.le_refl _) _⟩
            · show _ = _
              rw [List.length_set]; exact HZ.out
            · show _ = _
              have h5 := HV.out
              rw [List.take_of_length_le (l := ys) (by have := HM.out; omega)] at h5
              rw [show k + 1 + j = k + j + 1 by omega, val_set_succ _ _ _ _ (by have := HZ.out; omega), val_take_succ', ← HX.out, Nat.pow_add]
              exact mul_end _ _ _ _ _ _ _ _ h5 HV0.out
          case measure => simp [intOf]; omega
    · have hkn : k = n := by omega
      subst hkn
      have HV2 : Hid (val 4294967296 z0 = val 4294967296 xs * val 4294967296 ys) := by
        show _ = _
        have h := HV0.out
        rw [List.take_of_length_le (by have := HZ0.out; omega), List.take_of_length_le (by have := HN.out; omega)] at h
        exact h
      have hsg := hrow0.all
      go_wp2_with (go_at_call 47; refine (trimmed_any (some ⟨w.heap.size, 0, none⟩) (k + m) (k + m) z0 _ HZ0.out (Nat.le_refl _) (by unfold maxLen; omega) hsg).mono ?_; rintro e w' ⟨rfl, rfl⟩)
      go_ret
      refine ⟨_, rfl, ?_, hbel0⟩
      have h5 := LimR.row hrow0 hzd0 (k + m) 9001 (by rw [HZ0.out]; exact Nat.le_refl _) (by omega)
      rw [HV2.out] at h5
      exact h5
end Go.Proofs.Yteaejdcnpjhpoab
