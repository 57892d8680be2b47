/- Contract of suretyref01.plus; it proves no statement of the seat. -/
import Derived.Test.YteaejdcnpjhpoaaCmpRJ
namespace Go.Proofs.Yteaejdcnpjhpoaa
open Go.RowKit

set_option maxHeartbeats 4000000 in
theorem rplus_any (ao bo : Option Addr) (n m cap cap' : Nat) (xs ys : List Nat) (w : World) (hn : xs.length = n) (hm : ys.length = m) (h1 : n ≤ 10000) (h2 : m ≤ 10000) (hs : Seg .i64 w ao xs) (ht : Seg .i64 w bo ys) (hdx : Digs 10 xs) (hdy : Digs 10 ys) :
    Calls Try.prog 61 #[.slice ao n cap, .slice bo m cap'] w fun e w' => ∃ v, e = .returned v ∧ ∃ zs, Own .i64 3 w.heap.size w' v zs ∧ Digs 10 zs ∧ val 10 zs = val 10 xs + val 10 ys ∧ n ≤ zs.length ∧ m ≤ zs.length ∧ (zs.length ≤ n ∨ zs.length ≤ m ∨ ((zs.length = n + 1 ∨ zs.length = m + 1) ∧ 10 ^ (zs.length - 1) ≤ val 10 zs)) ∧ Below w.heap.size w w' := by
  have HN : Hid (xs.length = n) := hn
  have HM : Hid (ys.length = m) := hm
  clear hn hm
  go_enter Try.func61, Try.ntmps61
  go_wp2
  go_loopw [5, 6, 7] (fun v c i wr => ∃ k cN : Nat, ∃ zs, i = .int .i64 k ∧ c = .int .i64 cN ∧ cN ≤ 1 ∧ Hid (zs.length = k) ∧ k ≤ 10001 ∧ Digs 10 zs ∧ Own .i64 3 w.heap.size wr v zs ∧ Hid (val 10 zs + 10 ^ k * cN = val 10 (xs.take k) + val 10 (ys.take k)) ∧
      Hid (k ≤ n ∨ k ≤ m ∨ ((k = n + 1 ∨ k = m + 1) ∧ n < k ∧ m < k ∧ cN = 0 ∧ 10 ^ (k - 1) ≤ val 10 zs)) ∧ Below w.heap.size w wr ∧ w.heap.size ≤ wr.heap.size) (fun _ _ i _ => 20000 - (intOf i).toNat)
  case atStart => exact ⟨0, 0, [], rfl, rfl, by omega, (rfl : _ = _), by omega, Digs.nil _, Own.nil _ _ _ _, (by simp [val] : _ = _), (Or.inl (Nat.zero_le _) : _ ∨ _), Below.refl _ _, Nat.le_refl _⟩
  case round =>
    obtain ⟨k, cN, zs, rfl, rfl, hc, HZ, hk, hzd, hown, HV, HK, hbel, hsz⟩ := hrel
    have hs' := hs.below hbel
    have ht' := ht.below hbel
    have HZL : Hid (zs.length ≤ 100000) := by show _ ≤ _; rw [HZ.out]; omega
    obtain ⟨x, hx⟩ : ∃ x, x = xs.getD k 0 := ⟨_, rfl⟩
    obtain ⟨y, hy⟩ : ∃ y, y = ys.getD k 0 := ⟨_, rfl⟩
    have hx10 : x < 10 := hx ▸ hdx.getD (by decide) k
    have hy10 : y < 10 := hy ▸ hdy.getD (by decide) k
    have HX : Hid (x = xs.getD k 0) := hx
    have HY : Hid (y = ys.getD k 0) := hy
    clear hx hy
    by_cases ha : k < n
    · obtain ⟨b, off, rfl, hc1⟩ := hs'.open k (by have := HN.out; omega)
      have c1 := hc1 k (by have := HN.out; omega)
      rw [← HX.out] at c1
      clear hc1 hs'
      by_cases hb : k < m
      · obtain ⟨b2, off2, rfl, hc2⟩ := ht'.open k (by have := HM.out; omega)
        have c2 := hc2 k (by have := HM.out; omega)
        rw [← HY.out] at c2
        clear hc2 ht'
        go_wp2_with (at_builtin; refine wpList_append_num rfl (.tmp 44) (.tmp 47) 29 rfl w.heap.size 3 .i64 8 Try.underlying29 Try.info3 (by decide) _ _ rfl hown _ ((cN + x + y) % 10) (by omega) rfl HZL.out hsz ?_; intro v' w3 hown3 hblk3 hbel3)
        go_roundw
        case rel =>
          refine ⟨k + 1, (cN + x + y) / 10, zs ++ [(cN + x + y) % 10], by go_num, rfl, by omega, ?_, by omega, hzd.append (Digs.cons (Nat.mod_lt _ (by decide)) (Digs.nil _)), hown3, ?_, ?_, hbel.trans hbel3, by have := hbel3.size; omega⟩
          · show _ = _
            rw [List.length_append, HZ.out]; rfl
          · show _ = _
            rw [val_snoc, HZ.out, val_take_succ', val_take_succ', ← HX.out, ← HY.out, Nat.pow_succ]
            exact plus_step _ _ _ _ _ _ _ _ _ _ HV.out (Nat.mod_add_div _ _)
          · exact Or.inl (by omega)
        case measure => simp [intOf]; omega
      · have hy0 : y = 0 := by
          rw [HY.out, List.getD_eq_getElem?_getD, List.getElem?_eq_none (by have := HM.out; omega)]; rfl
        have HY0 : Hid (y = 0) := hy0
        clear hy0 ht'
        go_wp2_with (at_builtin; refine wpList_append_num rfl (.tmp 44) (.tmp 47) 29 rfl w.heap.size 3 .i64 8 Try.underlying29 Try.info3 (by decide) _ _ rfl hown _ ((cN + x) % 10) (by omega) rfl HZL.out hsz ?_; intro v' w3 hown3 hblk3 hbel3)
        go_roundw
        case rel =>
          refine ⟨k + 1, (cN + x) / 10, zs ++ [(cN + x) % 10], by go_num, rfl, by omega, ?_, by omega, hzd.append (Digs.cons (Nat.mod_lt _ (by decide)) (Digs.nil _)), hown3, ?_, ?_, hbel.trans hbel3, by have := hbel3.size; omega⟩
          · show _ = _
            rw [List.length_append, HZ.out]; rfl
          · show _ = _
            rw [val_snoc, HZ.out, val_take_succ', val_take_succ', ← HX.out, ← HY.out, Nat.pow_succ]
            exact plus_step _ _ _ _ _ _ _ _ _ _ HV.out (by rw [HY0.out]; exact Nat.mod_add_div _ _)
          · exact Or.inl (by omega)
        case measure => simp [intOf]; omega
    · have hx0 : x = 0 := by
        rw [HX.out, List.getD_eq_getElem?_getD, List.getElem?_eq_none (by have := HN.out; omega)]; rfl
      have HX0 : Hid (x = 0) := hx0
      clear hx0 hs'
      by_cases hb : k < m
      · obtain ⟨b2, off2, rfl, hc2⟩ := ht'.open k (by have := HM.out; omega)
        have c2 := hc2 k (by have := HM.out; omega)
        rw [← HY.out] at c2
        clear hc2 ht'
        go_wp2_with (at_builtin; refine wpList_append_num rfl (.tmp 44) (.tmp 47) 29 rfl w.heap.size 3 .i64 8 Try.underlying29 Try.info3 (by decide) _ _ rfl hown _ ((cN + y) % 10) (by omega) rfl HZL.out hsz ?_; intro v' w3 hown3 hblk3 hbel3)
        go_roundw
        case rel =>
          refine ⟨k + 1, (cN + y) / 10, zs ++ [(cN + y) % 10], by go_num, rfl, by omega, ?_, by omega, hzd.append (Digs.cons (Nat.mod_lt _ (by decide)) (Digs.nil _)), hown3, ?_, ?_, hbel.trans hbel3, by have := hbel3.size; omega⟩
          · show _ = _
            rw [List.length_append, HZ.out]; rfl
          · show _ = _
            rw [val_snoc, HZ.out, val_take_succ', val_take_succ', ← HX.out, ← HY.out, Nat.pow_succ]
            exact plus_step _ _ _ _ _ _ _ _ _ _ HV.out (by rw [HX0.out]; exact Nat.mod_add_div _ _)
          · exact Or.inr (Or.inl (by omega))
        case measure => simp [intOf]; omega
      · have hy0 : y = 0 := by
          rw [HY.out, List.getD_eq_getElem?_getD, List.getElem?_eq_none (by have := HM.out; omega)]; rfl
        have HY0 : Hid (y = 0) := hy0
        clear hy0 ht'
        by_cases hc0 : 0 < cN
        · have hkb : k ≤ 10000 := by
            rcases HK.out with h | h | h
            · omega
            · omega
            · omega
          have HK2 : Hid (k = n ∨ k = m) := by
            show _ ∨ _
            rcases HK.out with h | h | h
            · left; omega
            · right; omega
            · omega
          go_wp2_with (at_builtin; refine wpList_append_num rfl (.tmp 44) (.tmp 47) 29 rfl w.heap.size 3 .i64 8 Try.underlying29 Try.info3 (by decide) _ _ rfl hown _ (cN % 10) (by omega) rfl HZL.out hsz ?_; intro v' w3 hown3 hblk3 hbel3)
          go_roundw
          case rel =>
            refine ⟨k + 1, cN / 10, zs ++ [cN % 10], by go_num, rfl, by omega, ?_, by omega, hzd.append (Digs.cons (Nat.mod_lt _ (by decide)) (Digs.nil _)), hown3, ?_, ?_, hbel.trans hbel3, by have := hbel3.size; omega⟩
            · show _ = _
              rw [List.length_append, HZ.out]; rfl
            · show _ = _
              rw [val_snoc, HZ.out, val_take_succ', val_take_succ', ← HX.out, ← HY.out, Nat.pow_succ]
              exact plus_step _ _ _ _ _ _ _ _ _ _ HV.out (by rw [HX0.out, HY0.out]; exact Nat.mod_add_div _ _)
            · refine Or.inr (Or.inr ⟨by have := HK2.out; omega, by omega, by omega, by omega, ?_⟩)
              have h1 : cN % 10 = 1 := by omega
              rw [val_snoc, HZ.out, h1, Nat.mul_one, Nat.add_sub_cancel]
              exact Nat.le_add_left _ _
          case measure => simp [intOf]; omega
        · have hc00 : cN = 0 := by omega
          go_wp2
          go_ret
          refine ⟨_, rfl, zs, hown, hzd, ?_, by rw [HZ.out]; omega, by rw [HZ.out]; omega, ?_, hbel⟩
          · have h3 := HV.out
            rw [List.take_of_length_le (by have := HN.out; omega), List.take_of_length_le (by have := HM.out; omega), hc00, Nat.mul_zero, Nat.add_zero] at h3
            exact h3
          · rw [HZ.out]
            rcases HK.out with h | h | h
            · exact Or.inl h
            · exact Or.inr (Or.inl h)
            · exact Or.inr (Or.inr ⟨h.1, h.2.2.2.2⟩)
end Go.Proofs.Yteaejdcnpjhpoaa
