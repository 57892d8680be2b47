/- Contract of suretyref01.less; it proves no statement of the seat. -/
import Derived.Test.YteefniagebcagaaGreatDoorJoin7Holds
namespace Go.Proofs.YteefniagebcagaaGreatDoor
open Go.RowKit

theorem less_step {P A Y X bo x y d bo' : Nat} (h : A + Y = X + P * bo) (hs : d + y + bo = x + 10 * bo') : (A + P * d) + (Y + P * y) = (X + P * x) + P * 10 * bo' := by
  have e := congrArg (P * ·) hs
  simp only [Nat.mul_add] at e
  rw [Nat.mul_assoc P 10 bo']
  omega

set_option maxHeartbeats 4000000 in
theorem rless_any (ao bo' : Option Addr) (n m cap cap' : Nat) (xs ys : List Nat) (w : World) (hn : xs.length = n) (hm : ys.length = m) (h1 : n ≤ 10000) (h2 : m ≤ n) (hs : Seg .i64 w ao xs) (ht : Seg .i64 w bo' ys) (hdx : Digs 10 xs) (hdy : Digs 10 ys) (hle : val 10 ys ≤ val 10 xs) :
    Calls Tryz.prog 98 #[.slice ao n cap, .slice bo' m cap'] w fun e w' => ∃ v, e = .returned v ∧ ∃ zs, Own .i64 3 w.heap.size w' v zs ∧ Digs 10 zs ∧ val 10 zs = val 10 xs - val 10 ys ∧ zs.length = n ∧ Below w.heap.size w w' := by
  have HN : Hid (xs.length = n) := hn
  have HM : Hid (ys.length = m) := hm
  have HLE : Hid (val 10 ys ≤ val 10 xs) := hle
  clear hn hm hle
  go_enter Tryz.func98, Tryz.ntmps98
  go_wp2
  go_loopw [5, 6, 7] (fun v c i wr => ∃ k bo : Nat, ∃ zs, k ≤ n ∧ i = .int .i64 k ∧ c = .int .i64 bo ∧ bo ≤ 1 ∧ Hid (zs.length = k) ∧ Digs 10 zs ∧ Own .i64 3 w.heap.size wr v zs ∧ Hid (val 10 zs + val 10 (ys.take k) = val 10 (xs.take k) + 10 ^ k * bo) ∧ Below w.heap.size w wr ∧ w.heap.size ≤ wr.heap.size) (fun _ _ i _ => n - (intOf i).toNat)
  case atStart => exact ⟨0, 0, [], Nat.zero_le _, rfl, rfl, by omega, (rfl : _ = _), Digs.nil _, Own.nil _ _ _ _, (by simp [val] : _ = _), Below.refl _ _, Nat.le_refl _⟩
  case round =>
    obtain ⟨k, bo, zs, hk, rfl, rfl, hc, HZ, hzd, hown, HV, hbel, hsz⟩ := hrel
    have hs' := hs.below hbel
    have ht' := ht.below hbel
    have HZL : Hid (zs.length ≤ 100000) := by show _ ≤ _; rw [HZ.out]; omega
    by_cases ha : k < n
    · obtain ⟨x, hx⟩ : ∃ x, x = xs.getD k 0 := ⟨_, rfl⟩
      obtain ⟨y, hy⟩ : ∃ y, y = ys.getD k 0 := ⟨_, rfl⟩
      have hx10 : x < 10 := hx ▸ hdx.getD (by decide) k
      have hy10 : y < 10 := hy ▸ hdy.getD (by decide) k
      have HX : Hid (x = xs.getD k 0) := hx
      have HY : Hid (y = ys.getD k 0) := hy
      clear hx hy
      obtain ⟨b, off, rfl, hc1⟩ := hs'.open k (by have := HN.out; omega)
      have c1 := hc1 k (by have := HN.out; omega)
      rw [← HX.out] at c1
      clear hc1 hs'
      by_cases hb : k < m
      · obtain ⟨b2, off2, rfl, hc2⟩ := ht'.open k (by have := HM.out; omega)
        have c2 := hc2 k (by have := HM.out; omega)
        rw [← HY.out] at c2
        clear hc2 ht'
        by_cases hng : x < bo + y
        · have g : decide ((x : Int) - (bo : Int) - (y : Int) < 0) = true := by simp; omega
          go_wp2_with (at_builtin; refine wpList_append_num rfl (.tmp 35) (.tmp 37) 37 rfl w.heap.size 3 .i64 8 Tryz.underlying37 Tryz.info3 (by decide) _ _ rfl hown _ (x + 10 - bo - y) (by omega) rfl HZL.out hsz ?_; intro v' w3 hown3 hblk3 hbel3)
          go_roundw
          case rel =>
            refine ⟨k + 1, 1, zs ++ [(x + 10 - bo - y)], by omega, by go_num, rfl, by omega, ?_, hzd.append (Digs.cons (by omega) (Digs.nil _)), hown3, ?_, hbel.trans hbel3, by have := hbel3.size; omega⟩
            · show _ = _
              rw [List.length_append, HZ.out]; rfl
            · show _ = _
              rw [val_snoc, HZ.out, val_take_succ', val_take_succ', ← HX.out, ← HY.out, Nat.pow_succ]
              exact less_step HV.out (by omega)
          case measure => simp [intOf]; omega
        · have g : decide ((x : Int) - (bo : Int) - (y : Int) < 0) = false := by simp; omega
          go_wp2_with (at_builtin; refine wpList_append_num rfl (.tmp 35) (.tmp 37) 37 rfl w.heap.size 3 .i64 8 Tryz.underlying37 Tryz.info3 (by decide) _ _ rfl hown _ (x - bo - y) (by omega) rfl HZL.out hsz ?_; intro v' w3 hown3 hblk3 hbel3)
          go_roundw
          case rel =>
            refine ⟨k + 1, 0, zs ++ [(x - bo - y)], by omega, by go_num, rfl, by omega, ?_, hzd.append (Digs.cons (by omega) (Digs.nil _)), hown3, ?_, hbel.trans hbel3, by have := hbel3.size; omega⟩
            · show _ = _
              rw [List.length_append, HZ.out]; rfl
            · show _ = _
              rw [val_snoc, HZ.out, val_take_succ', val_take_succ', ← HX.out, ← HY.out, Nat.pow_succ]
              exact less_step HV.out (by omega)
          case measure => simp [intOf]; omega
      · have HY0 : Hid (y = 0) := by
          show _ = _
          rw [HY.out, List.getD_eq_getElem?_getD, List.getElem?_eq_none (by have := HM.out; omega)]; rfl
        clear ht'
        by_cases hng : x < bo
        · have g : decide ((x : Int) - (bo : Int) < 0) = true := by simp; omega
          go_wp2_with (at_builtin; refine wpList_append_num rfl (.tmp 35) (.tmp 37) 37 rfl w.heap.size 3 .i64 8 Tryz.underlying37 Tryz.info3 (by decide) _ _ rfl hown _ (x + 10 - bo) (by omega) rfl HZL.out hsz ?_; intro v' w3 hown3 hblk3 hbel3)
          go_roundw
          case rel =>
            refine ⟨k + 1, 1, zs ++ [(x + 10 - bo)], by omega, by go_num, rfl, by omega, ?_, hzd.append (Digs.cons (by omega) (Digs.nil _)), hown3, ?_, hbel.trans hbel3, by have := hbel3.size; omega⟩
            · show _ = _
              rw [List.length_append, HZ.out]; rfl
            · show _ = _
              rw [val_snoc, HZ.out, val_take_succ', val_take_succ', ← HX.out, ← HY.out, Nat.pow_succ]
              exact less_step HV.out (by have := HY0.out; omega)
          case measure => simp [intOf]; omega
        · have g : decide ((x : Int) - (bo : Int) < 0) = false := by simp; omega
          go_wp2_with (at_builtin; refine wpList_append_num rfl (.tmp 35) (.tmp 37) 37 rfl w.heap.size 3 .i64 8 Tryz.underlying37 Tryz.info3 (by decide) _ _ rfl hown _ (x - bo) (by omega) rfl HZL.out hsz ?_; intro v' w3 hown3 hblk3 hbel3)
          go_roundw
          case rel =>
            refine ⟨k + 1, 0, zs ++ [(x - bo)], by omega, by go_num, rfl, by omega, ?_, hzd.append (Digs.cons (by omega) (Digs.nil _)), hown3, ?_, hbel.trans hbel3, by have := hbel3.size; omega⟩
            · show _ = _
              rw [List.length_append, HZ.out]; rfl
            · show _ = _
              rw [val_snoc, HZ.out, val_take_succ', val_take_succ', ← HX.out, ← HY.out, Nat.pow_succ]
              exact less_step HV.out (by have := HY0.out; omega)
          case measure => simp [intOf]; omega
    · have hkn : k = n := by omega
      subst hkn
      go_wp2
      go_ret
      have h5 := HV.out
      rw [List.take_of_length_le (by have := HM.out; omega), List.take_of_length_le (by have := HN.out; omega)] at h5
      have h6 := val_lt hzd
      rw [HZ.out] at h6
      have hb0 : bo = 0 := by
        rcases Nat.eq_zero_or_pos bo with e | e
        · exact e
        · have e1 : bo = 1 := by omega
          subst e1
          have := HLE.out
          omega
      subst hb0
      exact ⟨_, rfl, zs, hown, hzd, by have := HLE.out; omega, HZ.out, hbel⟩
end Go.Proofs.YteefniagebcagaaGreatDoor
