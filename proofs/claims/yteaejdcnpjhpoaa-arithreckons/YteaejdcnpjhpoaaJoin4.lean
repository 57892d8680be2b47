/- Joined: CmpR, RPlus, RLess, CmpA: words and contracts; no statement of the seat is proved here. -/
import Derived.Test.YteaejdcnpjhpoaaJoin0
import Derived.Test.YteaejdcnpjhpoaaJoin3
import Derived.BigQuiet
/- Contract of suretyref01.cmp; it proves no statement of the seat. -/
namespace Go.Proofs.Yteaejdcnpjhpoaa
open Go.RowKit

theorem Try.underlying29 : Try.prog.underlying 29 = some (.slice 3) := by kernel_rfl
theorem Try.underlying3 : Try.prog.underlying 3 = some (.int .i64) := by kernel_rfl
theorem Try.info3 : (Try.prog.info? 3).map (fun i => (i.zero, i.size, i.bytes)) = some (some (.int .i64 0), 1, 8) := by kernel_rfl

set_option maxHeartbeats 1000000 in
theorem rcmp_any (ao bo : Option Addr) (n m cap cap' : Nat) (xs ys : List Nat) (w : World) (hn : xs.length = n) (hm : ys.length = m) (h1 : n ≤ 100000) (h2 : m ≤ 100000) (hs : Seg .i64 w ao xs) (ht : Seg .i64 w bo ys) (hdx : Digs 10 xs) (hdy : Digs 10 ys) :
    Calls Try.prog 62 #[.slice ao n cap, .slice bo m cap'] w fun e w' => e = .returned (.int .i64 (cmpL 10 xs ys)) ∧ Below w.heap.size w w' := by
  have HN : Hid (xs.length = n) := hn
  have HM : Hid (ys.length = m) := hm
  clear hn hm
  by_cases hne : n = m
  · subst hne
    have hb : (((n : Nat) : Int) != ((n : Nat) : Int)) = false := by simp
    go_enter Try.func62, Try.ntmps62
    go_wp2
    go_loopw [5] (fun i wr => ∃ k : Nat, k ≤ n ∧ i = .int .i64 ((k : Int) - 1) ∧ Hid (xs.drop k = ys.drop k) ∧ Below w.heap.size w wr) (fun i _ => (intOf i + 1).toNat)
    case atStart => exact ⟨n, Nat.le_refl _, rfl, (by rw [List.drop_of_length_le (by have := HN.out; omega), List.drop_of_length_le (by have := HM.out; omega)] : _ = _), Below.refl _ _⟩
    case round =>
      obtain ⟨k, hk, rfl, HD, hbel⟩ := hrel
      have hs' := hs.below hbel
      have ht' := ht.below hbel
      by_cases h0 : 0 < k
      · obtain ⟨j, rfl⟩ : ∃ j, k = j + 1 := ⟨k - 1, by omega⟩
        obtain ⟨b, off, rfl, hc⟩ := hs'.open j (by have := HN.out; omega)
        obtain ⟨b2, off2, rfl, hc2⟩ := ht'.open j (by have := HM.out; omega)
        have c1 := hc j (by have := HN.out; omega)
        have c2 := hc2 j (by have := HM.out; omega)
        obtain ⟨x, hx⟩ : ∃ x, x = xs.getD j 0 := ⟨_, rfl⟩
        obtain ⟨y, hy⟩ : ∃ y, y = ys.getD j 0 := ⟨_, rfl⟩
        rw [← hx] at c1
        rw [← hy] at c2
        have HX : Hid (x = xs.getD j 0) := hx
        have HY : Hid (y = ys.getD j 0) := hy
        clear hx hy hc hc2 hs' ht'
        by_cases hlt : x < y
        · go_wp2
          go_region
          go_wp2
          go_ret
          refine ⟨?_, hbel.drew⟩
          rw [cmpL_lt (by rw [HN.out, HM.out]) (val_lt_at hdx (by rw [HN.out, HM.out]) j (by have := HN.out; omega) HD.out (by rw [← HX.out, ← HY.out]; exact hlt))]
          rfl
        · by_cases hgt : y < x
          · go_wp2
            go_region
            go_wp2
            go_region
            go_wp2
            go_ret
            refine ⟨?_, hbel.drew.drew⟩
            rw [cmpL_gt (by rw [HN.out, HM.out]) (val_lt_at hdy (by rw [HN.out, HM.out]) j (by have := HM.out; omega) HD.out.symm (by rw [← HX.out, ← HY.out]; exact hgt))]
            rfl
          · have hxy : x = y := by omega
            go_wp2
            go_region
            go_wp2
            go_region
            go_wp2
            go_roundw
            case rel =>
              refine ⟨j, by omega, rfl, ?_, hbel.drew.drew⟩
              show _ = _
              rw [drop_cons_getD xs j (by have := HN.out; omega), drop_cons_getD ys j (by have := HM.out; omega), ← HX.out, ← HY.out, HD.out, hxy]
            case measure => simp [intOf]
      · have hk0 : k = 0 := by omega
        subst hk0
        go_wp2
        go_ret
        refine ⟨?_, hbel⟩
        have e : xs = ys := by simpa using HD.out
        rw [e, cmpL_eq]
        rfl
  · have hb : (((n : Nat) : Int) != ((m : Nat) : Int)) = true := by rw [bne_iff_ne]; omega
    by_cases hlt : n < m
    · have HR : Hid (cmpL 10 xs ys = -1) := by show _ = _; unfold cmpL; rw [if_pos (by rw [HN.out, HM.out]; exact hlt)]
      go_enter Try.func62, Try.ntmps62
      go_wp2
      go_ret
      exact ⟨by rw [HR.out]; rfl, Below.refl _ _⟩
    · have HR : Hid (cmpL 10 xs ys = 1) := by show _ = _; unfold cmpL; rw [if_neg (by rw [HN.out, HM.out]; omega), if_pos (by rw [HN.out, HM.out]; omega)]
      go_enter Try.func62, Try.ntmps62
      go_wp2
      go_ret
      exact ⟨by rw [HR.out]; rfl, Below.refl _ _⟩
end Go.Proofs.Yteaejdcnpjhpoaa
/- Contract of suretyref01.plus; it proves no statement of the seat. -/
namespace Go.Proofs.Yteaejdcnpjhpoaa
open Go.RowKit

set_option maxHeartbeats 4000000 in
theorem rplus_any (ao bo : Option Addr) (n m cap cap' : Nat) (xs ys : List Nat) (w : World) (hn : xs.length = n) (hm : ys.length = m) (h1 : n ≤ 10000) (h2 : m ≤ 10000) (hs : Seg .i64 w ao xs) (ht : Seg .i64 w bo ys) (hdx : Digs 10 xs) (hdy : Digs 10 ys) :
    Calls Try.prog 61 #[.slice ao n cap, .slice bo m cap'] w fun e w' => ∃ v, e = .returned v ∧ ∃ zs, Own .i64 3 w.heap.size w' v zs ∧ Digs 10 zs ∧ val 10 zs = val 10 xs + val 10 ys ∧ n ≤ zs.length ∧ m ≤ zs.length ∧ (zs.length ≤ n ∨ zs.length ≤ m ∨ ((zs.length = n + 1 ∨ zs.length = m + 1) ∧ 10 ^ (zs.length - 1) ≤ val 10 zs)) ∧ Below w.heap.size w w' := by
  have HN : Hid (xs.length = n) := hn
  have HM : Hid (ys.length = m) := hm
  clear hn hm
  go_enter Try.func61, Try.ntmps61
  go_wp2
  go_loopw [5, 6, 7] (fun v c i wr => ∃ k cN : Nat, ∃ zs, i = .int .i64 k ∧ c = .int .i64 cN ∧ cN ≤ 1 ∧ Hid (zs.length = k) ∧ k ≤ 10001 ∧ Digs 10 zs ∧ Own .i64 3 w.heap.size wr v zs ∧ Hid (val 10 zs + 10 ^ k * cN = val 10 (xs.take k) + val 10 (ys.take k)) ∧
      Hid (k ≤ n ∨ k ≤ m ∨ ((k = n + 1 ∨ k = m + 1) ∧ n < k ∧ m < k ∧ cN = 0 ∧ 10 ^ (k - 1) ≤ val 10 zs)) ∧ Below w.heap.size w wr ∧ w.heap.size ≤ wr.heap.size) (fun _ _ i _ => 20000 - (intOf i).toNat)
  case atStart => exact ⟨0, 0, [], rfl, rfl, by omega, (rfl : _ = _), by omega, Digs.nil _, Own.nil _ _ _ _, (by simp [val] : _ = _), (Or.inl (Nat.zero_le _) : _ ∨ _), Below.refl _ _, Nat.le_refl _⟩
  case round =>
    obtain ⟨k, cN, zs, rfl, rfl, hc, HZ, hk, hzd, hown, HV, HK, hbel, hsz⟩ := hrel
    have hs' := hs.below hbel
    have ht' := ht.below hbel
    have HZL : Hid (zs.length ≤ 100000) := by show _ ≤ _; rw [HZ.out]; omega
    obtain ⟨x, hx⟩ : ∃ x, x = xs.getD k 0 := ⟨_, rfl⟩
    obtain ⟨y, hy⟩ : ∃ y, y = ys.getD k 0 := ⟨_, rfl⟩
    have hx10 : x < 10 := hx ▸ hdx.getD (by decide) k
    have hy10 : y < 10 := hy ▸ hdy.getD (by decide) k
    have HX : Hid (x = xs.getD k 0) := hx
    have HY : Hid (y = ys.getD k 0) := hy
    clear hx hy
    by_cases ha : k < n
    · obtain ⟨b, off, rfl, hc1⟩ := hs'.open k (by have := HN.out; omega)
      have c1 := hc1 k (by have := HN.out; omega)
      rw [← HX.out] at c1
      clear hc1 hs'
      by_cases hb : k < m
      · obtain ⟨b2, off2, rfl, hc2⟩ := ht'.open k (by have := HM.out; omega)
        have c2 := hc2 k (by have := HM.out; omega)
        rw [← HY.out] at c2
        clear hc2 ht'
        go_wp2_with (at_builtin; refine wpList_append_num rfl (.tmp 44) (.tmp 47) 29 rfl w.heap.size 3 .i64 8 Try.underlying29 Try.info3 (by decide) _ _ rfl hown _ ((cN + x + y) % 10) (by omega) rfl HZL.out hsz ?_; intro v' w3 hown3 hblk3 hbel3)
        go_roundw
        case rel =>
          refine ⟨k + 1, (cN + x + y) / 10, zs ++ [(cN + x + y) % 10], by go_num, rfl, by omega, ?_, by omega, hzd.append (Digs.cons (Nat.mod_lt _ (by decide)) (Digs.nil _)), hown3, ?_, ?_, hbel.trans hbel3, by have := hbel3.size; omega⟩
          · show _ = _
            rw [List.length_append, HZ.out]; rfl
          · show _ = _
            rw [val_snoc, HZ.out, val_take_succ', val_take_succ', ← HX.out, ← HY.out, Nat.pow_succ]
            exact plus_step _ _ _ _ _ _ _ _ _ _ HV.out (Nat.mod_add_div _ _)
          · exact Or.inl (by omega)
        case measure => simp [intOf]; omega
      · have hy0 : y = 0 := by
          rw [HY.out, List.getD_eq_getElem?_getD, List.getElem?_eq_none (by have := HM.out; omega)]; rfl
        have HY0 : Hid (y = 0) := hy0
        clear hy0 ht'
        go_wp2_with (at_builtin; refine wpList_append_num rfl (.tmp 44) (.tmp 47) 29 rfl w.heap.size 3 .i64 8 Try.underlying29 Try.info3 (by decide) _ _ rfl hown _ ((cN + x) % 10) (by omega) rfl HZL.out hsz ?_; intro v' w3 hown3 hblk3 hbel3)
        go_roundw
        case rel =>
          refine ⟨k + 1, (cN + x) / 10, zs ++ [(cN + x) % 10], by go_num, rfl, by omega, ?_, by omega, hzd.append (Digs.cons (Nat.mod_lt _ (by decide)) (Digs.nil _)), hown3, ?_, ?_, hbel.trans hbel3, by have := hbel3.size; omega⟩
          · show _ = _
            rw [List.length_append, HZ.out]; rfl
          · show _ = _
            rw [val_snoc, HZ.out, val_take_succ', val_take_succ', ← HX.out, ← HY.out, Nat.pow_succ]
            exact plus_step _ _ _ _ _ _ _ _ _ _ HV.out (by rw [HY0.out]; exact Nat.mod_add_div _ _)
          · exact Or.inl (by omega)
        case measure => simp [intOf]; omega
    · have hx0 : x = 0 := by
        rw [HX.out, List.getD_eq_getElem?_getD, List.getElem?_eq_none (by have := HN.out; omega)]; rfl
      have HX0 : Hid (x = 0) := hx0
      clear hx0 hs'
      by_cases hb : k < m
      · obtain ⟨b2, off2, rfl, hc2⟩ := ht'.open k (by have := HM.out; omega)
        have c2 := hc2 k (by have := HM.out; omega)
        rw [← HY.out] at c2
        clear hc2 ht'
        go_wp2_with (at_builtin; refine wpList_append_num rfl (.tmp 44) (.tmp 47) 29 rfl w.heap.size 3 .i64 8 Try.underlying29 Try.info3 (by decide) _ _ rfl hown _ ((cN + y) % 10) (by omega) rfl HZL.out hsz ?_; intro v' w3 hown3 hblk3 hbel3)
        go_roundw
        case rel =>
          refine ⟨k + 1, (cN + y) / 10, zs ++ [(cN + y) % 10], by go_num, rfl, by omega, ?_, by omega, hzd.append (Digs.cons (Nat.mod_lt _ (by decide)) (Digs.nil _)), hown3, ?_, ?_, hbel.trans hbel3, by have := hbel3.size; omega⟩
          · show _ = _
            rw [List.length_append, HZ.out]; rfl
          · show _ = _
            rw [val_snoc, HZ.out, val_take_succ', val_take_succ', ← HX.out, ← HY.out, Nat.pow_succ]
            exact plus_step _ _ _ _ _ _ _ _ _ _ HV.out (by rw [HX0.out]; exact Nat.mod_add_div _ _)
          · exact Or.inr (Or.inl (by omega))
        case measure => simp [intOf]; omega
      · have hy0 : y = 0 := by
          rw [HY.out, List.getD_eq_getElem?_getD, List.getElem?_eq_none (by have := HM.out; omega)]; rfl
        have HY0 : Hid (y = 0) := hy0
        clear hy0 ht'
        by_cases hc0 : 0 < cN
        · have hkb : k ≤ 10000 := by
            rcases HK.out with h | h | h
            · omega
            · omega
            · omega
          have HK2 : Hid (k = n ∨ k = m) := by
            show _ ∨ _
            rcases HK.out with h | h | h
            · left; omega
            · right; omega
            · omega
          go_wp2_with (at_builtin; refine wpList_append_num rfl (.tmp 44) (.tmp 47) 29 rfl w.heap.size 3 .i64 8 Try.underlying29 Try.info3 (by decide) _ _ rfl hown _ (cN % 10) (by omega) rfl HZL.out hsz ?_; intro v' w3 hown3 hblk3 hbel3)
          go_roundw
          case rel =>
            refine ⟨k + 1, cN / 10, zs ++ [cN % 10], by go_num, rfl, by omega, ?_, by omega, hzd.append (Digs.cons (Nat.mod_lt _ (by decide)) (Digs.nil _)), hown3, ?_, ?_, hbel.trans hbel3, by have := hbel3.size; omega⟩
            · show _ = _
              rw [List.length_append, HZ.out]; rfl
            · show _ = _
              rw [val_snoc, HZ.out, val_take_succ', val_take_succ', ← HX.out, ← HY.out, Nat.pow_succ]
              exact plus_step _ _ _ _ _ _ _ _ _ _ HV.out (by rw [HX0.out, HY0.out]; exact Nat.mod_add_div _ _)
            · refine Or.inr (Or.inr ⟨by have := HK2.out; omega, by omega, by omega, by omega, ?_⟩)
              have h1 : cN % 10 = 1 := by omega
              rw [val_snoc, HZ.out, h1, Nat.mul_one, Nat.add_sub_cancel]
              exact Nat.le_add_left _ _
          case measure => simp [intOf]; omega
        · have hc00 : cN = 0 := by omega
          go_wp2
          go_ret
          refine ⟨_, rfl, zs, hown, hzd, ?_, by rw [HZ.out]; omega, by rw [HZ.out]; omega, ?_, hbel⟩
          · have h3 := HV.out
            rw [List.take_of_length_le (by have := HN.out; omega), List.take_of_length_le (by have := HM.out; omega), hc00, Nat.mul_zero, Nat.add_zero] at h3
            exact h3
          · rw [HZ.out]
            rcases HK.out with h | h | h
            · exact Or.inl h
            · exact Or.inr (Or.inl h)
            · exact Or.inr (Or.inr ⟨h.1, h.2.2.2.2⟩)
end Go.Proofs.Yteaejdcnpjhpoaa
/- Contract of suretyref01.less; it proves no statement of the seat. -/
namespace Go.Proofs.Yteaejdcnpjhpoaa
open Go.RowKit

theorem less_step {P A Y X bo x y d bo' : Nat} (h : A + Y = X + P * bo) (hs : d + y + bo = x + 10 * bo') : (A + P * d) + (Y + P * y) = (X + P * x) + P * 10 * bo' := by
  have e := congrArg (P * ·) hs
  simp only [Nat.mul_add] at e
  rw [Nat.mul_assoc P 10 bo']
  omega

set_option maxHeartbeats 4000000 in
theorem rless_any (ao bo' : Option Addr) (n m cap cap' : Nat) (xs ys : List Nat) (w : World) (hn : xs.length = n) (hm : ys.length = m) (h1 : n ≤ 10000) (h2 : m ≤ n) (hs : Seg .i64 w ao xs) (ht : Seg .i64 w bo' ys) (hdx : Digs 10 xs) (hdy : Digs 10 ys) (hle : val 10 ys ≤ val 10 xs) :
    Calls Try.prog 63 #[.slice ao n cap, .slice bo' m cap'] w fun e w' => ∃ v, e = .returned v ∧ ∃ zs, Own .i64 3 w.heap.size w' v zs ∧ Digs 10 zs ∧ val 10 zs = val 10 xs - val 10 ys ∧ zs.length = n ∧ Below w.heap.size w w' := by
  have HN : Hid (xs.length = n) := hn
  have HM : Hid (ys.length = m) := hm
  have HLE : Hid (val 10 ys ≤ val 10 xs) := hle
  clear hn hm hle
  go_enter Try.func63, Try.ntmps63
  go_wp2
  go_loopw [5, 6, 7] (fun v c i wr => ∃ k bo : Nat, ∃ zs, k ≤ n ∧ i = .int .i64 k ∧ c = .int .i64 bo ∧ bo ≤ 1 ∧ Hid (zs.length = k) ∧ Digs 10 zs ∧ Own .i64 3 w.heap.size wr v zs ∧ Hid (val 10 zs + val 10 (ys.take k) = val 10 (xs.take k) + 10 ^ k * bo) ∧ Below w.heap.size w wr ∧ w.heap.size ≤ wr.heap.size) (fun _ _ i _ => n - (intOf i).toNat)
  case atStart => exact ⟨0, 0, [], Nat.zero_le _, rfl, rfl, by omega, (rfl : _ = _), Digs.nil _, Own.nil _ _ _ _, (by simp [val] : _ = _), Below.refl _ _, Nat.le_refl _⟩
  case round =>
    obtain ⟨k, bo, zs, hk, rfl, rfl, hc, HZ, hzd, hown, HV, hbel, hsz⟩ := hrel
    have hs' := hs.below hbel
    have ht' := ht.below hbel
    have HZL : Hid (zs.length ≤ 100000) := by show _ ≤ _; rw [HZ.out]; omega
    by_cases ha : k < n
    · obtain ⟨x, hx⟩ : ∃ x, x = xs.getD k 0 := ⟨_, rfl⟩
      obtain ⟨y, hy⟩ : ∃ y, y = ys.getD k 0 := ⟨_, rfl⟩
      have hx10 : x < 10 := hx ▸ hdx.getD (by decide) k
      have hy10 : y < 10 := hy ▸ hdy.getD (by decide) k
      have HX : Hid (x = xs.getD k 0) := hx
      have HY : Hid (y = ys.getD k 0) := hy
      clear hx hy
      obtain ⟨b, off, rfl, hc1⟩ := hs'.open k (by have := HN.out; omega)
      have c1 := hc1 k (by have := HN.out; omega)
      rw [← HX.out] at c1
      clear hc1 hs'
      by_cases hb : k < m
      · obtain ⟨b2, off2, rfl, hc2⟩ := ht'.open k (by have := HM.out; omega)
        have c2 := hc2 k (by have := HM.out; omega)
        rw [← HY.out] at c2
        clear hc2 ht'
        by_cases hng : x < bo + y
        · have g : decide ((x : Int) - (bo : Int) - (y : Int) < 0) = true := by simp; omega
          go_wp2_with (at_builtin; refine wpList_append_num rfl (.tmp 35) (.tmp 37) 29 rfl w.heap.size 3 .i64 8 Try.underlying29 Try.info3 (by decide) _ _ rfl hown _ (x + 10 - bo - y) (by omega) rfl HZL.out hsz ?_; intro v' w3 hown3 hblk3 hbel3)
          go_roundw
          case rel =>
            refine ⟨k + 1, 1, zs ++ [(x + 10 - bo - y)], by omega, by go_num, rfl, by omega, ?_, hzd.append (Digs.cons (by omega) (Digs.nil _)), hown3, ?_, hbel.trans hbel3, by have := hbel3.size; omega⟩
            · show _ = _
              rw [List.length_append, HZ.out]; rfl
            · show _ = _
              rw [val_snoc, HZ.out, val_take_succ', val_take_succ', ← HX.out, ← HY.out, Nat.pow_succ]
              exact less_step HV.out (by omega)
          case measure => simp [intOf]; omega
        · have g : decide ((x : Int) - (bo : Int) - (y : Int) < 0) = false := by simp; omega
          go_wp2_with (at_builtin; refine wpList_append_num rfl (.tmp 35) (.tmp 37) 29 rfl w.heap.size 3 .i64 8 Try.underlying29 Try.info3 (by decide) _ _ rfl hown _ (x - bo - y) (by omega) rfl HZL.out hsz ?_; intro v' w3 hown3 hblk3 hbel3)
          go_roundw
          case rel =>
            refine ⟨k + 1, 0, zs ++ [(x - bo - y)], by omega, by go_num, rfl, by omega, ?_, hzd.append (Digs.cons (by omega) (Digs.nil _)), hown3, ?_, hbel.trans hbel3, by have := hbel3.size; omega⟩
            · show _ = _
              rw [List.length_append, HZ.out]; rfl
            · show _ = _
              rw [val_snoc, HZ.out, val_take_succ', val_take_succ', ← HX.out, ← HY.out, Nat.pow_succ]
              exact less_step HV.out (by omega)
          case measure => simp [intOf]; omega
      · have HY0 : Hid (y = 0) := by
          show _ = _
          rw [HY.out, List.getD_eq_getElem?_getD, List.getElem?_eq_none (by have := HM.out; omega)]; rfl
        clear ht'
        by_cases hng : x < bo
        · have g : decide ((x : Int) - (bo : Int) < 0) = true := by simp; omega
          go_wp2_with (at_builtin; refine wpList_append_num rfl (.tmp 35) (.tmp 37) 29 rfl w.heap.size 3 .i64 8 Try.underlying29 Try.info3 (by decide) _ _ rfl hown _ (x + 10 - bo) (by omega) rfl HZL.out hsz ?_; intro v' w3 hown3 hblk3 hbel3)
          go_roundw
          case rel =>
            refine ⟨k + 1, 1, zs ++ [(x + 10 - bo)], by omega, by go_num, rfl, by omega, ?_, hzd.append (Digs.cons (by omega) (Digs.nil _)), hown3, ?_, hbel.trans hbel3, by have := hbel3.size; omega⟩
            · show _ = _
              rw [List.length_append, HZ.out]; rfl
            · show _ = _
              rw [val_snoc, HZ.out, val_take_succ', val_take_succ', ← HX.out, ← HY.out, Nat.pow_succ]
              exact less_step HV.out (by have := HY0.out; omega)
          case measure => simp [intOf]; omega
        · have g : decide ((x : Int) - (bo : Int) < 0) = false := by simp; omega
          go_wp2_with (at_builtin; refine wpList_append_num rfl (.tmp 35) (.tmp 37) 29 rfl w.heap.size 3 .i64 8 Try.underlying29 Try.info3 (by decide) _ _ rfl hown _ (x - bo) (by omega) rfl HZL.out hsz ?_; intro v' w3 hown3 hblk3 hbel3)
          go_roundw
          case rel =>
            refine ⟨k + 1, 0, zs ++ [(x - bo)], by omega, by go_num, rfl, by omega, ?_, hzd.append (Digs.cons (by omega) (Digs.nil _)), hown3, ?_, hbel.trans hbel3, by have := hbel3.size; omega⟩
            · show _ = _
              rw [List.length_append, HZ.out]; rfl
            · show _ = _
              rw [val_snoc, HZ.out, val_take_succ', val_take_succ', ← HX.out, ← HY.out, Nat.pow_succ]
              exact less_step HV.out (by have := HY0.out; omega)
          case measure => simp [intOf]; omega
    · have hkn : k = n := by omega
      subst hkn
      go_wp2
      go_ret
      have h5 := HV.out
      rw [List.take_of_length_le (by have := HM.out; omega), List.take_of_length_le (by have := HN.out; omega)] at h5
      have h6 := val_lt hzd
      rw [HZ.out] at h6
      have hb0 : bo = 0 := by
        rcases Nat.eq_zero_or_pos bo with e | e
        · exact e
        · have e1 : bo = 1 := by omega
          subst e1
          have := HLE.out
          omega
      subst hb0
      exact ⟨_, rfl, zs, hown, hzd, by have := HLE.out; omega, HZ.out, hbel⟩
end Go.Proofs.Yteaejdcnpjhpoaa
/- Contract of arith.cmpLimbs; it proves no statement of the seat. -/
namespace Go.Proofs.Yteaejdcnpjhpoaa
open Go.RowKit

set_option maxHeartbeats 1000000 in
theorem cmpLimbs_any (ao bo : Option Addr) (n m cap cap' : Nat) (xs ys : List Nat) (w : World) (hn : xs.length = n) (hm : ys.length = m) (h1 : n ≤ 100000) (h2 : m ≤ 100000) (hs : Seg .u32 w ao xs) (ht : Seg .u32 w bo ys) (hdx : Digs 4294967296 xs) (hdy : Digs 4294967296 ys) :
    Calls Try.prog 54 #[.slice ao n cap, .slice bo m cap'] w fun e w' => e = .returned (.int .i64 (cmpL 4294967296 xs ys)) ∧ Below w.heap.size w w' := by
  have HN : Hid (xs.length = n) := hn
  have HM : Hid (ys.length = m) := hm
  clear hn hm
  by_cases hne : n = m
  · subst hne
    have hb : (((n : Nat) : Int) != ((n : Nat) : Int)) = false := by simp
    go_enter Try.func54, Try.ntmps54
    go_wp2
    go_loopw [5] (fun i wr => ∃ k : Nat, k ≤ n ∧ i = .int .i64 ((k : Int) - 1) ∧ Hid (xs.drop k = ys.drop k) ∧ Below w.heap.size w wr) (fun i _ => (intOf i + 1).toNat)
    case atStart => exact ⟨n, Nat.le_refl _, rfl, (by rw [List.drop_of_length_le (by have := HN.out; omega), List.drop_of_length_le (by have := HM.out; omega)] : _ = _), Below.refl _ _⟩
    case round =>
      obtain ⟨k, hk, rfl, HD, hbel⟩ := hrel
      have hs' := hs.below hbel
      have ht' := ht.below hbel
      by_cases h0 : 0 < k
      · obtain ⟨j, rfl⟩ : ∃ j, k = j + 1 := ⟨k - 1, by omega⟩
        obtain ⟨b, off, rfl, hc⟩ := hs'.open j (by have := HN.out; omega)
        obtain ⟨b2, off2, rfl, hc2⟩ := ht'.open j (by have := HM.out; omega)
        have c1 := hc j (by have := HN.out; omega)
        have c2 := hc2 j (by have := HM.out; omega)
        obtain ⟨x, hx⟩ : ∃ x, x = xs.getD j 0 := ⟨_, rfl⟩
        obtain ⟨y, hy⟩ : ∃ y, y = ys.getD j 0 := ⟨_, rfl⟩
        rw [← hx] at c1
        rw [← hy] at c2
        have HX : Hid (x = xs.getD j 0) := hx
        have HY : Hid (y = ys.getD j 0) := hy
        clear hx hy hc hc2 hs' ht'
        by_cases hlt : x < y
        · go_wp2
          go_region
          go_wp2
          go_ret
          refine ⟨?_, hbel.drew⟩
          rw [cmpL_lt (by rw [HN.out, HM.out]) (val_lt_at hdx (by rw [HN.out, HM.out]) j (by have := HN.out; omega) HD.out (by rw [← HX.out, ← HY.out]; exact hlt))]
          rfl
        · by_cases hgt : y < x
          · go_wp2
            go_region
            go_wp2
            go_region
            go_wp2
            go_ret
            refine ⟨?_, hbel.drew.drew⟩
            rw [cmpL_gt (by rw [HN.out, HM.out]) (val_lt_at hdy (by rw [HN.out, HM.out]) j (by have := HM.out; omega) HD.out.symm (by rw [← HX.out, ← HY.out]; exact hgt))]
            rfl
          · have hxy : x = y := by omega
            go_wp2
            go_region
            go_wp2
            go_region
            go_wp2
            go_roundw
            case rel =>
              refine ⟨j, by omega, rfl, ?_, hbel.drew.drew⟩
              show _ = _
              rw [drop_cons_getD xs j (by have := HN.out; omega), drop_cons_getD ys j (by have := HM.out; omega), ← HX.out, ← HY.out, HD.out, hxy]
            case measure => simp [intOf]
      · have hk0 : k = 0 := by omega
        subst hk0
        go_wp2
        go_ret
        refine ⟨?_, hbel⟩
        have e : xs = ys := by simpa using HD.out
        rw [e, cmpL_eq]
        rfl
  · have hb : (((n : Nat) : Int) != ((m : Nat) : Int)) = true := by rw [bne_iff_ne]; omega
    by_cases hlt : n < m
    · have HR : Hid (cmpL 4294967296 xs ys = -1) := by show _ = _; unfold cmpL; rw [if_pos (by rw [HN.out, HM.out]; exact hlt)]
      go_enter Try.func54, Try.ntmps54
      go_wp2
      go_ret
      exact ⟨by rw [HR.out]; rfl, Below.refl _ _⟩
    · have HR : Hid (cmpL 4294967296 xs ys = 1) := by show _ = _; unfold cmpL; rw [if_neg (by rw [HN.out, HM.out]; omega), if_pos (by rw [HN.out, HM.out]; omega)]
      go_enter Try.func54, Try.ntmps54
      go_wp2
      go_ret
      exact ⟨by rw [HR.out]; rfl, Below.refl _ _⟩
end Go.Proofs.Yteaejdcnpjhpoaa
