/- Joined: CmpR, RPlus, RBig, RTrim: words and contracts; no statement of the seat is proved here. -/
import Derived.Test.YteefniagebcagaaGreatDoorJoin2Tells
import Derived.Test.YteefniagebcagaaGreatDoorJoin4Tells
import Derived.BigQuiet
import Derived.Deep.RegionWith
/- Contract of suretyref01.cmp; it proves no statement of the seat. -/
namespace Go.Proofs.YteefniagebcagaaGreatDoor
open Go.RowKit

theorem Tryz.underlying37 : Tryz.prog.underlying 37 = some (.slice 3) := by kernel_rfl
theorem Tryz.underlying3 : Tryz.prog.underlying 3 = some (.int .i64) := by kernel_rfl
theorem Tryz.info3 : (Tryz.prog.info? 3).map (fun i => (i.zero, i.size, i.bytes)) = some (some (.int .i64 0), 1, 8) := by kernel_rfl

set_option maxHeartbeats 1000000 in
theorem rcmp_any (ao bo : Option Addr) (n m cap cap' : Nat) (xs ys : List Nat) (w : World) (hn : xs.length = n) (hm : ys.length = m) (h1 : n ≤ 100000) (h2 : m ≤ 100000) (hs : Seg .i64 w ao xs) (ht : Seg .i64 w bo ys) (hdx : Digs 10 xs) (hdy : Digs 10 ys) :
    Calls Tryz.prog 97 #[.slice ao n cap, .slice bo m cap'] w fun e w' => e = .returned (.int .i64 (cmpL 10 xs ys)) ∧ Below w.heap.size w w' := by
  have HN : Hid (xs.length = n) := hn
  have HM : Hid (ys.length = m) := hm
  clear hn hm
  by_cases hne : n = m
  · subst hne
    have hb : (((n : Nat) : Int) != ((n : Nat) : Int)) = false := by simp
    go_enter Tryz.func97, Tryz.ntmps97
    go_wp2
    go_loopw [5] (fun i wr => ∃ k : Nat, k ≤ n ∧ i = .int .i64 ((k : Int) - 1) ∧ Hid (xs.drop k = ys.drop k) ∧ Below w.heap.size w wr) (fun i _ => (intOf i + 1).toNat)
    case atStart => exact ⟨n, Nat.le_refl _, rfl, (by rw [List.drop_of_length_le (by have := HN.out; omega), List.drop_of_length_le (by have := HM.out; omega)] : _ = _), Below.refl _ _⟩
    case round =>
      obtain ⟨k, hk, rfl, HD, hbel⟩ := hrel
      have hs' := hs.below hbel
      have ht' := ht.below hbel
      by_cases h0 : 0 < k
      · obtain ⟨j, rfl⟩ : ∃ j, k = j + 1 := ⟨k - 1, by omega⟩
        obtain ⟨b, off, rfl, hc⟩ := hs'.open j (by have := HN.out; omega)
        obtain ⟨b2, off2, rfl, hc2⟩ := ht'.open j (by have := HM.out; omega)
        have c1 := hc j (by have := HN.out; omega)
        have c2 := hc2 j (by have := HM.out; omega)
        obtain ⟨x, hx⟩ : ∃ x, x = xs.getD j 0 := ⟨_, rfl⟩
        obtain ⟨y, hy⟩ : ∃ y, y = ys.getD j 0 := ⟨_, rfl⟩
        rw [← hx] at c1
        rw [← hy] at c2
        have HX : Hid (x = xs.getD j 0) := hx
        have HY : Hid (y = ys.getD j 0) := hy
        clear hx hy hc hc2 hs' ht'
        by_cases hlt : x < y
        · go_wp2
          go_region
          go_wp2
          go_ret
          refine ⟨?_, hbel.drew⟩
          rw [cmpL_lt (by rw [HN.out, HM.out]) (val_lt_at hdx (by rw [HN.out, HM.out]) j (by have := HN.out; omega) HD.out (by rw [← HX.out, ← HY.out]; exact hlt))]
          rfl
        · by_cases hgt : y < x
          · go_wp2
            go_region
            go_wp2
            go_region
            go_wp2
            go_ret
            refine ⟨?_, hbel.drew.drew⟩
            rw [cmpL_gt (by rw [HN.out, HM.out]) (val_lt_at hdy (by rw [HN.out, HM.out]) j (by have := HM.out; omega) HD.out.symm (by rw [← HX.out, ← HY.out]; exact hgt))]
            rfl
          · have hxy : x = y := by omega
            go_wp2
            go_region
            go_wp2
            go_region
            go_wp2
            go_roundw
            case rel =>
              refine ⟨j, by omega, rfl, ?_, hbel.drew.drew⟩
              show _ = _
              rw [drop_cons_getD xs j (by have := HN.out; omega), drop_cons_getD ys j (by have := HM.out; omega), ← HX.out, ← HY.out, HD.out, hxy]
            case measure => simp [intOf]
      · have hk0 : k = 0 := by omega
        subst hk0
        go_wp2
        go_ret
        refine ⟨?_, hbel⟩
        have e : xs = ys := by simpa using HD.out
        rw [e, cmpL_eq]
        rfl
  · have hb : (((n : Nat) : Int) != ((m : Nat) : Int)) = true := by rw [bne_iff_ne]; omega
    by_cases hlt : n < m
    · have HR : Hid (cmpL 10 xs ys = -1) := by show _ = _; unfold cmpL; rw [if_pos (by rw [HN.out, HM.out]; exact hlt)]
      go_enter Tryz.func97, Tryz.ntmps97
      go_wp2
      go_ret
      exact ⟨by rw [HR.out]; rfl, Below.refl _ _⟩
    · have HR : Hid (cmpL 10 xs ys = 1) := by show _ = _; unfold cmpL; rw [if_neg (by rw [HN.out, HM.out]; omega), if_pos (by rw [HN.out, HM.out]; omega)]
      go_enter Tryz.func97, Tryz.ntmps97
      go_wp2
      go_ret
      exact ⟨by rw [HR.out]; rfl, Below.refl _ _⟩
end Go.Proofs.YteefniagebcagaaGreatDoor
/- Contract of suretyref01.plus; it proves no statement of the seat. -/
namespace Go.Proofs.YteefniagebcagaaGreatDoor
open Go.RowKit

set_option maxHeartbeats 4000000 in
theorem rplus_any (ao bo : Option Addr) (n m cap cap' : Nat) (xs ys : List Nat) (w : World) (hn : xs.length = n) (hm : ys.length = m) (h1 : n ≤ 10000) (h2 : m ≤ 10000) (hs : Seg .i64 w ao xs) (ht : Seg .i64 w bo ys) (hdx : Digs 10 xs) (hdy : Digs 10 ys) :
    Calls Tryz.prog 96 #[.slice ao n cap, .slice bo m cap'] w fun e w' => ∃ v, e = .returned v ∧ ∃ zs, Own .i64 3 w.heap.size w' v zs ∧ Digs 10 zs ∧ val 10 zs = val 10 xs + val 10 ys ∧ n ≤ zs.length ∧ m ≤ zs.length ∧ (zs.length ≤ n ∨ zs.length ≤ m ∨ ((zs.length = n + 1 ∨ zs.length = m + 1) ∧ 10 ^ (zs.length - 1) ≤ val 10 zs)) ∧ Below w.heap.size w w' := by
  have HN : Hid (xs.length = n) := hn
  have HM : Hid (ys.length = m) := hm
  clear hn hm
  go_enter Tryz.func96, Tryz.ntmps96
  go_wp2
  go_loopw [5, 6, 7] (fun v c i wr => ∃ k cN : Nat, ∃ zs, i = .int .i64 k ∧ c = .int .i64 cN ∧ cN ≤ 1 ∧ Hid (zs.length = k) ∧ k ≤ 10001 ∧ Digs 10 zs ∧ Own .i64 3 w.heap.size wr v zs ∧ Hid (val 10 zs + 10 ^ k * cN = val 10 (xs.take k) + val 10 (ys.take k)) ∧
      Hid (k ≤ n ∨ k ≤ m ∨ ((k = n + 1 ∨ k = m + 1) ∧ n < k ∧ m < k ∧ cN = 0 ∧ 10 ^ (k - 1) ≤ val 10 zs)) ∧ Below w.heap.size w wr ∧ w.heap.size ≤ wr.heap.size) (fun _ _ i _ => 20000 - (intOf i).toNat)
  case atStart => exact ⟨0, 0, [], rfl, rfl, by omega, (rfl : _ = _), by omega, Digs.nil _, Own.nil _ _ _ _, (by simp [val] : _ = _), (Or.inl (Nat.zero_le _) : _ ∨ _), Below.refl _ _, Nat.le_refl _⟩
  case round =>
    obtain ⟨k, cN, zs, rfl, rfl, hc, HZ, hk, hzd, hown, HV, HK, hbel, hsz⟩ := hrel
    have hs' := hs.below hbel
    have ht' := ht.below hbel
    have HZL : Hid (zs.length ≤ 100000) := by show _ ≤ _; rw [HZ.out]; omega
    obtain ⟨x, hx⟩ : ∃ x, x = xs.getD k 0 := ⟨_, rfl⟩
    obtain ⟨y, hy⟩ : ∃ y, y = ys.getD k 0 := ⟨_, rfl⟩
    have hx10 : x < 10 := hx ▸ hdx.getD (by decide) k
    have hy10 : y < 10 := hy ▸ hdy.getD (by decide) k
    have HX : Hid (x = xs.getD k 0) := hx
    have HY : Hid (y = ys.getD k 0) := hy
    clear hx hy
    by_cases ha : k < n
    · obtain ⟨b, off, rfl, hc1⟩ := hs'.open k (by have := HN.out; omega)
      have c1 := hc1 k (by have := HN.out; omega)
      rw [← HX.out] at c1
      clear hc1 hs'
      by_cases hb : k < m
      · obtain ⟨b2, off2, rfl, hc2⟩ := ht'.open k (by have := HM.out; omega)
        have c2 := hc2 k (by have := HM.out; omega)
        rw [← HY.out] at c2
        clear hc2 ht'
        go_wp2_with (at_builtin; refine wpList_append_num rfl (.tmp 44) (.tmp 47) 37 rfl w.heap.size 3 .i64 8 Tryz.underlying37 Tryz.info3 (by decide) _ _ rfl hown _ ((cN + x + y) % 10) (by omega) rfl HZL.out hsz ?_; intro v' w3 hown3 hblk3 hbel3)
        go_roundw
        case rel =>
          refine ⟨k + 1, (cN + x + y) / 10, zs ++ [(cN + x + y) % 10], by go_num, rfl, by omega, ?_, by omega, hzd.append (Digs.cons (Nat.mod_lt _ (by decide)) (Digs.nil _)), hown3, ?_, ?_, hbel.trans hbel3, by have := hbel3.size; omega⟩
          · show _ = _
            rw [List.length_append, HZ.out]; rfl
          · show _ = _
            rw [val_snoc, HZ.out, val_take_succ', val_take_succ', ← HX.out, ← HY.out, Nat.pow_succ]
            exact plus_step _ _ _ _ _ _ _ _ _ _ HV.out (Nat.mod_add_div _ _)
          · exact Or.inl (by omega)
        case measure => simp [intOf]; omega
      · have hy0 : y = 0 := by
          rw [HY.out, List.getD_eq_getElem?_getD, List.getElem?_eq_none (by have := HM.out; omega)]; rfl
        have HY0 : Hid (y = 0) := hy0
        clear hy0 ht'
        go_wp2_with (at_builtin; refine wpList_append_num rfl (.tmp 44) (.tmp 47) 37 rfl w.heap.size 3 .i64 8 Tryz.underlying37 Tryz.info3 (by decide) _ _ rfl hown _ ((cN + x) % 10) (by omega) rfl HZL.out hsz ?_; intro v' w3 hown3 hblk3 hbel3)
        go_roundw
        case rel =>
          refine ⟨k + 1, (cN + x) / 10, zs ++ [(cN + x) % 10], by go_num, rfl, by omega, ?_, by omega, hzd.append (Digs.cons (Nat.mod_lt _ (by decide)) (Digs.nil _)), hown3, ?_, ?_, hbel.trans hbel3, by have := hbel3.size; omega⟩
          · show _ = _
            rw [List.length_append, HZ.out]; rfl
          · show _ = _
            rw [val_snoc, HZ.out, val_take_succ', val_take_succ', ← HX.out, ← HY.out, Nat.pow_succ]
            exact plus_step _ _ _ _ _ _ _ _ _ _ HV.out (by rw [HY0.out]; exact Nat.mod_add_div _ _)
          · exact Or.inl (by omega)
        case measure => simp [intOf]; omega
    · have hx0 : x = 0 := by
        rw [HX.out, List.getD_eq_getElem?_getD, List.getElem?_eq_none (by have := HN.out; omega)]; rfl
      have HX0 : Hid (x = 0) := hx0
      clear hx0 hs'
      by_cases hb : k < m
      · obtain ⟨b2, off2, rfl, hc2⟩ := ht'.open k (by have := HM.out; omega)
        have c2 := hc2 k (by have := HM.out; omega)
        rw [← HY.out] at c2
        clear hc2 ht'
        go_wp2_with (at_builtin; refine wpList_append_num rfl (.tmp 44) (.tmp 47) 37 rfl w.heap.size 3 .i64 8 Tryz.underlying37 Tryz.info3 (by decide) _ _ rfl hown _ ((cN + y) % 10) (by omega) rfl HZL.out hsz ?_; intro v' w3 hown3 hblk3 hbel3)
        go_roundw
        case rel =>
          refine ⟨k + 1, (cN + y) / 10, zs ++ [(cN + y) % 10], by go_num, rfl, by omega, ?_, by omega, hzd.append (Digs.cons (Nat.mod_lt _ (by decide)) (Digs.nil _)), hown3, ?_, ?_, hbel.trans hbel3, by have := hbel3.size; omega⟩
          · show _ = _
            rw [List.length_append, HZ.out]; rfl
          · show _ = _
            rw [val_snoc, HZ.out, val_take_succ', val_take_succ', ← HX.out, ← HY.out, Nat.pow_succ]
            exact plus_step _ _ _ _ _ _ _ _ _ _ HV.out (by rw [HX0.out]; exact Nat.mod_add_div _ _)
          · exact Or.inr (Or.inl (by omega))
        case measure => simp [intOf]; omega
      · have hy0 : y = 0 := by
          rw [HY.out, List.getD_eq_getElem?_getD, List.getElem?_eq_none (by have := HM.out; omega)]; rfl
        have HY0 : Hid (y = 0) := hy0
        clear hy0 ht'
        by_cases hc0 : 0 < cN
        · have hkb : k ≤ 10000 := by
            rcases HK.out with h | h | h
            · omega
            · omega
            · omega
          have HK2 : Hid (k = n ∨ k = m) := by
            show _ ∨ _
            rcases HK.out with h | h | h
            · left; omega
            · right; omega
            · omega
          go_wp2_with (at_builtin; refine wpList_append_num rfl (.tmp 44) (.tmp 47) 37 rfl w.heap.size 3 .i64 8 Tryz.underlying37 Tryz.info3 (by decide) _ _ rfl hown _ (cN % 10) (by omega) rfl HZL.out hsz ?_; intro v' w3 hown3 hblk3 hbel3)
          go_roundw
          case rel =>
            refine ⟨k + 1, cN / 10, zs ++ [cN % 10], by go_num, rfl, by omega, ?_, by omega, hzd.append (Digs.cons (Nat.mod_lt _ (by decide)) (Digs.nil _)), hown3, ?_, ?_, hbel.trans hbel3, by have := hbel3.size; omega⟩
            · show _ = _
              rw [List.length_append, HZ.out]; rfl
            · show _ = _
              rw [val_snoc, HZ.out, val_take_succ', val_take_succ', ← HX.out, ← HY.out, Nat.pow_succ]
              exact plus_step _ _ _ _ _ _ _ _ _ _ HV.out (by rw [HX0.out, HY0.out]; exact Nat.mod_add_div _ _)
            · refine Or.inr (Or.inr ⟨by have := HK2.out; omega, by omega, by omega, by omega, ?_⟩)
              have h1 : cN % 10 = 1 := by omega
              rw [val_snoc, HZ.out, h1, Nat.mul_one, Nat.add_sub_cancel]
              exact Nat.le_add_left _ _
          case measure => simp [intOf]; omega
        · have hc00 : cN = 0 := by omega
          go_wp2
          go_ret
          refine ⟨_, rfl, zs, hown, hzd, ?_, by rw [HZ.out]; omega, by rw [HZ.out]; omega, ?_, hbel⟩
          · have h3 := HV.out
            rw [List.take_of_length_le (by have := HN.out; omega), List.take_of_length_le (by have := HM.out; omega), hc00, Nat.mul_zero, Nat.add_zero] at h3
            exact h3
          · rw [HZ.out]
            rcases HK.out with h | h | h
            · exact Or.inl h
            · exact Or.inr (Or.inl h)
            · exact Or.inr (Or.inr ⟨h.1, h.2.2.2.2⟩)
end Go.Proofs.YteefniagebcagaaGreatDoor
/- Contracts of suretyref01.power and TooBig; they prove no statement of the seat. -/
namespace Go.Proofs.YteefniagebcagaaGreatDoor
open Go.RowKit

theorem plus_norm {xs ys zs : List Nat} (nx : Norm xs) (ny : Norm ys) (hd : Digs 10 zs) (hv : val 10 zs = val 10 xs + val 10 ys)
    (h1 : xs.length ≤ zs.length) (h2 : ys.length ≤ zs.length) (h3 : zs.length ≤ xs.length ∨ zs.length ≤ ys.length ∨ ((zs.length = xs.length + 1 ∨ zs.length = ys.length + 1) ∧ 10 ^ (zs.length - 1) ≤ val 10 zs)) : Norm zs := by
  by_cases h0 : zs.length = 0
  · rw [List.eq_nil_of_length_eq_zero h0]; exact Norm.nil
  · refine norm_of_ge (by decide) hd (by omega) ?_
    rcases h3 with h | h | h
    · have e : zs.length = xs.length := by omega
      have := nx.ge (B := 10) (List.ne_nil_of_length_pos (by omega)) (by decide)
      rw [e, hv]; omega
    · have e : zs.length = ys.length := by omega
      have := ny.ge (B := 10) (List.ne_nil_of_length_pos (by omega)) (by decide)
      rw [e, hv]; omega
    · exact h.2

set_option maxHeartbeats 1000000 in
theorem rpower_any (n : Nat) (N : Int) (hN : N = (n : Int)) (w : World) (hn : n ≤ 2000) :
    Calls Tryz.prog 99 #[.int .i64 N] w fun e w' => ∃ v, e = .returned v ∧ ∃ zs, Own .i64 3 w.heap.size w' v zs ∧ Digs 10 zs ∧ Norm zs ∧ val 10 zs = 2 ^ n ∧ zs.length ≤ n + 1 ∧ Below w.heap.size w w' := by
  subst hN
  have hl := Own.lit w .i64 3 [1] w.heap.size (Nat.le_refl _) (by decide)
  go_enter Tryz.func99, Tryz.ntmps99
  go_wp2
  go_loopw [3, 4] (fun v i wr => ∃ k : Nat, ∃ zs, k ≤ n ∧ i = .int .i64 k ∧ Own .i64 3 w.heap.size wr v zs ∧ Digs 10 zs ∧ Hid (Norm zs) ∧ Hid (val 10 zs = 2 ^ k) ∧ Hid (zs.length ≤ k + 1) ∧ Below w.heap.size w wr) (fun _ i _ => n - (intOf i).toNat)
  case atStart => exact ⟨0, [1], Nat.zero_le _, rfl, hl, Digs.cons (by decide) (Digs.nil _), (rfl : _ = _), (rfl : _ = _), (Nat.le_refl _ : _ ≤ _), (Below.refl _ _).alloc (Nat.le_refl _) _⟩
  case round =>
    obtain ⟨k, zs, hk, rfl, hown, hd, HNM, HV, HLEN, hbel⟩ := hrel
    by_cases h0 : k < n
    · obtain ⟨ao, cap, rfl, k1, k2, hseg, k3⟩ := hown.open
      have HZ : Hid (zs.length ≤ 10000) := by show _ ≤ _; have := HLEN.out; omega
      go_wp2_with (go_at_call 96; refine (rplus_any ao ao zs.length zs.length cap cap zs zs _ rfl rfl HZ.out HZ.out hseg hseg hd hd).mono ?_; rintro e w2 ⟨v2, rfl, ys, hown2, hd2, hv2, hl1, hl2, hl3, hb2⟩)
      go_roundw
      case rel =>
        refine ⟨k + 1, ys, by omega, by go_num, hown2.mono hbel.size, hd2, (plus_norm HNM.out HNM.out hd2 hv2 hl1 hl2 hl3 : Norm _), ?_, ?_, hbel.step hb2 (Nat.le_refl _)⟩
        · show _ = _
          rw [hv2, HV.out, Nat.pow_succ]; omega
        · show _ ≤ _
          have := HLEN.out
          omega
      case measure => simp [intOf]; omega
    · have hkn : k = n := by omega
      subst hkn
      go_wp2
      go_ret
      exact ⟨_, rfl, zs, hown, hd, HNM.out, HV.out, HLEN.out, hbel⟩

theorem rpower_lim (n : Nat) (hk : n = 32 * 32) (N : Int) (hN : N = (n : Int)) (w : World) :
    Calls Tryz.prog 99 #[.int .i64 N] w fun e w' => ∃ v, e = .returned v ∧ ∃ zs, Own .i64 3 w.heap.size w' v zs ∧ Digs 10 zs ∧ Norm zs ∧ val 10 zs = lim ∧ zs.length ≤ 2000 ∧ Below w.heap.size w w' := by
  refine (rpower_any n N hN w (by omega)).mono ?_
  rintro e w' ⟨v, rfl, zs, h1, h2, h3, h4, h5, h6⟩
  exact ⟨v, rfl, zs, h1, h2, h3, h4.trans (lim_pow n hk), by omega, h6⟩

/-- It leads into a row of ints. -/
def IntB (w : World) (ao : Option Addr) : Prop := ∀ a, ao = some a → ∃ cs, w.heap[a.block]? = some (.cells cs 3 (0, 0))
theorem IntB.below {w w' : World} {ao : Option Addr} (h : IntB w ao) (hb : Below w.heap.size w w') : IntB w' ao := by
  intro a ha
  obtain ⟨cs, hc⟩ := h a ha
  exact ⟨cs, (hb.block a.block (Array.getElem?_eq_some_iff.1 hc).1).trans hc⟩
theorem IntB.set {w : World} {ao : Option Addr} (h : IntB w ao) (b i : Nat) (v : Value) : IntB (w.setCell ⟨b, i, none⟩ v) ao := by
  intro a ha
  obtain ⟨cs, hc⟩ := h a ha
  by_cases e : a.block = b
  · subst e
    exact ⟨_, heap_setCell_same w a.block i _ 3 v hc⟩
  · exact ⟨cs, (heap_setCell_other w ⟨b, i, none⟩ a.block v e).trans hc⟩
/-- The block of a slice of one's own is of the elements' type. -/
theorem Own.ty {k : IntKind} {e : TypeId} {base : Nat} {w : World} {v : Value} {zs : List Nat} (h : Own k e base w v zs) : ∀ ao n c, v = .slice ao n c → ∀ a, ao = some a → ∃ cs, w.heap[a.block]? = some (.cells cs e (0, 0)) := by
  intro ao n c hv a ha
  rcases h.2 with ⟨h1, _⟩ | ⟨g, cap, cur, h1, _, hg, _⟩
  · rw [h1] at hv; cases hv; cases ha
  · rw [h1] at hv; cases hv; cases ha; exact ⟨cur, hg⟩
theorem IntB.own {w : World} {ao : Option Addr} {n c : Nat} (h : ∀ ao' n' c', Value.slice ao n c = .slice ao' n' c' → ∀ a, ao' = some a → ∃ cs, w.heap[a.block]? = some (.cells cs 3 (0, 0))) : IntB w ao := h _ _ _ rfl
/-- A suretyref01.Num: its sign and its decimal digits. -/
def NumV (w : World) (v : Value) (neg : Bool) (ds : List Nat) : Prop :=
  ∃ ao cap, v = .agg #[.bool neg, .slice ao ds.length cap] ∧ ds.length ≤ cap ∧ cap ≤ maxLen ∧ (ao = none → cap = 0) ∧ Seg .i64 w ao ds ∧ Digs 10 ds ∧ Norm ds ∧ (ds.length = 0 → neg = false) ∧ IntB w ao

theorem NumV.below {w w' : World} {v : Value} {neg : Bool} {ds : List Nat} (h : NumV w v neg ds) (hb : Below w.heap.size w w') : NumV w' v neg ds := by
  obtain ⟨ao, cap, h1, h2, h3, h4, h5, h6, h7, h8, h9⟩ := h
  exact ⟨ao, cap, h1, h2, h3, h4, h5.below hb, h6, h7, h8, h9.below hb⟩

theorem NumV.store2 {w : World} {v : Value} {neg : Bool} {ds : List Nat} (h : NumV w v neg ds) {t : TypeId} {b : Nat} {x : Bool} {a : Option Addr} {n c : Nat} (hB : Blk t w b #[.bool x, .slice a n c]) (y : Bool) (a' : Option Addr) (n' c' : Nat) :
    NumV ((w.setCell ⟨b, 0, none⟩ (.bool y)).setCell ⟨b, 1, none⟩ (.slice a' n' c')) v neg ds := by
  obtain ⟨ao, cap, h1, h2, h3, h4, h5, h6, h7, h8, h9⟩ := h
  exact ⟨ao, cap, h1, h2, h3, h4, h5.store2 hB y a' n' c', h6, h7, h8, (h9.set _ _ _).set _ _ _⟩

theorem NumV.zero (w : World) : NumV w (.agg #[.bool false, .slice none 0 0]) false [] :=
  ⟨none, 0, rfl, Nat.le_refl _, Nat.zero_le _, fun _ => rfl, Seg.nil _ _ _, Digs.nil _, Norm.nil, fun _ => rfl, fun _ h => by cases h⟩

theorem lim_low (k : Nat) (hk : k ≤ 308) : 10 ^ k ≤ lim := by
  have h : 10 ^ 102 * 10 ^ 102 * 10 ^ 104 ≤ lim := by decide +kernel
  refine Nat.le_trans ?_ h
  have e : ∀ a b c k : Nat, k ≤ a + b + c → 10 ^ k ≤ 10 ^ a * 10 ^ b * 10 ^ c := by
    intro a b c k h
    rw [← Nat.pow_add, ← Nat.pow_add]
    exact Nat.pow_le_pow_right (by decide) h
  exact e 102 102 104 k (by omega)

theorem toobig_short {ds : List Nat} (hd : Digs 10 ds) (h : ds.length < 309) : val 10 ds < lim := by
  have h1 := val_lt hd
  have h2 := lim_low ds.length (by omega)
  omega
theorem toobig_long {ds : List Nat} (hn : Norm ds) (h : 309 < ds.length) : lim ≤ val 10 ds := by
  have h1 := hn.ge (B := 10) (by intro e; subst e; simp at h) (by decide)
  have h2 := lim_dec (ds.length - 1) (by omega)
  omega

set_option maxHeartbeats 1000000 in
theorem toobig_short_any (v : Value) (neg : Bool) (ds : List Nat) (w : World) (hv : NumV w v neg ds) (hl : ds.length ≤ 10000) (h : ds.length < 309) :
    Calls Tryz.prog 58 #[v] w fun e w' => e = .returned (.bool false) ∧ Below w.heap.size w w' := by
  obtain ⟨ao, cap, rfl, h1, h2, h3, hs, hd, hn, h4⟩ := hv
  have g1 : decide (309 < (ds.length : Int)) = false := by simp; omega
  have g2 : ((ds.length : Int) == 309) = false := by rw [beq_eq_false_iff_ne]; omega
  go_enter Tryz.func58, Tryz.ntmps58
  go_wp2
  go_quiet (fail)
  go_wp2
  go_ret
  exact ⟨rfl, below_drewN ((Below.refl _ _).alloc (Nat.le_refl _) _) _⟩

set_option maxHeartbeats 1000000 in
theorem toobig_long_any (v : Value) (neg : Bool) (ds : List Nat) (w : World) (hv : NumV w v neg ds) (hl : ds.length ≤ 10000) (h : 309 < ds.length) :
    Calls Tryz.prog 58 #[v] w fun e w' => e = .returned (.bool true) ∧ Below w.heap.size w w' := by
  obtain ⟨ao, cap, rfl, h1, h2, h3, hs, hd, hn, h4⟩ := hv
  have g1 : decide (309 < (ds.length : Int)) = true := by simp; omega
  go_enter Tryz.func58, Tryz.ntmps58
  go_wp2
  go_quiet (fail)
  go_wp2
  go_ret
  exact ⟨rfl, below_drewN ((Below.refl _ _).alloc (Nat.le_refl _) _) _⟩

set_option maxHeartbeats 1000000 in
theorem toobig_mid_any (v : Value) (neg : Bool) (ds : List Nat) (w : World) (hv : NumV w v neg ds) (h : ds.length = 309) :
    Calls Tryz.prog 58 #[v] w fun e w' => e = .returned (.bool (decide (lim ≤ val 10 ds))) ∧ Below w.heap.size w w' := by
  obtain ⟨ao, cap, rfl, h1, h2, h3, hs, hd, hn, h4⟩ := hv
  have HL : Hid (ds.length = 309) := h
  rw [h]
  rw [h] at h1
  clear h h4
  have g1 : decide (309 < ((309 : Nat) : Int)) = false := by simp
  have B0 := Blk.new w 39 #[.bool neg, .slice ao 309 cap]
  go_enter Tryz.func58, Tryz.ntmps58
  go_wp2
  have HS : Hid (((val 10 ds : Int) - lim).sign ≥ 0 ↔ lim ≤ val 10 ds) := by
    show _ ↔ _
    constructor
    · intro h
      rcases Nat.lt_or_ge (val 10 ds) lim with h' | h'
      · rw [Int.sign_eq_neg_one_of_neg (by omega)] at h; omega
      · exact h'
    · intro h
      rcases Nat.lt_or_ge lim (val 10 ds) with h' | h'
      · rw [Int.sign_eq_one_of_pos (by omega)]; omega
      · rw [show (val 10 ds : Int) - lim = 0 by omega]; simp
  go_region_with (first
    | (go_at_call 99; refine (rpower_lim 1024 rfl _ rfl _).mono ?_; rintro e w2 ⟨v2, rfl, ys, hown2, hd2, hn2, hv2, hl2, hb2⟩; obtain ⟨bo, capb, rfl, k1, k2, hsy, k3⟩ := hown2.open; have B2 := Blk.stay (by first | exact B0 | exact B0.drew) hb2; obtain ⟨c0, c1, f0, f1⟩ := B2.two; have hbw : Below w.heap.size w w2 := Below.trans (by first | exact (Below.refl _ _).alloc (Nat.le_refl _) _ | exact ((Below.refl _ _).alloc (Nat.le_refl _) _).drew) (hb2.mono (by simp)); have HV2 : Hid (val 10 ys = lim) := hv2; clear hv2)
    | (go_at_call 97; refine (rcmp_any ao bo 309 ys.length cap capb ds ys _ HL.out rfl (by decide) (by omega) (hs.below hbw) hsy hd hd2).mono ?_; rintro e w3 ⟨rfl, hb3⟩))
  all_goals
    go_wp2
    go_ret
    refine ⟨?_, hbw.step hb3 (Nat.le_refl _)⟩
    refine congrArg Ending.returned (congrArg Value.bool ?_)
    rw [cmpL_norm (by decide) hd hd2 hn hn2, HV2.out]
    exact decide_eq_decide.2 HS.out
end Go.Proofs.YteefniagebcagaaGreatDoor
/- Contracts of suretyref01's trim, form, TooBig whole; they prove no statement of the seat. -/
namespace Go.Proofs.YteefniagebcagaaGreatDoor
open Go.RowKit

/-- A suretyref01.Num: its value, and how many digits it has at most. -/
def RNum (w : World) (v : Value) (z : Int) (L : Nat) : Prop := ∃ neg ds, NumV w v neg ds ∧ z = sv neg (val 10 ds) ∧ ds.length ≤ L

theorem RNum.below {w w' : World} {v : Value} {z : Int} {L : Nat} (h : RNum w v z L) (hb : Below w.heap.size w w') : RNum w' v z L := by
  obtain ⟨neg, ds, h1, h2⟩ := h
  exact ⟨neg, ds, h1.below hb, h2⟩
theorem RNum.store2 {w : World} {v : Value} {z : Int} {L : Nat} (h : RNum w v z L) {t : TypeId} {b : Nat} {x : Bool} {a : Option Addr} {n c : Nat} (hB : Blk t w b #[.bool x, .slice a n c]) (y : Bool) (a' : Option Addr) (n' c' : Nat) :
    RNum ((w.setCell ⟨b, 0, none⟩ (.bool y)).setCell ⟨b, 1, none⟩ (.slice a' n' c')) v z L := by
  obtain ⟨neg, ds, h1, h2⟩ := h
  exact ⟨neg, ds, h1.store2 hB y a' n' c', h2⟩
theorem RNum.zero (w : World) (L : Nat) : RNum w (.agg #[.bool false, .slice none 0 0]) 0 L := ⟨false, [], NumV.zero w, by simp [sv, val], Nat.zero_le _⟩
theorem RNum.shape {w : World} {v : Value} {z : Int} {L : Nat} (h : RNum w v z L) : ∃ x a n c, v = .agg #[.bool x, .slice a n c] := by
  obtain ⟨neg, ds, ⟨ao, cap, h, _⟩, _⟩ := h
  exact ⟨neg, ao, ds.length, cap, h⟩
theorem RNum.mono {w : World} {v : Value} {z : Int} {L L' : Nat} (h : RNum w v z L) (hl : L ≤ L') : RNum w v z L' := by
  obtain ⟨neg, ds, h1, h2, h3⟩ := h
  exact ⟨neg, ds, h1, h2, Nat.le_trans h3 hl⟩

theorem toobig_any (v : Value) (neg : Bool) (ds : List Nat) (w : World) (hv : NumV w v neg ds) (hl : ds.length ≤ 10000) :
    Calls Tryz.prog 58 #[v] w fun e w' => e = .returned (.bool (decide (lim ≤ val 10 ds))) ∧ Below w.heap.size w w' := by
  have hv' := hv
  obtain ⟨ao, cap, _, _, _, _, _, hd, hn, _⟩ := hv'
  rcases Nat.lt_trichotomy ds.length 309 with h | h | h
  · have := toobig_short hd h
    rw [show decide (lim ≤ val 10 ds) = false by simp; omega]
    exact toobig_short_any v neg ds w hv hl h
  · exact toobig_mid_any v neg ds w hv h
  · have := toobig_long hn h
    rw [show decide (lim ≤ val 10 ds) = true by simp; omega]
    exact toobig_long_any v neg ds w hv hl h

set_option maxHeartbeats 1000000 in
theorem rtrim_any (neg : Bool) (ao : Option Addr) (n cap : Nat) (xs : List Nat) (w : World) (hn : xs.length = n) (h1 : n ≤ cap) (_h2 : cap ≤ maxLen) (h3 : n ≤ 10000) (hs : Seg .i64 w ao xs) (hd : Digs 10 xs) :
    Calls Tryz.prog 95 #[.bool neg, .slice ao n cap] w fun e w' => ∃ v, e = .returned v ∧ RNum w' v (sv neg (val 10 xs)) n ∧ Below w.heap.size w w' := by
  have HN : Hid (xs.length = n) := hn
  clear hn
  unfold maxLen at _h2
  have hs' : Seg .i64 (w.alloc (.cells #[.bool false, .slice none 0 0] 39)) ao xs := hs.below ((Below.refl _ _).alloc (Nat.le_refl _) _)
  have B0 := Blk.new w 39 #[.bool false, .slice none 0 0]
  go_enter Tryz.func95, Tryz.ntmps95
  go_wp2
  go_loop [5] (fun i => ∃ k : Nat, k ≤ n ∧ i = .int .i64 k ∧ Hid (∀ i, k ≤ i → i < n → xs.getD i 0 = 0)) (fun i => (intOf i).toNat)
  case atStart => exact ⟨_, Nat.le_refl _, rfl, fun i h1 h2 => by omega⟩
  case round =>
    obtain ⟨k, hk, rfl, hz⟩ := hrel
    by_cases h0 : 0 < k
    · obtain ⟨b, off, rfl, hc⟩ := hs'.open (k - 1) (by have := HN.out; omega)
      obtain ⟨j, rfl⟩ : ∃ j, k = j + 1 := ⟨k - 1, by omega⟩
      have hcell := hc j (by have := HN.out; omega)
      obtain ⟨x, hx⟩ : ∃ x, x = xs.getD j 0 := ⟨_, rfl⟩
      rw [← hx] at hcell
      have HX : Hid (x = xs.getD j 0) := hx
      clear hc hx
      by_cases hx0 : x = 0
      · have hb : ((x : Int) == 0) = true := by rw [beq_iff_eq]; omega
        have HX0 : Hid (x = 0) := hx0
        clear hx0
        go_wp2
        go_round
        case rel =>
          refine ⟨j, by omega, rfl, fun i h1 h2 => ?_⟩
          by_cases e : i = j
          · subst e; rw [← HX.out, HX0.out]
          · exact hz.out i (by omega) h2
        case measure => simp [intOf]
      · have hb : ((x : Int) == 0) = false := by rw [beq_eq_false_iff_ne]; omega
        have HX0 : Hid (x ≠ 0) := hx0
        have hk0 : (((j : Int) + 1) == 0) = false := by rw [beq_eq_false_iff_ne]; omega
        clear hx0
        have hjn : j + 1 ≤ 10000 := by omega
        have hob : Own .i64 3 (w.heap.size + 1) ((w.alloc (.cells #[.bool false, .slice none 0 0] 39)).alloc (.cells #[] 3)) (.slice (some ⟨w.heap.size + 1, 0, none⟩) 0 0) [] := by
          have h := Own.lit (w.alloc (.cells #[.bool false, .slice none 0 0] 39)) .i64 3 [] (w.heap.size + 1) (by simp) (by decide)
          simpa using h
        have B1 : Blk 39 ((w.alloc (.cells #[.bool false, .slice none 0 0] 39)).alloc (.cells #[] 3)) w.heap.size #[.bool false, .slice none 0 0] := B0.alloc _
        have hsx : Seg .i64 ((w.alloc (.cells #[.bool false, .slice none 0 0] 39)).alloc (.cells #[] 3)) (some ⟨b, off, none⟩) (xs.take (j + 1)) := (hs'.below ((Below.refl _ _).alloc (Nat.le_refl _) _)).take (j + 1)
        have HTL : Hid ((xs.take (j + 1)).length = j + 1) := by show _ = _; rw [List.length_take, HN.out]; omega
        go_wp2_with (at_builtin; refine wpList_append_seg rfl (.tmp 24) (.tmp 27) 37 rfl (w.heap.size + 1) 3 .i64 8 Tryz.underlying37 Tryz.info3 (by decide) _ [] rfl hob (some ⟨b, off, none⟩) (j + 1) _ rfl (fun h => by cases h) (xs.take (j + 1)) HTL.out hsx (by simp; omega) (by simp) ?_; intro v' w3 hown3 hblk3 hbel3; rw [List.nil_append] at hown3; obtain ⟨ao3, cap3, hv3, q1, q2, hs3, q3⟩ := hown3.open; rw [HTL.out] at hv3 q1; subst hv3; have HTY : Hid (IntB w3 ao3) := IntB.own hown3.ty; have B3 := B1.keep hbel3 (by omega); obtain ⟨c0, c1, f0, f1⟩ := B3.two; clear hblk3 q3)
        refine bodyPost_ret (v := .agg #[.bool neg, .slice ao3 (j + 1) cap3]) (by simp [results, Tryz.results95, go_sem, c0, c1]) rfl ?_
        have e1 : trimZ xs = xs.take (j + 1) := by
          rw [trimZ_eq_of_zeros xs (j + 1) (by have := HN.out; omega) (by rw [HN.out]; exact hz.out), take_snoc xs j (by have := HN.out; omega), trimZ_snoc_ne _ _ (by rw [← HX.out]; exact HX0.out)]
        have hbw : Below w.heap.size w w3 := (((Below.refl _ _).alloc (Nat.le_refl _) _).alloc (by simp) _).trans (hbel3.mono (by omega))
        refine ⟨_, rfl, ⟨neg, xs.take (j + 1), NumV.store2 ⟨ao3, cap3, by rw [HTL.out], by rw [HTL.out]; exact q1, q2, ?_, hs3, hd.take _, by rw [← e1]; exact norm_trimZ _, fun h => by rw [HTL.out] at h; omega, HTY.out⟩ B3 _ _ _ _, ?_, by rw [HTL.out]; exact hk⟩, below_store2 hbw (Nat.le_refl _) _ _⟩
        · intro h
          rw [h] at hs3
          rcases hs3 with h' | ⟨_, _, h', _⟩
          · have := congrArg List.length h'; rw [HTL.out] at this; simp at this
          · cases h'
        · rw [← e1, val_trimZ]
    · have hk0 : k = 0 := by omega
      subst hk0
      go_wp2
      refine bodyPost_ret (v := .agg #[.bool false, .slice none 0 0]) (by simp [results, Tryz.results95, go_sem]) rfl ?_
      have e1 : trimZ xs = [] := by rw [trimZ_eq_of_zeros xs 0 (by omega) (by rw [HN.out]; exact hz.out)]; rfl
      have e2 := val_trimZ 10 xs
      rw [e1, val_nil] at e2
      refine ⟨_, rfl, ?_, (Below.refl _ _).alloc (Nat.le_refl _) _⟩
      rw [← e2, sv_zero]
      exact RNum.zero _ _
end Go.Proofs.YteefniagebcagaaGreatDoor
