/- Contract of arith.addLimbs; it proves no statement of the seat. -/
import Derived.Test.YtlonnhnfmcndfadCmpAJGcd
namespace Go.Proofs.Ytlonnhnfmcndfad
open Go.RowKit

/-- A slice of limbs without noughts at its end: its number. -/
def LimR (w : World) (v : Value) (N L : Nat) : Prop :=
  ∃ ao cap ls, v = .slice ao (ls : List Nat).length cap ∧ ls.length ≤ cap ∧ cap ≤ L ∧ Seg .u32 w ao ls ∧ Digs 4294967296 ls ∧ Norm ls ∧ val 4294967296 ls = N

theorem LimR.below {w w' : World} {v : Value} {N L : Nat} (h : LimR w v N L) (hb : Below w.heap.size w w') : LimR w' v N L := by
  obtain ⟨ao, cap, ls, h1, h2, h3, h4, h5⟩ := h
  exact ⟨ao, cap, ls, h1, h2, h3, h4.below hb, h5⟩

/-- The trimmed slice of a row. -/
theorem LimR.row {t : TypeId} {w : World} {g : Nat} {zs : List Nat} (h : Row .u32 t w g zs) (hd : Digs 4294967296 zs) (cap L : Nat) (hc : zs.length ≤ cap) (hL : cap ≤ L) : LimR w (.slice (some ⟨g, 0, none⟩) (trimZ zs).length cap) (val 4294967296 zs) L := by
  refine ⟨_, cap, trimZ zs, rfl, ?_, hL, trimZ_seg h, hd.trimZ, norm_trimZ _, val_trimZ _ _⟩
  have := trimZ_length_le zs; omega

theorem drop_set_succ (zs : List Nat) (k d : Nat) : (zs.set k d).drop (k + 1) = zs.drop (k + 1) := by
  rw [List.drop_set_of_lt (by omega)]

theorem getD_drop0 (zs ws : List Nat) (k : Nat) (h : zs.drop k = ws.drop k) : zs.getD k 0 = ws.getD k 0 := by
  have h1 := congrArg (fun l => l.getD 0 0) h
  simpa [List.getElem?_drop] using h1

theorem drop_succ_of (zs ws : List Nat) (k : Nat) (h : zs.drop k = ws.drop k) : zs.drop (k + 1) = ws.drop (k + 1) := by
  have h1 := congrArg (fun l => l.drop 1) h
  simpa using h1

theorem getD_snoc0 (xs : List Nat) (k : Nat) : (xs ++ [0]).getD k 0 = xs.getD k 0 := by
  rcases Nat.lt_trichotomy k xs.length with h | h | h
  · rw [List.getD_eq_getElem?_getD, List.getElem?_append_left h, List.getD_eq_getElem?_getD]
  · subst h; simp
  · rw [List.getD_eq_getElem?_getD, List.getElem?_eq_none (by simp; omega), List.getD_eq_getElem?_getD, List.getElem?_eq_none (by omega)]

theorem val_snoc0 (B : Nat) (xs : List Nat) : val B (xs ++ [0]) = val B xs := by rw [val_snoc]; simp

/-- Where the carry has died the rest stays. -/
theorem add_rest (B : Nat) (zs xs ys : List Nat) (k : Nat) (hz : zs.length = xs.length + 1) (hk : k ≤ xs.length) (hm : ys.length ≤ k) (hd : zs.drop k = (xs ++ [0]).drop k) (h : val B (zs.take k) + B ^ k * 0 = val B (xs.take k) + val B (ys.take k)) : val B zs = val B xs + val B ys := by
  rw [val_split B zs k (by omega), hd, ← val_snoc0 B xs, val_split B (xs ++ [0]) k (by simp; omega), List.take_append_of_le_length hk]
  rw [List.take_of_length_le hm] at h
  omega

theorem add_end (B : Nat) (zs xs ys : List Nat) (c : Nat) (hB : 2 ≤ B) (hdx : Digs B xs) (hdy : Digs B ys) (hm : ys.length ≤ xs.length) (hz : zs.length = xs.length + 1)
    (h : val B (zs.take (xs.length + 1)) + B ^ (xs.length + 1) * c = val B (xs.take (xs.length + 1)) + val B (ys.take (xs.length + 1))) : val B zs = val B xs + val B ys := by
  rw [List.take_of_length_le (l := zs) (by omega), List.take_of_length_le (l := xs) (by omega), List.take_of_length_le (l := ys) (by omega)] at h
  have h1 := val_lt hdx
  have h2 := val_lt hdy
  have h3 : B ^ ys.length ≤ B ^ xs.length := Nat.pow_le_pow_right (by omega) hm
  have h4 : 2 * B ^ xs.length ≤ B ^ (xs.length + 1) := by rw [Nat.pow_succ, Nat.mul_comm]; exact Nat.mul_le_mul_left _ hB
  have h5 : c = 0 := by
    rcases Nat.eq_zero_or_pos c with h6 | h6
    · exact h6
    · have : B ^ (xs.length + 1) * 1 ≤ B ^ (xs.length + 1) * c := Nat.mul_le_mul_left _ h6
      omega
  subst h5
  omega

set_option maxHeartbeats 4000000 in
theorem addLimbs_ge (ao bo : Option Addr) (n m cap cap' : Nat) (xs ys : List Nat) (w : World) (hn : xs.length = n) (hm : ys.length = m) (h1 : n ≤ 9000) (_h2 : m ≤ 9000) (hs : Seg .u32 w ao xs) (ht : Seg .u32 w bo ys) (hdx : Digs 4294967296 xs) (hdy : Digs 4294967296 ys) (hle : m ≤ n) :
    Calls Try.prog 39 #[.slice ao n cap, .slice bo m cap'] w fun e w' => ∃ v, e = .returned v ∧ LimR w' v (val 4294967296 xs + val 4294967296 ys) (n + 1) ∧ Below w.heap.size w w' := by
  have HN : Hid (xs.length = n) := hn
  have HM : Hid (ys.length = m) := hm
  clear hn hm
  go_enter Try.func39, Try.ntmps39
  go_wp2_with (first
    | (at_make; refine wpList_make_nums _ rfl _ _ 48 rfl 114 .u32 4 Try.underlying48 Try.info114 _ _ _ _ (n + 1) rfl rfl (by omega) (by omega) (by decide) (by omega) ?_; intro w1 hr1 hb1 hz1)
    | (refine wpList_copy_nums rfl (.tmp 20) (.tmp 21) 48 rfl 114 .u32 4 Try.underlying48 Try.info114 _ (n + 1) (n + 1) ao n cap rfl rfl _ xs hr1 (by simp) HN.out (hs.below hb1) (Nat.le_succ _) ?_; intro w2 hr2 hb2 hz2))
  have hr3 : Row .u32 114 w2 w.heap.size (xs ++ [0]) := by
    have e : (List.replicate (n + 1) 0).drop n = [0] := by rw [List.drop_replicate]; simp
    rw [e] at hr2; exact hr2
  have hb3 : Below w.heap.size w w2 := hb1.trans hb2
  clear hr1 hr2 hb1 hb2 hz1 hz2
  have HX : Hid (xs.length = n) := HN
  have HY : Hid (ys.length = m) := HM
  go_loopw [6, 25] (fun c i wr => ∃ k cN : Nat, ∃ zs, k ≤ n + 1 ∧ i = .int .i64 k ∧ c = .int .u64 cN ∧ cN ≤ 1 ∧ Hid (zs.length = n + 1) ∧ Digs 4294967296 zs ∧ Hid (val 4294967296 (zs.take k) + 4294967296 ^ k * cN = val 4294967296 (xs.take k) + val 4294967296 (ys.take k)) ∧
      Hid (zs.drop k = (xs ++ [0]).drop k) ∧ Row .u32 114 wr w.heap.size zs ∧ Below w.heap.size w wr) (fun _ i _ => n + 1 - (intOf i).toNat)
  case atStart => exact ⟨0, 0, xs ++ [0], Nat.zero_le _, rfl, rfl, by omega, (by rw [List.length_append, HX.out]; rfl : _ = _), hdx.append (Digs.cons (by decide) (Digs.nil _)), (by simp [val] : _ = _), (rfl : _ = _), hr3, hb3⟩
  case round =>
    obtain ⟨k, cN, zs, hk, rfl, rfl, hc, HZ, hzd, HV, HD, hrow, hbel⟩ := hrel
    by_cases h0 : k < n + 1
    · have hout := hrow.cell k (by have := HZ.out; omega)
      obtain ⟨x, hx⟩ : ∃ x, x = zs.getD k 0 := ⟨_, rfl⟩
      rw [← hx] at hout
      have hxl : x < 4294967296 := hx ▸ hzd.getD (by decide) k
      have HXX : Hid (x = xs.getD k 0) := by show _ = _; rw [hx, getD_drop0 zs _ k HD.out, getD_snoc0]
      have hfr := hrow.frozen k
      clear hx
      by_cases hb : k < m
      · obtain ⟨b, off, rfl, hcs⟩ := ht.open k (by have := HY.out; omega)
        have hbw : b < w.heap.size := World.block_lt_of_cell? w ⟨b, off + k, none⟩ (hcs k (by have := HY.out; omega))
        have hcell := (hbel.cell (p := ⟨b, off + k, none⟩) hbw).trans (hcs k (by have := HY.out; omega))
        obtain ⟨y, hy⟩ : ∃ y, y = ys.getD k 0 := ⟨_, rfl⟩
        have hyl : y < 4294967296 := hy ▸ hdy.getD (by decide) k
        rw [← hy] at hcell
        have HYY : Hid (y = ys.getD k 0) := hy
        clear hy hcs
        go_wp2
        go_roundw
        case rel =>
          refine ⟨k + 1, (x + cN + y) / 4294967296, zs.set k ((x + cN + y) % 4294967296), by omega, by go_num, rfl, by omega, ?_, hzd.set _ _ (Nat.mod_lt _ (by decide)), ?_, ?_, hrow.set k _ _ rfl, hbel.setCell (Nat.le_refl _) _⟩
          · show _ = _
            rw [List.length_set]; exact HZ.out
          · show _ = _
            rw [val_set_succ _ _ _ _ (by have := HZ.out; omega), val_take_succ', val_take_succ', ← HXX.out, ← HYY.out, Nat.pow_succ]
            exact plus_step _ _ _ _ _ _ _ _ _ _ HV.out (by rw [Nat.mod_add_div]; omega)
          · show _ = _
            rw [drop_set_succ]; exact drop_succ_of _ _ _ HD.out
        case measure => simp [intOf]; omega
      · have hy0 : ys.getD k 0 = 0 := by
          rw [List.getD_eq_getElem?_getD, List.getElem?_eq_none (by have := HY.out; omega)]; rfl
        have HY0 : Hid (ys.getD k 0 = 0) := hy0
        clear hy0
        by_cases hc0 : cN = 0
        · have hcb : ((cN : Int) == 0) = true := by rw [beq_iff_eq]; omega
          have HV2 : Hid (val 4294967296 zs = val 4294967296 xs + val 4294967296 ys) := add_rest 4294967296 zs xs ys k (by rw [HZ.out, HX.out]) (by have := HX.out; omega) (by have := HY.out; omega) HD.out (by have h := HV.out; rw [hc0] at h; exact h)
          have hsg := hrow.all
          clear hc0
          go_wp2_with (go_at_call 50; refine (trimmed_any (some ⟨w.heap.size, 0, none⟩) (n + 1) (n + 1) zs _ HZ.out (Nat.le_refl _) (by unfold maxLen; omega) hsg).mono ?_; rintro e w' ⟨rfl, rfl⟩)
          go_ret
          refine ⟨_, rfl, ?_, hbel⟩
          have h5 := LimR.row hrow hzd (n + 1) (n + 1) (by rw [HZ.out]; exact Nat.le_refl _) (Nat.le_refl _)
          rw [HV2.out] at h5
          exact h5
        · have hcb : ((cN : Int) == 0) = false := by rw [beq_eq_false_iff_ne]; omega
          clear hc0
          go_wp2
          go_roundw
          case rel =>
            refine ⟨k + 1, (x + cN) / 4294967296, zs.set k ((x + cN) % 4294967296), by omega, by go_num, rfl, by omega, ?_, hzd.set _ _ (Nat.mod_lt _ (by decide)), ?_, ?_, hrow.set k _ _ rfl, hbel.setCell (Nat.le_refl _) _⟩
            · show _ = _
              rw [List.length_set]; exact HZ.out
            · show _ = _
              rw [val_set_succ _ _ _ _ (by have := HZ.out; omega), val_take_succ', val_take_succ', ← HXX.out, HY0.out, Nat.pow_succ]
              exact plus_step _ _ _ _ _ _ _ _ _ _ HV.out (by rw [Nat.mod_add_div]; omega)
            · show _ = _
              rw [drop_set_succ]; exact drop_succ_of _ _ _ HD.out
          case measure => simp [intOf]; omega
    · have hkn : k = n + 1 := by omega
      subst hkn
      have HV2 : Hid (val 4294967296 zs = val 4294967296 xs + val 4294967296 ys) := by
        have h := HV.out
        have e := HX.out
        rw [← e] at h
        exact add_end 4294967296 zs xs ys cN (by decide) hdx hdy (by rw [HX.out, HY.out]; omega) (by rw [HZ.out, HX.out]) h
      have hsg := hrow.all
      go_wp2_with (go_at_call 50; refine (trimmed_any (some ⟨w.heap.size, 0, none⟩) (n + 1) (n + 1) zs _ HZ.out (Nat.le_refl _) (by unfold maxLen; omega) hsg).mono ?_; rintro e w' ⟨rfl, rfl⟩)
      go_ret
      refine ⟨_, rfl, ?_, hbel⟩
      have h5 := LimR.row hrow hzd (n + 1) (n + 1) (by rw [HZ.out]; exact Nat.le_refl _) (Nat.le_refl _)
      rw [HV2.out] at h5
      exact h5

set_option maxHeartbeats 4000000 in
theorem addLimbs_lt (ao bo : Option Addr) (n m cap cap' : Nat) (xs ys : List Nat) (w : World) (hn : xs.length = n) (hm : ys.length = m) (h1 : n ≤ 9000) (h2 : m ≤ 9000) (hs : Seg .u32 w ao xs) (ht : Seg .u32 w bo ys) (hdx : Digs 4294967296 xs) (hdy : Digs 4294967296 ys) (hle : n < m) :
    Calls Try.prog 39 #[.slice ao n cap, .slice bo m cap'] w fun e w' => ∃ v, e = .returned v ∧ LimR w' v (val 4294967296 xs + val 4294967296 ys) (m + 1) ∧ Below w.heap.size w w' := by
  have HN : Hid (xs.length = n) := hn
  have HM : Hid (ys.length = m) := hm
  clear hn hm
  go_enter Try.func39, Try.ntmps39
  go_wp2_with (first
    | (at_make; refine wpList_make_nums _ rfl _ _ 48 rfl 114 .u32 4 Try.underlying48 Try.info114 _ _ _ _ (m + 1) rfl rfl (by omega) (by omega) (by decide) (by omega) ?_; intro w1 hr1 hb1 hz1)
    | (refine wpList_copy_nums rfl (.tmp 20) (.tmp 21) 48 rfl 114 .u32 4 Try.underlying48 Try.info114 _ (m + 1) (m + 1) bo m cap' rfl rfl _ ys hr1 (by simp) HM.out (ht.below hb1) (Nat.le_succ _) ?_; intro w2 hr2 hb2 hz2))
  have hr3 : Row .u32 114 w2 w.heap.size (ys ++ [0]) := by
    have e : (List.replicate (m + 1) 0).drop m = [0] := by rw [List.drop_replicate]; simp
    rw [e] at hr2; exact hr2
  have hb3 : Below w.heap.size w w2 := hb1.trans hb2
  clear hr1 hr2 hb1 hb2 hz1 hz2
  have HX : Hid (ys.length = m) := HM
  have HY : Hid (xs.length = n) := HN
  go_loopw [6, 25] (fun c i wr => ∃ k cN : Nat, ∃ zs, k ≤ m + 1 ∧ i = .int .i64 k ∧ c = .int .u64 cN ∧ cN ≤ 1 ∧ Hid (zs.length = m + 1) ∧ Digs 4294967296 zs ∧ Hid (val 4294967296 (zs.take k) + 4294967296 ^ k * cN = val 4294967296 (ys.take k) + val 4294967296 (xs.take k)) ∧
      Hid (zs.drop k = (ys ++ [0]).drop k) ∧ Row .u32 114 wr w.heap.size zs ∧ Below w.heap.size w wr) (fun _ i _ => m + 1 - (intOf i).toNat)
  case atStart => exact ⟨0, 0, ys ++ [0], Nat.zero_le _, rfl, rfl, by omega, (by rw [List.length_append, HX.out]; rfl : _ = _), hdy.append (Digs.cons (by decide) (Digs.nil _)), (by simp [val] : _ = _), (rfl : _ = _), hr3, hb3⟩
  case round =>
    obtain ⟨k, cN, zs, hk, rfl, rfl, hc, HZ, hzd, HV, HD, hrow, hbel⟩ := hrel
    by_cases h0 : k < m + 1
    · have hout := hrow.cell k (by have := HZ.out; omega)
      obtain ⟨x, hx⟩ : ∃ x, x = zs.getD k 0 := ⟨_, rfl⟩
      rw [← hx] at hout
      have hxl : x < 4294967296 := hx ▸ hzd.getD (by decide) k
      have HXX : Hid (x = ys.getD k 0) := by show _ = _; rw [hx, getD_drop0 zs _ k HD.out, getD_snoc0]
      have hfr := hrow.frozen k
      clear hx
      by_cases hb : k < n
      · obtain ⟨b, off, rfl, hcs⟩ := hs.open k (by have := HY.out; omega)
        have hbw : b < w.heap.size := World.block_lt_of_cell? w ⟨b, off + k, none⟩ (hcs k (by have := HY.out; omega))
        have hcell := (hbel.cell (p := ⟨b, off + k, none⟩) hbw).trans (hcs k (by have := HY.out; omega))
        obtain ⟨y, hy⟩ : ∃ y, y = xs.getD k 0 := ⟨_, rfl⟩
        have hyl : y < 4294967296 := hy ▸ hdx.getD (by decide) k
        rw [← hy] at hcell
        have HYY : Hid (y = xs.getD k 0) := hy
        clear hy hcs
        go_wp2
        go_roundw
        case rel =>
          refine ⟨k + 1, (x + cN + y) / 4294967296, zs.set k ((x + cN + y) % 4294967296), by omega, by go_num, rfl, by omega, ?_, hzd.set _ _ (Nat.mod_lt _ (by decide)), ?_, ?_, hrow.set k _ _ rfl, hbel.setCell (Nat.le_refl _) _⟩
          · show _ = _
            rw [List.length_set]; exact HZ.out
          · show _ = _
            rw [val_set_succ _ _ _ _ (by have := HZ.out; omega), val_take_succ', val_take_succ', ← HXX.out, ← HYY.out, Nat.pow_succ]
            exact plus_step _ _ _ _ _ _ _ _ _ _ HV.out (by rw [Nat.mod_add_div]; omega)
          · show _ = _
            rw [drop_set_succ]; exact drop_succ_of _ _ _ HD.out
        case measure => simp [intOf]; omega
      · have hy0 : xs.getD k 0 = 0 := by
          rw [List.getD_eq_getElem?_getD, List.getElem?_eq_none (by have := HY.out; omega)]; rfl
        have HY0 : Hid (xs.getD k 0 = 0) := hy0
        clear hy0
        by_cases hc0 : cN = 0
        · have hcb : ((cN : Int) == 0) = true := by rw [beq_iff_eq]; omega
          have HV2 : Hid (val 4294967296 zs = val 4294967296 ys + val 4294967296 xs) := add_rest 4294967296 zs ys xs k (by rw [HZ.out, HX.out]) (by have := HX.out; omega) (by have := HY.out; omega) HD.out (by have h := HV.out; rw [hc0] at h; exact h)
          have hsg := hrow.all
          clear hc0
          go_wp2_with (go_at_call 50; refine (trimmed_any (some ⟨w.heap.size, 0, none⟩) (m + 1) (m + 1) zs _ HZ.out (Nat.le_refl _) (by unfold maxLen; omega) hsg).mono ?_; rintro e w' ⟨rfl, rfl⟩)
          go_ret
          refine ⟨_, rfl, ?_, hbel⟩
          have h5 := LimR.row hrow hzd (m + 1) (m + 1) (by rw [HZ.out]; exact Nat.le_refl _) (Nat.le_refl _)
          rw [HV2.out, Nat.add_comm (val 4294967296 ys)] at h5
          exact h5
        · have hcb : ((cN : Int) == 0) = false := by rw [beq_eq_false_iff_ne]; omega
          clear hc0
          go_wp2
          go_roundw
          case rel =>
            refine ⟨k + 1, (x + cN) / 4294967296, zs.set k ((x + cN) % 4294967296), by omega, by go_num, rfl, by omega, ?_, hzd.set _ _ (Nat.mod_lt _ (by decide)), ?_, ?_, hrow.set k _ _ rfl, hbel.setCell (Nat.le_refl _) _⟩
            · show _ = _
              rw [List.length_set]; exact HZ.out
            · show _ = _
              rw [val_set_succ _ _ _ _ (by have := HZ.out; omega), val_take_succ', val_take_succ', ← HXX.out, HY0.out, Nat.pow_succ]
              exact plus_step _ _ _ _ _ _ _ _ _ _ HV.out (by rw [Nat.mod_add_div]; omega)
            · show _ = _
              rw [drop_set_succ]; exact drop_succ_of _ _ _ HD.out
          case measure => simp [intOf]; omega
    · have hkn : k = m + 1 := by omega
      subst hkn
      have HV2 : Hid (val 4294967296 zs = val 4294967296 ys + val 4294967296 xs) := by
        have h := HV.out
        have e := HX.out
        rw [← e] at h
        exact add_end 4294967296 zs ys xs cN (by decide) hdy hdx (by rw [HX.out, HY.out]; omega) (by rw [HZ.out, HX.out]) h
      have hsg := hrow.all
      go_wp2_with (go_at_call 50; refine (trimmed_any (some ⟨w.heap.size, 0, none⟩) (m + 1) (m + 1) zs _ HZ.out (Nat.le_refl _) (by unfold maxLen; omega) hsg).mono ?_; rintro e w' ⟨rfl, rfl⟩)
      go_ret
      refine ⟨_, rfl, ?_, hbel⟩
      have h5 := LimR.row hrow hzd (m + 1) (m + 1) (by rw [HZ.out]; exact Nat.le_refl _) (Nat.le_refl _)
      rw [HV2.out, Nat.add_comm (val 4294967296 ys)] at h5
      exact h5

theorem addLimbs_any (ao bo : Option Addr) (n m cap cap' : Nat) (xs ys : List Nat) (w : World) (hn : xs.length = n) (hm : ys.length = m) (h1 : n ≤ 9000) (h2 : m ≤ 9000) (hs : Seg .u32 w ao xs) (ht : Seg .u32 w bo ys) (hdx : Digs 4294967296 xs) (hdy : Digs 4294967296 ys) :
    Calls Try.prog 39 #[.slice ao n cap, .slice bo m cap'] w fun e w' => ∃ v, e = .returned v ∧ LimR w' v (val 4294967296 xs + val 4294967296 ys) 9001 ∧ Below w.heap.size w w' := by
  have fin : ∀ L, L ≤ 9001 → ∀ (e : Ending) (w' : World), (∃ v, e = .returned v ∧ LimR w' v (val 4294967296 xs + val 4294967296 ys) L ∧ Below w.heap.size w w') → ∃ v, e = .returned v ∧ LimR w' v (val 4294967296 xs + val 4294967296 ys) 9001 ∧ Below w.heap.size w w' := by
    rintro L hL e w' ⟨v, h1, ⟨a, c, ls, h2, h3, h4, h5⟩, h6⟩
    exact ⟨v, h1, ⟨a, c, ls, h2, h3, by omega, h5⟩, h6⟩
  rcases Nat.lt_or_ge n m with h | h
  · exact (addLimbs_lt ao bo n m cap cap' xs ys w hn hm h1 h2 hs ht hdx hdy h).mono (fin (m + 1) (by omega))
  · exact (addLimbs_ge ao bo n m cap cap' xs ys w hn hm h1 h2 hs ht hdx hdy h).mono (fin (n + 1) (by omega))
end Go.Proofs.Ytlonnhnfmcndfad
