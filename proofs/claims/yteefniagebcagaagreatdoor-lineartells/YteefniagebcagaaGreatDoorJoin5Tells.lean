/- Joined: Add, Sub, Mul, Ints1: words and contracts; no statement of the seat is proved here. -/
import Derived.Test.YteefniagebcagaaGreatDoorJoin4Tells
/- Contract of arith.addLimbs; it proves no statement of the seat. -/
namespace Go.Proofs.YteefniagebcagaaGreatDoor
open Go.RowKit

/-- A slice of limbs without noughts at its end: its number. -/
def LimR (w : World) (v : Value) (N L : Nat) : Prop :=
  ∃ ao cap ls, v = .slice ao (ls : List Nat).length cap ∧ ls.length ≤ cap ∧ cap ≤ L ∧ Seg .u32 w ao ls ∧ Digs 4294967296 ls ∧ Norm ls ∧ val 4294967296 ls = N

theorem LimR.below {w w' : World} {v : Value} {N L : Nat} (h : LimR w v N L) (hb : Below w.heap.size w w') : LimR w' v N L := by
  obtain ⟨ao, cap, ls, h1, h2, h3, h4, h5⟩ := h
  exact ⟨ao, cap, ls, h1, h2, h3, h4.below hb, h5⟩

/-- The trimmed slice of a row. -/
theorem LimR.row {t : TypeId} {w : World} {g : Nat} {zs : List Nat} (h : Row .u32 t w g zs) (hd : Digs 4294967296 zs) (cap L : Nat) (hc : zs.length ≤ cap) (hL : cap ≤ L) : LimR w (.slice (some ⟨g, 0, none⟩) (trimZ zs).length cap) (val 4294967296 zs) L := by
  refine ⟨_, cap, trimZ zs, rfl, ?_, hL, trimZ_seg h, hd.trimZ, norm_trimZ _, val_trimZ _ _⟩
  have := trimZ_length_le zs; omega

theorem drop_set_succ (zs : List Nat) (k d : Nat) : (zs.set k d).drop (k + 1) = zs.drop (k + 1) := by
  rw [List.drop_set_of_lt (by omega)]

theorem getD_drop0 (zs ws : List Nat) (k : Nat) (h : zs.drop k = ws.drop k) : zs.getD k 0 = ws.getD k 0 := by
  have h1 := congrArg (fun l => l.getD 0 0) h
  simpa [List.getElem?_drop] using h1

theorem drop_succ_of (zs ws : List Nat) (k : Nat) (h : zs.drop k = ws.drop k) : zs.drop (k + 1) = ws.drop (k + 1) := by
  have h1 := congrArg (fun l => l.drop 1) h
  simpa using h1

theorem getD_snoc0 (xs : List Nat) (k : Nat) : (xs ++ [0]).getD k 0 = xs.getD k 0 := by
  rcases Nat.lt_trichotomy k xs.length with h | h | h
  · rw [List.getD_eq_getElem?_getD, List.getElem?_append_left h, List.getD_eq_getElem?_getD]
  · subst h; simp
  · rw [List.getD_eq_getElem?_getD, List.getElem?_eq_none (by simp; omega), List.getD_eq_getElem?_getD, List.getElem?_eq_none (by omega)]

theorem val_snoc0 (B : Nat) (xs : List Nat) : val B (xs ++ [0]) = val B xs := by rw [val_snoc]; simp

/-- Where the carry has died the rest stays. -/
theorem add_rest (B : Nat) (zs xs ys : List Nat) (k : Nat) (hz : zs.length = xs.length + 1) (hk : k ≤ xs.length) (hm : ys.length ≤ k) (hd : zs.drop k = (xs ++ [0]).drop k) (h : val B (zs.take k) + B ^ k * 0 = val B (xs.take k) + val B (ys.take k)) : val B zs = val B xs + val B ys := by
  rw [val_split B zs k (by omega), hd, ← val_snoc0 B xs, val_split B (xs ++ [0]) k (by simp; omega), List.take_append_of_le_length hk]
  rw [List.take_of_length_le hm] at h
  omega

theorem add_end (B : Nat) (zs xs ys : List Nat) (c : Nat) (hB : 2 ≤ B) (hdx : Digs B xs) (hdy : Digs B ys) (hm : ys.length ≤ xs.length) (hz : zs.length = xs.length + 1)
    (h : val B (zs.take (xs.length + 1)) + B ^ (xs.length + 1) * c = val B (xs.take (xs.length + 1)) + val B (ys.take (xs.length + 1))) : val B zs = val B xs + val B ys := by
  rw [List.take_of_length_le (l := zs) (by omega), List.take_of_length_le (l := xs) (by omega), List.take_of_length_le (l := ys) (by omega)] at h
  have h1 := val_lt hdx
  have h2 := val_lt hdy
  have h3 : B ^ ys.length ≤ B ^ xs.length := Nat.pow_le_pow_right (by omega) hm
  have h4 : 2 * B ^ xs.length ≤ B ^ (xs.length + 1) := by rw [Nat.pow_succ, Nat.mul_comm]; exact Nat.mul_le_mul_left _ hB
  have h5 : c = 0 := by
    rcases Nat.eq_zero_or_pos c with h6 | h6
    · exact h6
    · have : B ^ (xs.length + 1) * 1 ≤ B ^ (xs.length + 1) * c := Nat.mul_le_mul_left _ h6
      omega
  subst h5
  omega

set_option maxHeartbeats 4000000 in
theorem addLimbs_ge (ao bo : Option Addr) (n m cap cap' : Nat) (xs ys : List Nat) (w : World) (hn : xs.length = n) (hm : ys.length = m) (h1 : n ≤ 9000) (_h2 : m ≤ 9000) (hs : Seg .u32 w ao xs) (ht : Seg .u32 w bo ys) (hdx : Digs 4294967296 xs) (hdy : Digs 4294967296 ys) (hle : m ≤ n) :
    Calls Tryz.prog 86 #[.slice ao n cap, .slice bo m cap'] w fun e w' => ∃ v, e = .returned v ∧ LimR w' v (val 4294967296 xs + val 4294967296 ys) (n + 1) ∧ Below w.heap.size w w' := by
  have HN : Hid (xs.length = n) := hn
  have HM : Hid (ys.length = m) := hm
  clear hn hm
  go_enter Tryz.func86, Tryz.ntmps86
  go_wp2_with (first
    | (at_make; refine wpList_make_nums _ rfl _ _ 29 rfl 167 .u32 4 Tryz.underlying29 Tryz.info167 _ _ _ _ (n + 1) rfl rfl (by omega) (by omega) (by decide) (by omega) ?_; intro w1 hr1 hb1 hz1)
    | (refine wpList_copy_nums rfl (.tmp 20) (.tmp 21) 29 rfl 167 .u32 4 Tryz.underlying29 Tryz.info167 _ (n + 1) (n + 1) ao n cap rfl rfl _ xs hr1 (by simp) HN.out (hs.below hb1) (Nat.le_succ _) ?_; intro w2 hr2 hb2 hz2))
  have hr3 : Row .u32 167 w2 w.heap.size (xs ++ [0]) := by
    have e : (List.replicate (n + 1) 0).drop n = [0] := by rw [List.drop_replicate]; simp
    rw [e] at hr2; exact hr2
  have hb3 : Below w.heap.size w w2 := hb1.trans hb2
  clear hr1 hr2 hb1 hb2 hz1 hz2
  have HX : Hid (xs.length = n) := HN
  have HY : Hid (ys.length = m) := HM
  go_loopw [6, 25] (fun c i wr => ∃ k cN : Nat, ∃ zs, k ≤ n + 1 ∧ i = .int .i64 k ∧ c = .int .u64 cN ∧ cN ≤ 1 ∧ Hid (zs.length = n + 1) ∧ Digs 4294967296 zs ∧ Hid (val 4294967296 (zs.take k) + 4294967296 ^ k * cN = val 4294967296 (xs.take k) + val 4294967296 (ys.take k)) ∧
      Hid (zs.drop k = (xs ++ [0]).drop k) ∧ Row .u32 167 wr w.heap.size zs ∧ Below w.heap.size w wr) (fun _ i _ => n + 1 - (intOf i).toNat)
  case atStart => exact ⟨0, 0, xs ++ [0], Nat.zero_le _, rfl, rfl, by omega, (by rw [List.length_append, HX.out]; rfl : _ = _), hdx.append (Digs.cons (by decide) (Digs.nil _)), (by simp [val] : _ = _), (rfl : _ = _), hr3, hb3⟩
  case round =>
    obtain ⟨k, cN, zs, hk, rfl, rfl, hc, HZ, hzd, HV, HD, hrow, hbel⟩ := hrel
    by_cases h0 : k < n + 1
    · have hout := hrow.cell k (by have := HZ.out; omega)
      obtain ⟨x, hx⟩ : ∃ x, x = zs.getD k 0 := ⟨_, rfl⟩
      rw [← hx] at hout
      have hxl : x < 4294967296 := hx ▸ hzd.getD (by decide) k
      have HXX : Hid (x = xs.getD k 0) := by show _ = _; rw [hx, getD_drop0 zs _ k HD.out, getD_snoc0]
      have hfr := hrow.frozen k
      clear hx
      by_cases hb : k < m
      · obtain ⟨b, off, rfl, hcs⟩ := ht.open k (by have := HY.out; omega)
        have hbw : b < w.heap.size := World.block_lt_of_cell? w ⟨b, off + k, none⟩ (hcs k (by have := HY.out; omega))
        have hcell := (hbel.cell (p := ⟨b, off + k, none⟩) hbw).trans (hcs k (by have := HY.out; omega))
        obtain ⟨y, hy⟩ : ∃ y, y = ys.getD k 0 := ⟨_, rfl⟩
        have hyl : y < 4294967296 := hy ▸ hdy.getD (by decide) k
        rw [← hy] at hcell
        have HYY : Hid (y = ys.getD k 0) := hy
        clear hy hcs
        go_wp2
        go_roundw
        case rel =>
          refine ⟨k + 1, (x + cN + y) / 4294967296, zs.set k ((x + cN + y) % 4294967296), by omega, by go_num, rfl, by omega, ?_, hzd.set _ _ (Nat.mod_lt _ (by decide)), ?_, ?_, hrow.set k _ _ rfl, hbel.setCell (Nat.le_refl _) _⟩
          · show _ = _
            rw [List.length_set]; exact HZ.out
          · show _ = _
            rw [val_set_succ _ _ _ _ (by have := HZ.out; omega), val_take_succ', val_take_succ', ← HXX.out, ← HYY.out, Nat.pow_succ]
            exact plus_step _ _ _ _ _ _ _ _ _ _ HV.out (by rw [Nat.mod_add_div]; omega)
          · show _ = _
            rw [drop_set_succ]; exact drop_succ_of _ _ _ HD.out
        case measure => simp [intOf]; omega
      · have hy0 : ys.getD k 0 = 0 := by
          rw [List.getD_eq_getElem?_getD, List.getElem?_eq_none (by have := HY.out; omega)]; rfl
        have HY0 : Hid (ys.getD k 0 = 0) := hy0
        clear hy0
        by_cases hc0 : cN = 0
        · have hcb : ((cN : Int) == 0) = true := by rw [beq_iff_eq]; omega
          have HV2 : Hid (val 4294967296 zs = val 4294967296 xs + val 4294967296 ys) := add_rest 4294967296 zs xs ys k (by rw [HZ.out, HX.out]) (by have := HX.out; omega) (by have := HY.out; omega) HD.out (by have h := HV.out; rw [hc0] at h; exact h)
          have hsg := hrow.all
          clear hc0
          go_wp2_with (go_at_call 113; refine (trimmed_any (some ⟨w.heap.size, 0, none⟩) (n + 1) (n + 1) zs _ HZ.out (Nat.le_refl _) (by unfold maxLen; omega) hsg).mono ?_; rintro e w' ⟨rfl, rfl⟩)
          go_ret
          refine ⟨_, rfl, ?_, hbel⟩
          have h5 := LimR.row hrow hzd (n + 1) (n + 1) (by rw [HZ.out]; exact Nat.le_refl _) (Nat.le_refl _)
          rw [HV2.out] at h5
          exact h5
        · have hcb : ((cN : Int) == 0) = false := by rw [beq_eq_false_iff_ne]; omega
          clear hc0
          go_wp2
          go_roundw
          case rel =>
            refine ⟨k + 1, (x + cN) / 4294967296, zs.set k ((x + cN) % 4294967296), by omega, by go_num, rfl, by omega, ?_, hzd.set _ _ (Nat.mod_lt _ (by decide)), ?_, ?_, hrow.set k _ _ rfl, hbel.setCell (Nat.le_refl _) _⟩
            · show _ = _
              rw [List.length_set]; exact HZ.out
            · show _ = _
              rw [val_set_succ _ _ _ _ (by have := HZ.out; omega), val_take_succ', val_take_succ', ← HXX.out, HY0.out, Nat.pow_succ]
              exact plus_step _ _ _ _ _ _ _ _ _ _ HV.out (by rw [Nat.mod_add_div]; omega)
            · show _ = _
              rw [drop_set_succ]; exact drop_succ_of _ _ _ HD.out
          case measure => simp [intOf]; omega
    · have hkn : k = n + 1 := by omega
      subst hkn
      have HV2 : Hid (val 4294967296 zs = val 4294967296 xs + val 4294967296 ys) := by
        have h := HV.out
        have e := HX.out
        rw [← e] at h
        exact add_end 4294967296 zs xs ys cN (by decide) hdx hdy (by rw [HX.out, HY.out]; omega) (by rw [HZ.out, HX.out]) h
      have hsg := hrow.all
      go_wp2_with (go_at_call 113; refine (trimmed_any (some ⟨w.heap.size, 0, none⟩) (n + 1) (n + 1) zs _ HZ.out (Nat.le_refl _) (by unfold maxLen; omega) hsg).mono ?_; rintro e w' ⟨rfl, rfl⟩)
      go_ret
      refine ⟨_, rfl, ?_, hbel⟩
      have h5 := LimR.row hrow hzd (n + 1) (n + 1) (by rw [HZ.out]; exact Nat.le_refl _) (Nat.le_refl _)
      rw [HV2.out] at h5
      exact h5

set_option maxHeartbeats 4000000 in
theorem addLimbs_lt (ao bo : Option Addr) (n m cap cap' : Nat) (xs ys : List Nat) (w : World) (hn : xs.length = n) (hm : ys.length = m) (h1 : n ≤ 9000) (h2 : m ≤ 9000) (hs : Seg .u32 w ao xs) (ht : Seg .u32 w bo ys) (hdx : Digs 4294967296 xs) (hdy : Digs 4294967296 ys) (hle : n < m) :
    Calls Tryz.prog 86 #[.slice ao n cap, .slice bo m cap'] w fun e w' => ∃ v, e = .returned v ∧ LimR w' v (val 4294967296 xs + val 4294967296 ys) (m + 1) ∧ Below w.heap.size w w' := by
  have HN : Hid (xs.length = n) := hn
  have HM : Hid (ys.length = m) := hm
  clear hn hm
  go_enter Tryz.func86, Tryz.ntmps86
  go_wp2_with (first
    | (at_make; refine wpList_make_nums _ rfl _ _ 29 rfl 167 .u32 4 Tryz.underlying29 Tryz.info167 _ _ _ _ (m + 1) rfl rfl (by omega) (by omega) (by decide) (by omega) ?_; intro w1 hr1 hb1 hz1)
    | (refine wpList_copy_nums rfl (.tmp 20) (.tmp 21) 29 rfl 167 .u32 4 Tryz.underlying29 Tryz.info167 _ (m + 1) (m + 1) bo m cap' rfl rfl _ ys hr1 (by simp) HM.out (ht.below hb1) (Nat.le_succ _) ?_; intro w2 hr2 hb2 hz2))
  have hr3 : Row .u32 167 w2 w.heap.size (ys ++ [0]) := by
    have e : (List.replicate (m + 1) 0).drop m = [0] := by rw [List.drop_replicate]; simp
    rw [e] at hr2; exact hr2
  have hb3 : Below w.heap.size w w2 := hb1.trans hb2
  clear hr1 hr2 hb1 hb2 hz1 hz2
  have HX : Hid (ys.length = m) := HM
  have HY : Hid (xs.length = n) := HN
  go_loopw [6, 25] (fun c i wr => ∃ k cN : Nat, ∃ zs, k ≤ m + 1 ∧ i = .int .i64 k ∧ c = .int .u64 cN ∧ cN ≤ 1 ∧ Hid (zs.length = m + 1) ∧ Digs 4294967296 zs ∧ Hid (val 4294967296 (zs.take k) + 4294967296 ^ k * cN = val 4294967296 (ys.take k) + val 4294967296 (xs.take k)) ∧
      Hid (zs.drop k = (ys ++ [0]).drop k) ∧ Row .u32 167 wr w.heap.size zs ∧ Below w.heap.size w wr) (fun _ i _ => m + 1 - (intOf i).toNat)
  case atStart => exact ⟨0, 0, ys ++ [0], Nat.zero_le _, rfl, rfl, by omega, (by rw [List.length_append, HX.out]; rfl : _ = _), hdy.append (Digs.cons (by decide) (Digs.nil _)), (by simp [val] : _ = _), (rfl : _ = _), hr3, hb3⟩
  case round =>
    obtain ⟨k, cN, zs, hk, rfl, rfl, hc, HZ, hzd, HV, HD, hrow, hbel⟩ := hrel
    by_cases h0 : k < m + 1
    · have hout := hrow.cell k (by have := HZ.out; omega)
      obtain ⟨x, hx⟩ : ∃ x, x = zs.getD k 0 := ⟨_, rfl⟩
      rw [← hx] at hout
      have hxl : x < 4294967296 := hx ▸ hzd.getD (by decide) k
      have HXX : Hid (x = ys.getD k 0) := by show _ = _; rw [hx, getD_drop0 zs _ k HD.out, getD_snoc0]
      have hfr := hrow.frozen k
      clear hx
      by_cases hb : k < n
      · obtain ⟨b, off, rfl, hcs⟩ := hs.open k (by have := HY.out; omega)
        have hbw : b < w.heap.size := World.block_lt_of_cell? w ⟨b, off + k, none⟩ (hcs k (by have := HY.out; omega))
        have hcell := (hbel.cell (p := ⟨b, off + k, none⟩) hbw).trans (hcs k (by have := HY.out; omega))
        obtain ⟨y, hy⟩ : ∃ y, y = xs.getD k 0 := ⟨_, rfl⟩
        have hyl : y < 4294967296 := hy ▸ hdx.getD (by decide) k
        rw [← hy] at hcell
        have HYY : Hid (y = xs.getD k 0) := hy
        clear hy hcs
        go_wp2
        go_roundw
        case rel =>
          refine ⟨k + 1, (x + cN + y) / 4294967296, zs.set k ((x + cN + y) % 4294967296), by omega, by go_num, rfl, by omega, ?_, hzd.set _ _ (Nat.mod_lt _ (by decide)), ?_, ?_, hrow.set k _ _ rfl, hbel.setCell (Nat.le_refl _) _⟩
          · show _ = _
            rw [List.length_set]; exact HZ.out
          · show _ = _
            rw [val_set_succ _ _ _ _ (by have := HZ.out; omega), val_take_succ', val_take_succ', ← HXX.out, ← HYY.out, Nat.pow_succ]
            exact plus_step _ _ _ _ _ _ _ _ _ _ HV.out (by rw [Nat.mod_add_div]; omega)
          · show _ = _
            rw [drop_set_succ]; exact drop_succ_of _ _ _ HD.out
        case measure => simp [intOf]; omega
      · have hy0 : xs.getD k 0 = 0 := by
          rw [List.getD_eq_getElem?_getD, List.getElem?_eq_none (by have := HY.out; omega)]; rfl
        have HY0 : Hid (xs.getD k 0 = 0) := hy0
        clear hy0
        by_cases hc0 : cN = 0
        · have hcb : ((cN : Int) == 0) = true := by rw [beq_iff_eq]; omega
          have HV2 : Hid (val 4294967296 zs = val 4294967296 ys + val 4294967296 xs) := add_rest 4294967296 zs ys xs k (by rw [HZ.out, HX.out]) (by have := HX.out; omega) (by have := HY.out; omega) HD.out (by have h := HV.out; rw [hc0] at h; exact h)
          have hsg := hrow.all
          clear hc0
          go_wp2_with (go_at_call 113; refine (trimmed_any (some ⟨w.heap.size, 0, none⟩) (m + 1) (m + 1) zs _ HZ.out (Nat.le_refl _) (by unfold maxLen; omega) hsg).mono ?_; rintro e w' ⟨rfl, rfl⟩)
          go_ret
          refine ⟨_, rfl, ?_, hbel⟩
          have h5 := LimR.row hrow hzd (m + 1) (m + 1) (by rw [HZ.out]; exact Nat.le_refl _) (Nat.le_refl _)
          rw [HV2.out, Nat.add_comm (val 4294967296 ys)] at h5
          exact h5
        · have hcb : ((cN : Int) == 0) = false := by rw [beq_eq_false_iff_ne]; omega
          clear hc0
          go_wp2
          go_roundw
          case rel =>
            refine ⟨k + 1, (x + cN) / 4294967296, zs.set k ((x + cN) % 4294967296), by omega, by go_num, rfl, by omega, ?_, hzd.set _ _ (Nat.mod_lt _ (by decide)), ?_, ?_, hrow.set k _ _ rfl, hbel.setCell (Nat.le_refl _) _⟩
            · show _ = _
              rw [List.length_set]; exact HZ.out
            · show _ = _
              rw [val_set_succ _ _ _ _ (by have := HZ.out; omega), val_take_succ', val_take_succ', ← HXX.out, HY0.out, Nat.pow_succ]
              exact plus_step _ _ _ _ _ _ _ _ _ _ HV.out (by rw [Nat.mod_add_div]; omega)
            · show _ = _
              rw [drop_set_succ]; exact drop_succ_of _ _ _ HD.out
          case measure => simp [intOf]; omega
    · have hkn : k = m + 1 := by omega
      subst hkn
      have HV2 : Hid (val 4294967296 zs = val 4294967296 ys + val 4294967296 xs) := by
        have h := HV.out
        have e := HX.out
        rw [← e] at h
        exact add_end 4294967296 zs ys xs cN (by decide) hdy hdx (by rw [HX.out, HY.out]; omega) (by rw [HZ.out, HX.out]) h
      have hsg := hrow.all
      go_wp2_with (go_at_call 113; refine (trimmed_any (some ⟨w.heap.size, 0, none⟩) (m + 1) (m + 1) zs _ HZ.out (Nat.le_refl _) (by unfold maxLen; omega) hsg).mono ?_; rintro e w' ⟨rfl, rfl⟩)
      go_ret
      refine ⟨_, rfl, ?_, hbel⟩
      have h5 := LimR.row hrow hzd (m + 1) (m + 1) (by rw [HZ.out]; exact Nat.le_refl _) (Nat.le_refl _)
      rw [HV2.out, Nat.add_comm (val 4294967296 ys)] at h5
      exact h5

theorem addLimbs_any (ao bo : Option Addr) (n m cap cap' : Nat) (xs ys : List Nat) (w : World) (hn : xs.length = n) (hm : ys.length = m) (h1 : n ≤ 9000) (h2 : m ≤ 9000) (hs : Seg .u32 w ao xs) (ht : Seg .u32 w bo ys) (hdx : Digs 4294967296 xs) (hdy : Digs 4294967296 ys) :
    Calls Tryz.prog 86 #[.slice ao n cap, .slice bo m cap'] w fun e w' => ∃ v, e = .returned v ∧ LimR w' v (val 4294967296 xs + val 4294967296 ys) 9001 ∧ Below w.heap.size w w' := by
  have fin : ∀ L, L ≤ 9001 → ∀ (e : Ending) (w' : World), (∃ v, e = .returned v ∧ LimR w' v (val 4294967296 xs + val 4294967296 ys) L ∧ Below w.heap.size w w') → ∃ v, e = .returned v ∧ LimR w' v (val 4294967296 xs + val 4294967296 ys) 9001 ∧ Below w.heap.size w w' := by
    rintro L hL e w' ⟨v, h1, ⟨a, c, ls, h2, h3, h4, h5⟩, h6⟩
    exact ⟨v, h1, ⟨a, c, ls, h2, h3, by omega, h5⟩, h6⟩
  rcases Nat.lt_or_ge n m with h | h
  · exact (addLimbs_lt ao bo n m cap cap' xs ys w hn hm h1 h2 hs ht hdx hdy h).mono (fin (m + 1) (by omega))
  · exact (addLimbs_ge ao bo n m cap cap' xs ys w hn hm h1 h2 hs ht hdx hdy h).mono (fin (n + 1) (by omega))
end Go.Proofs.YteefniagebcagaaGreatDoor
/- Contract of arith.subLimbs; it proves no statement of the seat. -/
namespace Go.Proofs.YteefniagebcagaaGreatDoor
open Go.RowKit

theorem sub32_c (x y b : Nat) (w : World) (hx : x < 4294967296) (hy : y < 4294967296) (hb : b ≤ 1) :
    Calls Tryz.prog 124 #[.int .u32 x, .int .u32 y, .int .u32 b] w fun e w' =>
      ∃ d b' : Nat, e = .returned (.tuple #[.int .u32 d, .int .u32 b']) ∧ d < 4294967296 ∧ b' ≤ 1 ∧ Hid (d + y + b = x + 4294967296 * b') ∧ w' = w := by
  refine (sub32_any x y b w (by omega) (by omega) hb).mono ?_
  rintro e w' ⟨rfl, rfl⟩
  refine ⟨_, _, rfl, Nat.mod_lt _ (by decide), by split <;> omega, ?_, rfl⟩
  show _ = _
  by_cases h : x < y + b
  · rw [if_pos h]; omega
  · rw [if_neg h]; omega

theorem sub_step (P A b X Y x y d b' B : Nat) (h : A + Y = X + P * b) (hs : d + y + b = x + B * b') : (A + P * d) + (Y + P * y) = (X + P * x) + P * B * b' := by
  have e := congrArg (P * ·) hs
  simp only [Nat.mul_add, Nat.mul_assoc] at *
  omega

theorem sub_rest (B : Nat) (zs xs ys : List Nat) (k : Nat) (hz : zs.length = xs.length) (hk : k ≤ xs.length) (hm : ys.length ≤ k) (hd : zs.drop k = xs.drop k) (h : val B (zs.take k) + val B (ys.take k) = val B (xs.take k) + B ^ k * 0) : val B zs + val B ys = val B xs := by
  rw [val_split B zs k (by omega), hd, val_split B xs k hk]
  rw [List.take_of_length_le hm] at h
  omega

set_option maxHeartbeats 4000000 in
theorem subLimbs_any (ao bo : Option Addr) (n m cap cap' : Nat) (xs ys : List Nat) (w : World) (hn : xs.length = n) (hm : ys.length = m) (h1 : n ≤ 9000) (hmn : m ≤ n) (hs : Seg .u32 w ao xs) (ht : Seg .u32 w bo ys) (hdx : Digs 4294967296 xs) (hdy : Digs 4294967296 ys) (hle : val 4294967296 ys ≤ val 4294967296 xs) :
    Calls Tryz.prog 89 #[.slice ao n cap, .slice bo m cap'] w fun e w' => ∃ v, e = .returned v ∧ LimR w' v (val 4294967296 xs - val 4294967296 ys) 9001 ∧ Below w.heap.size w w' := by
  have HN : Hid (xs.length = n) := hn
  have HM : Hid (ys.length = m) := hm
  have HLE : Hid (val 4294967296 ys ≤ val 4294967296 xs) := hle
  clear hn hm hle
  go_enter Tryz.func89, Tryz.ntmps89
  go_wp2_with fail
  refine (copied_any ao n cap xs _ HN.out (by omega) hs).mono ?_
  rintro e w1 ⟨rfl, hr1, hb1, hz1⟩
  clear hz1
  go_wp2
  go_loopw [6, 13] (fun c i wr => ∃ k bN : Nat, ∃ zs, k ≤ n ∧ i = .int .i64 k ∧ c = .int .u32 bN ∧ bN ≤ 1 ∧ Hid (zs.length = n) ∧ Digs 4294967296 zs ∧ Hid (val 4294967296 (zs.take k) + val 4294967296 (ys.take k) = val 4294967296 (xs.take k) + 4294967296 ^ k * bN) ∧
      Hid (zs.drop k = xs.drop k) ∧ Row .u32 167 wr w.heap.size zs ∧ Below w.heap.size w wr) (fun _ i _ => n - (intOf i).toNat)
  case atStart => exact ⟨0, 0, xs, Nat.zero_le _, rfl, rfl, by omega, HN, hdx, (by simp [val] : _ = _), (rfl : _ = _), hr1, hb1⟩
  case round =>
    obtain ⟨k, bN, zs, hk, rfl, rfl, hc, HZ, hzd, HV, HD, hrow, hbel⟩ := hrel
    by_cases h0 : k < n
    · have hout := hrow.cell k (by have := HZ.out; omega)
      obtain ⟨x, hx⟩ : ∃ x, x = zs.getD k 0 := ⟨_, rfl⟩
      rw [← hx] at hout
      have hxl : x < 4294967296 := hx ▸ hzd.getD (by decide) k
      have HXX : Hid (x = xs.getD k 0) := by show _ = _; rw [hx, getD_drop0 zs _ k HD.out]
      have hfr := hrow.frozen k
      clear hx
      by_cases hb : k < m
      · obtain ⟨b, off, rfl, hcs⟩ := ht.open k (by have := HM.out; omega)
        have hbw : b < w.heap.size := World.block_lt_of_cell? w ⟨b, off + k, none⟩ (hcs k (by have := HM.out; omega))
        have hcell := (hbel.cell (p := ⟨b, off + k, none⟩) hbw).trans (hcs k (by have := HM.out; omega))
        obtain ⟨y, hy⟩ : ∃ y, y = ys.getD k 0 := ⟨_, rfl⟩
        have hyl : y < 4294967296 := hy ▸ hdy.getD (by decide) k
        rw [← hy] at hcell
        have HYY : Hid (y = ys.getD k 0) := hy
        clear hy hcs
        go_wp2_with (go_at_call 124; refine (sub32_c x y bN _ hxl hyl hc).mono ?_; rintro e w2 ⟨d, b', rfl, hdl, hb', HS, rfl⟩)
        go_roundw
        case rel =>
          refine ⟨k + 1, b', zs.set k d, by omega, by go_num, rfl, hb', ?_, hzd.set _ _ hdl, ?_, ?_, hrow.set k _ _ rfl, hbel.setCell (Nat.le_refl _) _⟩
          · show _ = _
            rw [List.length_set]; exact HZ.out
          · show _ = _
            rw [val_set_succ _ _ _ _ (by have := HZ.out; omega), val_take_succ', val_take_succ', ← HXX.out, ← HYY.out, Nat.pow_succ]
            exact sub_step _ _ _ _ _ _ _ _ _ _ HV.out HS.out
          · show _ = _
            rw [drop_set_succ]; exact drop_succ_of _ _ _ HD.out
        case measure => simp [intOf]; omega
      · have hy0 : ys.getD k 0 = 0 := by
          rw [List.getD_eq_getElem?_getD, List.getElem?_eq_none (by have := HM.out; omega)]; rfl
        have HY0 : Hid (ys.getD k 0 = 0) := hy0
        clear hy0
        by_cases hc0 : bN = 0
        · have hcb : ((bN : Int) == 0) = true := by rw [beq_iff_eq]; omega
          have HV2 : Hid (val 4294967296 zs + val 4294967296 ys = val 4294967296 xs) := sub_rest 4294967296 zs xs ys k (by rw [HZ.out, HN.out]) (by have := HN.out; omega) (by have := HM.out; omega) HD.out (by have h := HV.out; rw [hc0] at h; exact h)
          have hsg := hrow.all
          clear hc0
          go_wp2_with (go_at_call 113; refine (trimmed_any (some ⟨w.heap.size, 0, none⟩) n n zs _ HZ.out (Nat.le_refl _) (by unfold maxLen; omega) hsg).mono ?_; rintro e w' ⟨rfl, rfl⟩)
          go_ret
          refine ⟨_, rfl, ?_, hbel⟩
          have h5 := LimR.row hrow hzd n 9001 (by rw [HZ.out]; exact Nat.le_refl _) (by omega)
          rw [show val 4294967296 zs = val 4294967296 xs - val 4294967296 ys by have := HV2.out; omega] at h5
          exact h5
        · have hcb : ((bN : Int) == 0) = false := by rw [beq_eq_false_iff_ne]; omega
          clear hc0
          go_wp2_with (go_at_call 124; refine (sub32_c x 0 bN _ hxl (by decide) hc).mono ?_; rintro e w2 ⟨d, b', rfl, hdl, hb', HS, rfl⟩)
          go_roundw
          case rel =>
            refine ⟨k + 1, b', zs.set k d, by omega, by go_num, rfl, hb', ?_, hzd.set _ _ hdl, ?_, ?_, hrow.set k _ _ rfl, hbel.setCell (Nat.le_refl _) _⟩
            · show _ = _
              rw [List.length_set]; exact HZ.out
            · show _ = _
              rw [val_set_succ _ _ _ _ (by have := HZ.out; omega), val_take_succ', val_take_succ', ← HXX.out, HY0.out, Nat.pow_succ]
              exact sub_step _ _ _ _ _ _ _ _ _ _ HV.out HS.out
            · show _ = _
              rw [drop_set_succ]; exact drop_succ_of _ _ _ HD.out
          case measure => simp [intOf]; omega
    · have hkn : k = n := by omega
      subst hkn
      have HV2 : Hid (val 4294967296 zs + val 4294967296 ys = val 4294967296 xs) := by
        show _ = _
        have h := HV.out
        rw [List.take_of_length_le (by have := HZ.out; omega), List.take_of_length_le (by have := HM.out; omega), List.take_of_length_le (by have := HN.out; omega)] at h
        have h3 := val_lt hzd
        rw [HZ.out] at h3
        have h4 := HLE.out
        have h5 : bN = 0 := by
          rcases Nat.eq_zero_or_pos bN with h6 | h6
          · exact h6
          · have : 4294967296 ^ k * 1 ≤ 4294967296 ^ k * bN := Nat.mul_le_mul_left _ h6
            omega
        rw [h5] at h
        omega
      have hsg := hrow.all
      go_wp2_with (go_at_call 113; refine (trimmed_any (some ⟨w.heap.size, 0, none⟩) k k zs _ HZ.out (Nat.le_refl _) (by unfold maxLen; omega) hsg).mono ?_; rintro e w' ⟨rfl, rfl⟩)
      go_ret
      refine ⟨_, rfl, ?_, hbel⟩
      have h5 := LimR.row hrow hzd k 9001 (by rw [HZ.out]; exact Nat.le_refl _) (by omega)
      rw [show val 4294967296 zs = val 4294967296 xs - val 4294967296 ys by have := HV2.out; omega] at h5
      exact h5
end Go.Proofs.YteefniagebcagaaGreatDoor
/- Contract of arith.mulLimbs; it proves no statement of the seat. -/
namespace Go.Proofs.YteefniagebcagaaGreatDoor
open Go.RowKit

theorem mul_step (A P Q c Z0 x Y y z d c' B : Nat) (h : A + P * Q * c = Z0 + P * x * Y) (hs : d + B * c' = x * y + z + c) :
    (A + P * Q * d) + P * Q * B * c' = (Z0 + P * Q * z) + P * x * (Y + Q * y) := by
  have e := congrArg (P * Q * ·) hs
  simp only [Nat.mul_add, Nat.mul_assoc] at *
  have e2 : Q * (x * y) = x * (Q * y) := by rw [← Nat.mul_assoc, Nat.mul_comm Q x, Nat.mul_assoc]
  rw [e2] at e
  omega

theorem mul_end (A P Q c V0 x Y X : Nat) (h : A + P * Q * c = V0 + P * x * Y) (h0 : V0 = X * Y) : A + P * Q * c = (X + P * x) * Y := by
  rw [h, h0, Nat.add_mul]

theorem take_zeros (B n k : Nat) : val B ((List.replicate n 0).take k) = 0 := by
  rw [List.take_replicate, val_replicate_zero]

set_option maxHeartbeats 4000000 in
theorem mulLimbs_any (ao bo : Option Addr) (n m cap cap' : Nat) (xs ys : List Nat) (w : World) (hn : xs.length = n) (hm : ys.length = m) (h1 : n ≤ 4000) (h2 : m ≤ 4000) (hs : Seg .u32 w ao xs) (ht : Seg .u32 w bo ys) (hdx : Digs 4294967296 xs) (hdy : Digs 4294967296 ys) :
    Calls Tryz.prog 105 #[.slice ao n cap, .slice bo m cap'] w fun e w' => ∃ v, e = .returned v ∧ LimR w' v (val 4294967296 xs * val 4294967296 ys) 9001 ∧ Below w.heap.size w w' := by
  have HN : Hid (xs.length = n) := hn
  have HM : Hid (ys.length = m) := hm
  clear hn hm
  go_enter Tryz.func105, Tryz.ntmps105
  go_wp2_with (first
    | (at_make; refine wpList_make_nums _ rfl _ _ 29 rfl 167 .u32 4 Tryz.underlying29 Tryz.info167 _ _ _ _ (n + m) rfl rfl (by omega) (by omega) (by decide) (by omega) ?_; intro w1 hr1 hb1 hz1))
  go_loopw [20] (fun i wr => ∃ k : Nat, ∃ zs, k ≤ n ∧ i = .int .i64 k ∧ Hid (zs.length = n + m) ∧ Digs 4294967296 zs ∧ Hid (val 4294967296 (zs.take (k + m)) = val 4294967296 (xs.take k) * val 4294967296 ys) ∧ Row .u32 167 wr w.heap.size zs ∧ Below w.heap.size w wr) (fun i _ => n - (intOf i).toNat)
  case atStart => exact ⟨0, _, Nat.zero_le _, rfl, (by simp : _ = _), Digs.replicate _ _ (by decide), (by rw [take_zeros]; simp [val] : _ = _), hr1, hb1⟩
  case round =>
    obtain ⟨k, z0, hk, rfl, HZ0, hzd0, HV0, hrow0, hbel0⟩ := hrel
    by_cases h0 : k < n
    · obtain ⟨b, off, rfl, hcs⟩ := hs.open k (by have := HN.out; omega)
      have hbw : b < w.heap.size := World.block_lt_of_cell? w ⟨b, off + k, none⟩ (hcs k (by have := HN.out; omega))
      have hcell := (hbel0.cell (p := ⟨b, off + k, none⟩) hbw).trans (hcs k (by have := HN.out; omega))
      obtain ⟨x, hx⟩ : ∃ x, x = xs.getD k 0 := ⟨_, rfl⟩
      have hxl : x < 4294967296 := hx ▸ hdx.getD (by decide) k
      rw [← hx] at hcell
      have HX : Hid (x = xs.getD k 0) := hx
      clear hx hcs hr1 hb1 hz1
      go_wp2
      go_loopw [8, 27] (fun c i wr => ∃ j cN : Nat, ∃ zs, j ≤ m ∧ i = .int .i64 j ∧ c = .int .u64 cN ∧ cN < 4294967296 ∧ Hid (zs.length = n + m) ∧ Digs 4294967296 zs ∧ Hid (zs.drop (k + j) = z0.drop (k + j)) ∧
        Hid (val 4294967296 (zs.take (k + j)) + 4294967296 ^ k * 4294967296 ^ j * cN = val 4294967296 (z0.take (k + j)) + 4294967296 ^ k * x * val 4294967296 (ys.take j)) ∧ Row .u32 167 wr w.heap.size zs ∧ Below w.heap.size w wr) (fun _ i _ => m - (intOf i).toNat)
      case atStart => exact ⟨0, 0, z0, Nat.zero_le _, rfl, rfl, by omega, HZ0, hzd0, (rfl : _ = _), (by simp [val] : _ = _), hrow0, hbel0⟩
      case round =>
        obtain ⟨j, cN, zs, hj, rfl, rfl, hcl, HZ, hzd, HD, HV, hrow, hbel⟩ := hrel
        by_cases hjm : j < m
        · obtain ⟨b2, off2, rfl, hcs2⟩ := ht.open j (by have := HM.out; omega)
          have hbw2 : b2 < w.heap.size := World.block_lt_of_cell? w ⟨b2, off2 + j, none⟩ (hcs2 j (by have := HM.out; omega))
          have hcell2 := (hbel.cell (p := ⟨b2, off2 + j, none⟩) hbw2).trans (hcs2 j (by have := HM.out; omega))
          obtain ⟨y, hy⟩ : ∃ y, y = ys.getD j 0 := ⟨_, rfl⟩
          have hyl : y < 4294967296 := hy ▸ hdy.getD (by decide) j
          rw [← hy] at hcell2
          have HY : Hid (y = ys.getD j 0) := hy
          have hout := hrow.cell (k + j) (by have := HZ.out; omega)
          obtain ⟨z, hz⟩ : ∃ z, z = zs.getD (k + j) 0 := ⟨_, rfl⟩
          rw [← hz] at hout
          have hzl : z < 4294967296 := hz ▸ hzd.getD (by decide) (k + j)
          have HZZ : Hid (z = z0.getD (k + j) 0) := by show _ = _; rw [hz, getD_drop0 zs _ (k + j) HD.out]
          have hfr := hrow.frozen (k + j)
          have hprod := mul_lt_word x y hxl hyl
          have hprod' : (x : Int) * (y : Int) ≤ 18446744065119617025 := by rw [← Int.natCast_mul]; omega
          have hprod0 : 0 ≤ (x : Int) * (y : Int) := by rw [← Int.natCast_mul]; omega
          clear hy hz hcs2 hprod
          go_wp2
          go_roundw
          case rel =>
            have hprod := mul_lt_word x y hxl hyl
            refine ⟨j + 1, (x * y + z + cN) / 4294967296, zs.set (k + j) ((x * y + z + cN) % 4294967296), by omega, by go_num, rfl, by omega, ?_, hzd.set _ _ (Nat.mod_lt _ (by decide)), ?_, ?_, hrow.set (k + j) _ _ rfl, hbel.setCell (Nat.le_refl _) _⟩
            · show _ = _
              rw [List.length_set]; exact HZ.out
            · show _ = _
              rw [← Nat.add_assoc, drop_set_succ]; exact drop_succ_of _ _ _ HD.out
            · show _ = _
              rw [← Nat.add_assoc, val_set_succ _ _ _ _ (by have := HZ.out; omega), val_take_succ', val_take_succ', ← HZZ.out, ← HY.out, Nat.pow_succ, Nat.pow_add, ← Nat.mul_assoc]
              exact mul_step _ _ _ _ _ _ _ _ _ _ _ _ HV.out (Nat.mod_add_div _ _)
          case measure => simp [intOf]; omega
        · have hjm' : j = m := by omega
          subst hjm'
          have hout := hrow.cell (k + j) (by have := HZ.out; omega)
          obtain ⟨z, hz⟩ : ∃ z, z = zs.getD (k + j) 0 := ⟨_, rfl⟩
          rw [← hz] at hout
          have hfr := hrow.frozen (k + j)
          clear hz
          go_wp2
          go_roundw
          case rel =>
            refine ⟨k + 1, zs.set (k + j) cN, by omega, by go_num, ?_, hzd.set _ _ hcl, ?_, hrow.set (k + j) _ _ rfl, hbel.setCell (Nat.le_refl _) _⟩
            · show _ = _
              rw [List.length_set]; exact HZ.out
            · show _ = _
              have h5 := HV.out
              rw [List.take_of_length_le (l := ys) (by have := HM.out; omega)] at h5
              rw [show k + 1 + j = k + j + 1 by omega, val_set_succ _ _ _ _ (by have := HZ.out; omega), val_take_succ', ← HX.out, Nat.pow_add]
              exact mul_end _ _ _ _ _ _ _ _ h5 HV0.out
          case measure => simp [intOf]; omega
    · have hkn : k = n := by omega
      subst hkn
      have HV2 : Hid (val 4294967296 z0 = val 4294967296 xs * val 4294967296 ys) := by
        show _ = _
        have h := HV0.out
        rw [List.take_of_length_le (by have := HZ0.out; omega), List.take_of_length_le (by have := HN.out; omega)] at h
        exact h
      have hsg := hrow0.all
      go_wp2_with (go_at_call 113; refine (trimmed_any (some ⟨w.heap.size, 0, none⟩) (k + m) (k + m) z0 _ HZ0.out (Nat.le_refl _) (by unfold maxLen; omega) hsg).mono ?_; rintro e w' ⟨rfl, rfl⟩)
      go_ret
      refine ⟨_, rfl, ?_, hbel0⟩
      have h5 := LimR.row hrow0 hzd0 (k + m) 9001 (by rw [HZ0.out]; exact Nat.le_refl _) (by omega)
      rw [HV2.out] at h5
      exact h5
end Go.Proofs.YteefniagebcagaaGreatDoor
/- Contracts of arith.gcdWords and From; they prove no statement of the seat. -/
namespace Go.Proofs.YteefniagebcagaaGreatDoor
open Go.RowKit

set_option maxHeartbeats 1000000 in
theorem gcdWords_any (a b : Nat) (w : World) (ha : (a : Int) < 18446744073709551616) (hb : (b : Int) < 18446744073709551616) :
    Calls Tryz.prog 115 #[.int .u64 a, .int .u64 b] w fun e w' => e = .returned (.int .u64 (Nat.gcd a b)) ∧ Below w.heap.size w w' := by
  go_enter Tryz.func115, Tryz.ntmps115
  go_wp2
  go_loopw [0, 1] (fun u v wr => ∃ x y : Nat, u = .int .u64 x ∧ v = .int .u64 y ∧ (x : Int) < 18446744073709551616 ∧ (y : Int) < 18446744073709551616 ∧ Hid (Nat.gcd x y = Nat.gcd a b) ∧ Below w.heap.size w wr) (fun _ v _ => (intOf v).toNat)
  case atStart => exact ⟨a, b, rfl, rfl, ha, hb, (rfl : _ = _), Below.refl _ _⟩
  case round =>
    obtain ⟨x, y, rfl, rfl, hx, hy, HG, hbel⟩ := hrel
    by_cases h0 : y = 0
    · have hn : ((y : Int) != 0) = false := by rw [bne_eq_false_iff_eq]; omega
      have HY : Hid (y = 0) := h0
      clear h0
      go_wp2
      go_ret
      refine ⟨?_, hbel⟩
      have h1 := HG.out
      rw [HY.out, Nat.gcd_zero_right] at h1
      rw [h1]
      rfl
    · have hn : ((y : Int) != 0) = true := by rw [bne_iff_ne]; omega
      have hm : x % y < y := Nat.mod_lt _ (by omega)
      have hm' : (x : Int) % (y : Int) < (y : Int) := by rw [← Int.natCast_emod]; omega
      have hm0 : 0 ≤ (x : Int) % (y : Int) := by rw [← Int.natCast_emod]; exact Int.natCast_nonneg _
      go_wp2
      go_region
      go_wp2
      go_roundw
      case rel =>
        refine ⟨y, x % y, rfl, by rw [Int.natCast_emod], hy, by omega, ?_, hbel.drew⟩
        show _ = _
        rw [← HG.out, Nat.gcd_comm, ← Nat.gcd_rec, Nat.gcd_comm]
      case measure => simp [intOf]; omega

theorem words_val (n : Nat) : val 4294967296 [n % 4294967296, n / 4294967296] = n := by
  simp [val]; omega
theorem words_digs (n : Nat) (h : n < 18446744073709551616) : Digs 4294967296 [n % 4294967296, n / 4294967296] :=
  Digs.cons (Nat.mod_lt _ (by decide)) (Digs.cons (by omega) (Digs.nil _))

theorem word_lim : 18446744073709551616 ≤ lim := by decide +kernel

/-- arith's signed of a word's limbs. -/
theorem splitWord_int (n : Nat) (N : Int) (hN : N = (n : Int)) (w : World) (hn : n < 18446744073709551616) :
    Calls Tryz.prog 111 #[.int .u64 N] w fun e w' => ∃ v, e = .returned v ∧ LimR w' v n 2 ∧ Below w.heap.size w w' := by
  subst hN
  refine (splitWord_any n w (by omega)).mono ?_
  rintro e w' ⟨rfl, hr, hb, _⟩
  refine ⟨_, rfl, ?_, hb⟩
  have h := LimR.row hr (words_digs n hn) 2 2 (Nat.le_refl _) (Nat.le_refl _)
  rw [words_val] at h
  exact h

theorem signed_lim (neg : Bool) (v : Value) (N L : Nat) (w : World) (hv : LimR w v N L) (hL : L ≤ 10000) (hlim : N < lim) :
    Calls Tryz.prog 88 #[.bool neg, v] w fun e w' => ∃ v', e = .returned v' ∧ AInt w' v' (sv neg N) ∧ Below w.heap.size w w' := by
  obtain ⟨ao, cap, ls, rfl, h1, h2, hs, hd, hn, rfl⟩ := hv
  refine (signed_any neg ao ls.length cap ls w rfl h1 (by omega) hs hd).mono ?_
  rintro e w' ⟨v', neg', rfl, hv', hsv, hb⟩
  refine ⟨v', rfl, ⟨neg', trimZ ls, hv', ?_, by rw [val_trimZ]; exact hlim⟩, hb⟩
  rw [val_trimZ, hsv]

theorem fitting_lim (neg : Bool) (v : Value) (N L : Nat) (w : World) (hv : LimR w v N L) (hL : L ≤ 10000) :
    Calls Tryz.prog 85 #[.bool neg, v] w fun e w' => ∃ v' c, e = .returned (.tuple #[v', .int .i64 c]) ∧ Held w' v' c (sv neg N) ∧ Below w.heap.size w w' := by
  obtain ⟨ao, cap, ls, rfl, h1, h2, hs, hd, hn, rfl⟩ := hv
  exact fitting_any neg ao ls.length cap ls w rfl h1 (by omega) hs hd

set_option maxHeartbeats 1000000 in
theorem from_any (n : Int) (w : World) (h1 : -9223372036854775808 ≤ n) (h2 : n ≤ 9223372036854775807) :
    Calls Tryz.prog 73 #[.int .i64 n] w fun e w' => ∃ v, e = .returned v ∧ AInt w' v n ∧ Below w.heap.size w w' := by
  have B0 := Blk.new w 31 #[.bool false, .slice none 0 0]
  by_cases hneg : n < 0
  · go_enter Tryz.func73, Tryz.ntmps73
    go_wp2_with fail
    refine (splitWord_int n.natAbs _ (by omega) _ (by omega)).mono ?_
    rintro e w1 ⟨v1, rfl, hl1, hb1⟩
    have B1 := B0.stay hb1
    go_wp2_with fail
    refine (signed_lim true v1 n.natAbs 2 _ hl1 (by decide) (by have := word_lim; omega)).mono ?_
    rintro e w2 ⟨v2, rfl, ha2, hb2⟩
    obtain ⟨x, a, m, c, rfl⟩ := ha2.shape
    have B2 := B1.stay hb2
    obtain ⟨c0, c1, f0, f1⟩ := B2.two
    go_wp2
    refine bodyPost_ret (v := .agg #[.bool x, .slice a m c]) (by simp [results, Tryz.results73, go_sem, c0, c1]) rfl ?_
    refine ⟨_, rfl, ?_, below_store2 ((((Below.refl _ _).alloc (Nat.le_refl _) _).step hb1 (Nat.le_refl _)).step hb2 (Nat.le_refl _)) (Nat.le_refl _) _ _⟩
    have e : sv true n.natAbs = n := by simp [sv]; omega
    rw [e] at ha2
    exact ha2.store2 B2 _ _ _ _
  · go_enter Tryz.func73, Tryz.ntmps73
    go_wp2_with fail
    refine (splitWord_int n.natAbs _ (by omega) _ (by omega)).mono ?_
    rintro e w1 ⟨v1, rfl, hl1, hb1⟩
    have B1 := B0.stay hb1
    go_wp2_with fail
    refine (signed_lim false v1 n.natAbs 2 _ hl1 (by decide) (by have := word_lim; omega)).mono ?_
    rintro e w2 ⟨v2, rfl, ha2, hb2⟩
    obtain ⟨x, a, m, c, rfl⟩ := ha2.shape
    have B2 := B1.stay hb2
    obtain ⟨c0, c1, f0, f1⟩ := B2.two
    go_wp2
    refine bodyPost_ret (v := .agg #[.bool x, .slice a m c]) (by simp [results, Tryz.results73, go_sem, c0, c1]) rfl ?_
    refine ⟨_, rfl, ?_, below_store2 ((((Below.refl _ _).alloc (Nat.le_refl _) _).step hb1 (Nat.le_refl _)).step hb2 (Nat.le_refl _)) (Nat.le_refl _) _ _⟩
    have e : sv false n.natAbs = n := by simp [sv]; omega
    rw [e] at ha2
    exact ha2.store2 B2 _ _ _ _
end Go.Proofs.YteefniagebcagaaGreatDoor
