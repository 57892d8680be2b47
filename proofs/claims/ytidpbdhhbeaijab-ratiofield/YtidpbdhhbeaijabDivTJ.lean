/- Contracts of arith.takeOff and putBack; they prove no statement of the seat. -/
import Derived.Test.YtidpbdhhbeaijabDivPJ
namespace Go.Proofs.Ytidpbdhhbeaijab
open Go.RowKit

/-- A window of a block: what lies ahead, the window, what lies behind. -/
def Win (w : World) (g o : Nat) (pre win post : List Nat) : Prop := Row .u32 91 w g (pre ++ (win ++ post)) ∧ pre.length = o

theorem Win.cell {w : World} {g o : Nat} {pre win post : List Nat} (h : Win w g o pre win post) (k : Nat) (hk : k < win.length) : w.cell? ⟨g, o + k, none⟩ = some (.int .u32 (win.getD k 0 : Nat)) := by
  have h1 := h.1.cell (o + k) (by have := h.2; simp; omega)
  rwa [mid_get _ _ _ _ _ h.2 hk] at h1
theorem Win.frozen {w : World} {g o : Nat} {pre win post : List Nat} (h : Win w g o pre win post) (i : Nat) : w.frozen? ⟨g, i, none⟩ = false := h.1.frozen i
theorem Win.set {w : World} {g o : Nat} {pre win post : List Nat} (h : Win w g o pre win post) (k : Nat) (z : Int) (d : Nat) (hz : z = (d : Int)) (hk : k < win.length) : Win (w.setCell ⟨g, o + k, none⟩ (.int .u32 z)) g o pre (win.set k d) post := by
  have h1 := h.1.set (o + k) z d hz
  rw [mid_set _ _ _ _ _ _ h.2 hk] at h1
  exact ⟨h1, h.2⟩

theorem sub32_i (x y b : Nat) (Y : Int) (w : World) (hY : Y = (y : Int)) (hx : x < 4294967296) (hy : y < 4294967296) (hb : b ≤ 1) :
    Calls Try.prog 68 #[.int .u32 x, .int .u32 Y, .int .u32 b] w fun e w' =>
      ∃ d b' : Nat, e = .returned (.tuple #[.int .u32 d, .int .u32 b']) ∧ d < 4294967296 ∧ b' ≤ 1 ∧ Hid (d + y + b = x + 4294967296 * b') ∧ w' = w := by
  subst hY
  exact sub32_c x y b w hx hy hb

set_option maxHeartbeats 4000000 in
theorem takeOff_any (g o n cap cap' m : Nat) (bo : Option Addr) (pre win post ys : List Nat) (w : World) (hW : Win w g o pre win post) (hwl : win.length = n + 1) (hyl : ys.length = n) (hn : n ≤ 9000) (ht : Seg .u32 w bo ys) (hne : ∀ a, bo = some a → a.block ≠ g) (hdw : Digs 4294967296 win) (hdy : Digs 4294967296 ys) (hm : m < 4294967296) :
    Calls Try.prog 94 #[.slice (some ⟨g, o, none⟩) (n + 1) cap, .slice bo n cap', .int .u32 m] w fun e w' => ∃ b : Nat, ∃ win', e = .returned (.bool ((b : Int) != 0)) ∧ b ≤ 1 ∧ win'.length = n + 1 ∧ Digs 4294967296 win' ∧ val 4294967296 win' + m * val 4294967296 ys = val 4294967296 win + 4294967296 ^ (n + 1) * b ∧ Win w' g o pre win' post ∧ Only g w w' := by
  have HWL : Hid (win.length = n + 1) := hwl
  have HYL : Hid (ys.length = n) := hyl
  clear hwl hyl
  go_enter Try.func94, Try.ntmps94
  go_wp2
  go_loopw [7, 8, 15] (fun cv bv i wr => ∃ k c b : Nat, ∃ zs, k ≤ n ∧ i = .int .i64 k ∧ cv = .int .u64 c ∧ bv = .int .u32 b ∧ c < 4294967296 ∧ b ≤ 1 ∧ Hid (zs.length = n + 1) ∧ Digs 4294967296 zs ∧ Hid (val 4294967296 (zs.take k) + m * val 4294967296 (ys.take k) = val 4294967296 (win.take k) + 4294967296 ^ k * (c + b)) ∧
      Hid (zs.drop k = win.drop k) ∧ Win wr g o pre zs post ∧ Only g w wr) (fun _ _ i _ => n - (intOf i).toNat)
  case atStart => exact ⟨0, 0, 0, win, Nat.zero_le _, rfl, rfl, rfl, by decide, by decide, HWL, hdw, (by simp [val] : _ = _), (rfl : _ = _), hW, Only.refl _ _⟩
  case round =>
    obtain ⟨k, c, b, zs, hk, rfl, rfl, rfl, hc, hb, HZ, hzd, HV, HD, hwin, honly⟩ := hrel
    have hx0 := hwin.cell k (by have := HZ.out; omega)
    obtain ⟨x, hx⟩ : ∃ x, x = zs.getD k 0 := ⟨_, rfl⟩
    rw [← hx] at hx0
    have hxl : x < 4294967296 := hx ▸ hzd.getD (by decide) k
    have HXX : Hid (x = win.getD k 0) := by show _ = _; rw [hx, getD_drop0 zs _ k HD.out]
    have hfr := hwin.frozen (o + k)
    clear hx
    by_cases h0 : k < n
    · obtain ⟨b2, off, rfl, hcs⟩ := (honly.seg ht hne).open k (by have := HYL.out; omega)
      have hcell := hcs k (by have := HYL.out; omega)
      obtain ⟨y, hy⟩ : ∃ y, y = ys.getD k 0 := ⟨_, rfl⟩
      have hyl : y < 4294967296 := hy ▸ hdy.getD (by decide) k
      rw [← hy] at hcell
      have HYY : Hid (y = ys.getD k 0) := hy
      clear hy hcs
      have hmul : y * m ≤ 4294967295 * 4294967295 := Nat.mul_le_mul (by omega) (by omega)
      obtain ⟨p, hp⟩ : ∃ p, p = y * m := ⟨_, rfl⟩
      have hpi : (y : Int) * (m : Int) = (p : Int) := by rw [hp, Int.natCast_mul]
      rw [← hp] at hmul
      have HP : Hid (p = y * m) := hp
      clear hp
      go_wp2_with (go_at_call 68; refine (sub32_i x ((p + c) % 4294967296) b _ _ (by omega) hxl (Nat.mod_lt _ (by decide)) hb).mono ?_; rintro e w2 ⟨d, b', rfl, hdl, hb', HS, rfl⟩)
      go_roundw
      case rel =>
        refine ⟨k + 1, (p + c) / 4294967296, b', zs.set k d, by omega, by go_num, by rw [Int.natCast_ediv, Int.natCast_add]; rfl, rfl, by omega, hb', ?_, hzd.set _ _ hdl, ?_, ?_, hwin.set k _ _ rfl (by have := HZ.out; omega), honly.set _ _⟩
        · show _ = _
          rw [List.length_set]; exact HZ.out
        · show _ = _
          rw [val_set_succ _ _ _ _ (by have := HZ.out; omega), val_take_succ', val_take_succ', ← HXX.out, ← HYY.out, Nat.pow_succ]
          refine take_step _ _ _ _ _ _ _ _ _ ((p + c) % 4294967296) _ _ _ _ HV.out ?_ HS.out
          rw [Nat.mul_comm m y, ← HP.out]
          omega
        · show _ = _
          rw [drop_set_succ]; exact drop_succ_of _ _ _ HD.out
      case measure => simp [intOf]; omega
    · have hkn : k = n := by omega
      subst hkn
      go_wp2_with (go_at_call 68; refine (sub32_i x c b _ _ (by omega) hxl hc hb).mono ?_; rintro e w2 ⟨d, b', rfl, hdl, hb', HS, rfl⟩)
      go_ret
      refine ⟨b', zs.set k d, rfl, hb', by rw [List.length_set]; exact HZ.out, hzd.set _ _ hdl, ?_, hwin.set k _ _ rfl (by have := HZ.out; omega), honly.set _ _⟩
      have e1 : zs.set k d = (zs.set k d).take (k + 1) := by rw [List.take_of_length_le (by rw [List.length_set]; have := HZ.out; omega)]
      have e2 : val 4294967296 win = val 4294967296 (win.take (k + 1)) := by rw [List.take_of_length_le (by have := HWL.out; omega)]
      have hv := HV.out
      rw [List.take_of_length_le (show ys.length ≤ k by have := HYL.out; omega)] at hv
      rw [e1, val_set_succ _ _ _ _ (by have := HZ.out; omega), e2, val_take_succ', ← HXX.out, Nat.pow_succ]
      exact take_last _ _ _ _ _ _ _ _ _ _ hv HS.out

theorem add32_c (x y b : Nat) (w : World) (hx : x < 4294967296) (hy : y < 4294967296) (hb : b ≤ 1) :
    Calls Try.prog 102 #[.int .u32 x, .int .u32 y, .int .u32 b] w fun e w' =>
      ∃ d b' : Nat, e = .returned (.tuple #[.int .u32 d, .int .u32 b']) ∧ d < 4294967296 ∧ b' ≤ 1 ∧ Hid (d + 4294967296 * b' = x + y + b) ∧ w' = w := by
  refine (add32_any x y b w (by omega) (by omega) hb).mono ?_
  rintro e w' ⟨rfl, rfl⟩
  exact ⟨_, _, rfl, Nat.mod_lt _ (by decide), by omega, (Nat.mod_add_div _ _ : _ = _), rfl⟩

set_option maxHeartbeats 4000000 in
theorem putBack_any (g o n cap cap' : Nat) (bo : Option Addr) (pre win post ys : List Nat) (w : World) (hW : Win w g o pre win post) (hwl : win.length = n + 1) (hyl : ys.length = n) (hn : n ≤ 9000) (ht : Seg .u32 w bo ys) (hne : ∀ a, bo = some a → a.block ≠ g) (hdw : Digs 4294967296 win) (hdy : Digs 4294967296 ys) :
    Calls Try.prog 95 #[.slice (some ⟨g, o, none⟩) (n + 1) cap, .slice bo n cap'] w fun e w' => ∃ b : Nat, ∃ win', e = .returned (.tuple #[]) ∧ b ≤ 1 ∧ win'.length = n + 1 ∧ Digs 4294967296 win' ∧ val 4294967296 win' + 4294967296 ^ (n + 1) * b = val 4294967296 win + val 4294967296 ys ∧ Win w' g o pre win' post ∧ Only g w w' := by
  have HWL : Hid (win.length = n + 1) := hwl
  have HYL : Hid (ys.length = n) := hyl
  clear hwl hyl
  go_enter Try.func95, Try.ntmps95
  go_wp2
  go_loopw [4, 9] (fun cv i wr => ∃ k c : Nat, ∃ zs, k ≤ n ∧ i = .int .i64 k ∧ cv = .int .u32 c ∧ c ≤ 1 ∧ Hid (zs.length = n + 1) ∧ Digs 4294967296 zs ∧ Hid (val 4294967296 (zs.take k) + 4294967296 ^ k * c = val 4294967296 (win.take k) + val 4294967296 (ys.take k)) ∧
      Hid (zs.drop k = win.drop k) ∧ Win wr g o pre zs post ∧ Only g w wr) (fun _ i _ => n - (intOf i).toNat)
  case atStart => exact ⟨0, 0, win, Nat.zero_le _, rfl, rfl, by decide, HWL, hdw, (by simp [val] : _ = _), (rfl : _ = _), hW, Only.refl _ _⟩
  case round =>
    obtain ⟨k, c, zs, hk, rfl, rfl, hc, HZ, hzd, HV, HD, hwin, honly⟩ := hrel
    have hx0 := hwin.cell k (by have := HZ.out; omega)
    obtain ⟨x, hx⟩ : ∃ x, x = zs.getD k 0 := ⟨_, rfl⟩
    rw [← hx] at hx0
    have hxl : x < 4294967296 := hx ▸ hzd.getD (by decide) k
    have HXX : Hid (x = win.getD k 0) := by show _ = _; rw [hx, getD_drop0 zs _ k HD.out]
    have hfr := hwin.frozen (o + k)
    clear hx
    by_cases h0 : k < n
    · obtain ⟨b2, off, rfl, hcs⟩ := (honly.seg ht hne).open k (by have := HYL.out; omega)
      have hcell := hcs k (by have := HYL.out; omega)
      obtain ⟨y, hy⟩ : ∃ y, y = ys.getD k 0 := ⟨_, rfl⟩
      have hyl : y < 4294967296 := hy ▸ hdy.getD (by decide) k
      rw [← hy] at hcell
      have HYY : Hid (y = ys.getD k 0) := hy
      clear hy hcs
      go_wp2_with (go_at_call 102; refine (add32_c x y c _ hxl hyl hc).mono ?_; rintro e w2 ⟨d, b', rfl, hdl, hb', HS, rfl⟩)
      go_roundw
      case rel =>
        refine ⟨k + 1, b', zs.set k d, by omega, by go_num, rfl, hb', ?_, hzd.set _ _ hdl, ?_, ?_, hwin.set k _ _ rfl (by have := HZ.out; omega), honly.set _ _⟩
        · show _ = _
          rw [List.length_set]; exact HZ.out
        · show _ = _
          rw [val_set_succ _ _ _ _ (by have := HZ.out; omega), val_take_succ', val_take_succ', ← HXX.out, ← HYY.out, Nat.pow_succ]
          exact put_step _ _ _ _ _ _ _ _ _ _ HV.out HS.out
        · show _ = _
          rw [drop_set_succ]; exact drop_succ_of _ _ _ HD.out
      case measure => simp [intOf]; omega
    · have hkn : k = n := by omega
      subst hkn
      go_wp2
      go_end0
      refine ⟨(x + c) / 4294967296, zs.set k ((x + c) % 4294967296), rfl, by omega, by rw [List.length_set]; exact HZ.out, hzd.set _ _ (Nat.mod_lt _ (by decide)), ?_, hwin.set k _ _ (by rw [Int.natCast_emod, Int.natCast_add]; rfl) (by have := HZ.out; omega), honly.set _ _⟩
      have e1 : zs.set k ((x + c) % 4294967296) = (zs.set k ((x + c) % 4294967296)).take (k + 1) := by rw [List.take_of_length_le (by rw [List.length_set]; have := HZ.out; omega)]
      have e2 : val 4294967296 win = val 4294967296 (win.take (k + 1)) := by rw [List.take_of_length_le (by have := HWL.out; omega)]
      have e3 : val 4294967296 ys = val 4294967296 (ys.take k) + 4294967296 ^ k * 0 := by rw [List.take_of_length_le (by have := HYL.out; omega), Nat.mul_zero, Nat.add_zero]
      rw [e1, val_set_succ _ _ _ _ (by have := HZ.out; omega), e2, e3, val_take_succ', ← HXX.out, Nat.pow_succ]
      refine put_step _ _ _ _ _ _ _ _ _ _ HV.out ?_
      rw [Nat.add_zero]
      exact Nat.mod_add_div _ _
end Go.Proofs.Ytidpbdhhbeaijab
