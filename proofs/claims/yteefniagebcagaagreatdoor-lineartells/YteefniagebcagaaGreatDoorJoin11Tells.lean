/- Joined: DivT, DivG, DivS, DivH: words and contracts; no statement of the seat is proved here. -/
import Derived.Test.YteefniagebcagaaGreatDoorJoin10Tells
import Derived.BigQuiet
import Derived.Test.YteefniagebcagaaGreatDoorJoin5Tells
/- Contracts of arith.takeOff and putBack; they prove no statement of the seat. -/
namespace Go.Proofs.YteefniagebcagaaGreatDoor
open Go.RowKit

/-- A window of a block: what lies ahead, the window, what lies behind. -/
def Win (w : World) (g o : Nat) (pre win post : List Nat) : Prop := Row .u32 167 w g (pre ++ (win ++ post)) ∧ pre.length = o

theorem Win.cell {w : World} {g o : Nat} {pre win post : List Nat} (h : Win w g o pre win post) (k : Nat) (hk : k < win.length) : w.cell? ⟨g, o + k, none⟩ = some (.int .u32 (win.getD k 0 : Nat)) := by
  have h1 := h.1.cell (o + k) (by have := h.2; simp; omega)
  rwa [mid_get _ _ _ _ _ h.2 hk] at h1
theorem Win.frozen {w : World} {g o : Nat} {pre win post : List Nat} (h : Win w g o pre win post) (i : Nat) : w.frozen? ⟨g, i, none⟩ = false := h.1.frozen i
theorem Win.set {w : World} {g o : Nat} {pre win post : List Nat} (h : Win w g o pre win post) (k : Nat) (z : Int) (d : Nat) (hz : z = (d : Int)) (hk : k < win.length) : Win (w.setCell ⟨g, o + k, none⟩ (.int .u32 z)) g o pre (win.set k d) post := by
  have h1 := h.1.set (o + k) z d hz
  rw [mid_set _ _ _ _ _ _ h.2 hk] at h1
  exact ⟨h1, h.2⟩

theorem sub32_i (x y b : Nat) (Y : Int) (w : World) (hY : Y = (y : Int)) (hx : x < 4294967296) (hy : y < 4294967296) (hb : b ≤ 1) :
    Calls Tryz.prog 124 #[.int .u32 x, .int .u32 Y, .int .u32 b] w fun e w' =>
      ∃ d b' : Nat, e = .returned (.tuple #[.int .u32 d, .int .u32 b']) ∧ d < 4294967296 ∧ b' ≤ 1 ∧ Hid (d + y + b = x + 4294967296 * b') ∧ w' = w := by
  subst hY
  exact sub32_c x y b w hx hy hb

set_option maxHeartbeats 4000000 in
theorem takeOff_any (g o n cap cap' m : Nat) (bo : Option Addr) (pre win post ys : List Nat) (w : World) (hW : Win w g o pre win post) (hwl : win.length = n + 1) (hyl : ys.length = n) (hn : n ≤ 9000) (ht : Seg .u32 w bo ys) (hne : ∀ a, bo = some a → a.block ≠ g) (hdw : Digs 4294967296 win) (hdy : Digs 4294967296 ys) (hm : m < 4294967296) :
    Calls Tryz.prog 148 #[.slice (some ⟨g, o, none⟩) (n + 1) cap, .slice bo n cap', .int .u32 m] w fun e w' => ∃ b : Nat, ∃ win', e = .returned (.bool ((b : Int) != 0)) ∧ b ≤ 1 ∧ win'.length = n + 1 ∧ Digs 4294967296 win' ∧ val 4294967296 win' + m * val 4294967296 ys = val 4294967296 win + 4294967296 ^ (n + 1) * b ∧ Win w' g o pre win' post ∧ Only g w w' := by
  have HWL : Hid (win.length = n + 1) := hwl
  have HYL : Hid (ys.length = n) := hyl
  clear hwl hyl
  go_enter Tryz.func148, Tryz.ntmps148
  go_wp2
  go_loopw [7, 8, 15] (fun cv bv i wr => ∃ k c b : Nat, ∃ zs, k ≤ n ∧ i = .int .i64 k ∧ cv = .int .u64 c ∧ bv = .int .u32 b ∧ c < 4294967296 ∧ b ≤ 1 ∧ Hid (zs.length = n + 1) ∧ Digs 4294967296 zs ∧ Hid (val 4294967296 (zs.take k) + m * val 4294967296 (ys.take k) = val 4294967296 (win.take k) + 4294967296 ^ k * (c + b)) ∧
      Hid (zs.drop k = win.drop k) ∧ Win wr g o pre zs post ∧ Only g w wr) (fun _ _ i _ => n - (intOf i).toNat)
  case atStart => exact ⟨0, 0, 0, win, Nat.zero_le _, rfl, rfl, rfl, by decide, by decide, HWL, hdw, (by simp [val] : _ = _), (rfl : _ = _), hW, Only.refl _ _⟩
  case round =>
    obtain ⟨k, c, b, zs, hk, rfl, rfl, rfl, hc, hb, HZ, hzd, HV, HD, hwin, honly⟩ := hrel
    have hx0 := hwin.cell k (by have := HZ.out; omega)
    obtain ⟨x, hx⟩ : ∃ x, x = zs.getD k 0 := ⟨_, rfl⟩
    rw [← hx] at hx0
    have hxl : x < 4294967296 := hx ▸ hzd.getD (by decide) k
    have HXX : Hid (x = win.getD k 0) := by show _ = _; rw [hx, getD_drop0 zs _ k HD.out]
    have hfr := hwin.frozen (o + k)
    clear hx
    by_cases h0 : k < n
    · obtain ⟨b2, off, rfl, hcs⟩ := (honly.seg ht hne).open k (by have := HYL.out; omega)
      have hcell := hcs k (by have := HYL.out; omega)
      obtain ⟨y, hy⟩ : ∃ y, y = ys.getD k 0 := ⟨_, rfl⟩
      have hyl : y < 4294967296 := hy ▸ hdy.getD (by decide) k
      rw [← hy] at hcell
      have HYY : Hid (y = ys.getD k 0) := hy
      clear hy hcs
      have hmul : y * m ≤ 4294967295 * 4294967295 := Nat.mul_le_mul (by omega) (by omega)
      obtain ⟨p, hp⟩ : ∃ p, p = y * m := ⟨_, rfl⟩
      have hpi : (y : Int) * (m : Int) = (p : Int) := by rw [hp, Int.natCast_mul]
      rw [← hp] at hmul
      have HP : Hid (p = y * m) := hp
      clear hp
      go_wp2_with (go_at_call 124; refine (sub32_i x ((p + c) % 4294967296) b _ _ (by omega) hxl (Nat.mod_lt _ (by decide)) hb).mono ?_; rintro e w2 ⟨d, b', rfl, hdl, hb', HS, rfl⟩)
      go_roundw
      case rel =>
        refine ⟨k + 1, (p + c) / 4294967296, b', zs.set k d, by omega, by go_num, by rw [Int.natCast_ediv, Int.natCast_add]; rfl, rfl, by omega, hb', ?_, hzd.set _ _ hdl, ?_, ?_, hwin.set k _ _ rfl (by have := HZ.out; omega), honly.set _ _⟩
        · show _ = _
          rw [List.length_set]; exact HZ.out
        · show _ = _
          rw [val_set_succ _ _ _ _ (by have := HZ.out; omega), val_take_succ', val_take_succ', ← HXX.out, ← HYY.out, Nat.pow_succ]
          refine take_step _ _ _ _ _ _ _ _ _ ((p + c) % 4294967296) _ _ _ _ HV.out ?_ HS.out
          rw [Nat.mul_comm m y, ← HP.out]
          omega
        · show _ = _
          rw [drop_set_succ]; exact drop_succ_of _ _ _ HD.out
      case measure => simp [intOf]; omega
    · have hkn : k = n := by omega
      subst hkn
      go_wp2_with (go_at_call 124; refine (sub32_i x c b _ _ (by omega) hxl hc hb).mono ?_; rintro e w2 ⟨d, b', rfl, hdl, hb', HS, rfl⟩)
      go_ret
      refine ⟨b', zs.set k d, rfl, hb', by rw [List.length_set]; exact HZ.out, hzd.set _ _ hdl, ?_, hwin.set k _ _ rfl (by have := HZ.out; omega), honly.set _ _⟩
      have e1 : zs.set k d = (zs.set k d).take (k + 1) := by rw [List.take_of_length_le (by rw [List.length_set]; have := HZ.out; omega)]
      have e2 : val 4294967296 win = val 4294967296 (win.take (k + 1)) := by rw [List.take_of_length_le (by have := HWL.out; omega)]
      have hv := HV.out
      rw [List.take_of_length_le (show ys.length ≤ k by have := HYL.out; omega)] at hv
      rw [e1, val_set_succ _ _ _ _ (by have := HZ.out; omega), e2, val_take_succ', ← HXX.out, Nat.pow_succ]
      exact take_last _ _ _ _ _ _ _ _ _ _ hv HS.out

theorem add32_c (x y b : Nat) (w : World) (hx : x < 4294967296) (hy : y < 4294967296) (hb : b ≤ 1) :
    Calls Tryz.prog 158 #[.int .u32 x, .int .u32 y, .int .u32 b] w fun e w' =>
      ∃ d b' : Nat, e = .returned (.tuple #[.int .u32 d, .int .u32 b']) ∧ d < 4294967296 ∧ b' ≤ 1 ∧ Hid (d + 4294967296 * b' = x + y + b) ∧ w' = w := by
  refine (add32_any x y b w (by omega) (by omega) hb).mono ?_
  rintro e w' ⟨rfl, rfl⟩
  exact ⟨_, _, rfl, Nat.mod_lt _ (by decide), by omega, (Nat.mod_add_div _ _ : _ = _), rfl⟩

set_option maxHeartbeats 4000000 in
theorem putBack_any (g o n cap cap' : Nat) (bo : Option Addr) (pre win post ys : List Nat) (w : World) (hW : Win w g o pre win post) (hwl : win.length = n + 1) (hyl : ys.length = n) (hn : n ≤ 9000) (ht : Seg .u32 w bo ys) (hne : ∀ a, bo = some a → a.block ≠ g) (hdw : Digs 4294967296 win) (hdy : Digs 4294967296 ys) :
    Calls Tryz.prog 149 #[.slice (some ⟨g, o, none⟩) (n + 1) cap, .slice bo n cap'] w fun e w' => ∃ b : Nat, ∃ win', e = .returned (.tuple #[]) ∧ b ≤ 1 ∧ win'.length = n + 1 ∧ Digs 4294967296 win' ∧ val 4294967296 win' + 4294967296 ^ (n + 1) * b = val 4294967296 win + val 4294967296 ys ∧ Win w' g o pre win' post ∧ Only g w w' := by
  have HWL : Hid (win.length = n + 1) := hwl
  have HYL : Hid (ys.length = n) := hyl
  clear hwl hyl
  go_enter Tryz.func149, Tryz.ntmps149
  go_wp2
  go_loopw [4, 9] (fun cv i wr => ∃ k c : Nat, ∃ zs, k ≤ n ∧ i = .int .i64 k ∧ cv = .int .u32 c ∧ c ≤ 1 ∧ Hid (zs.length = n + 1) ∧ Digs 4294967296 zs ∧ Hid (val 4294967296 (zs.take k) + 4294967296 ^ k * c = val 4294967296 (win.take k) + val 4294967296 (ys.take k)) ∧
      Hid (zs.drop k = win.drop k) ∧ Win wr g o pre zs post ∧ Only g w wr) (fun _ i _ => n - (intOf i).toNat)
  case atStart => exact ⟨0, 0, win, Nat.zero_le _, rfl, rfl, by decide, HWL, hdw, (by simp [val] : _ = _), (rfl : _ = _), hW, Only.refl _ _⟩
  case round =>
    obtain ⟨k, c, zs, hk, rfl, rfl, hc, HZ, hzd, HV, HD, hwin, honly⟩ := hrel
    have hx0 := hwin.cell k (by have := HZ.out; omega)
    obtain ⟨x, hx⟩ : ∃ x, x = zs.getD k 0 := ⟨_, rfl⟩
    rw [← hx] at hx0
    have hxl : x < 4294967296 := hx ▸ hzd.getD (by decide) k
    have HXX : Hid (x = win.getD k 0) := by show _ = _; rw [hx, getD_drop0 zs _ k HD.out]
    have hfr := hwin.frozen (o + k)
    clear hx
    by_cases h0 : k < n
    · obtain ⟨b2, off, rfl, hcs⟩ := (honly.seg ht hne).open k (by have := HYL.out; omega)
      have hcell := hcs k (by have := HYL.out; omega)
      obtain ⟨y, hy⟩ : ∃ y, y = ys.getD k 0 := ⟨_, rfl⟩
      have hyl : y < 4294967296 := hy ▸ hdy.getD (by decide) k
      rw [← hy] at hcell
      have HYY : Hid (y = ys.getD k 0) := hy
      clear hy hcs
      go_wp2_with (go_at_call 158; refine (add32_c x y c _ hxl hyl hc).mono ?_; rintro e w2 ⟨d, b', rfl, hdl, hb', HS, rfl⟩)
      go_roundw
      case rel =>
        refine ⟨k + 1, b', zs.set k d, by omega, by go_num, rfl, hb', ?_, hzd.set _ _ hdl, ?_, ?_, hwin.set k _ _ rfl (by have := HZ.out; omega), honly.set _ _⟩
        · show _ = _
          rw [List.length_set]; exact HZ.out
        · show _ = _
          rw [val_set_succ _ _ _ _ (by have := HZ.out; omega), val_take_succ', val_take_succ', ← HXX.out, ← HYY.out, Nat.pow_succ]
          exact put_step _ _ _ _ _ _ _ _ _ _ HV.out HS.out
        · show _ = _
          rw [drop_set_succ]; exact drop_succ_of _ _ _ HD.out
      case measure => simp [intOf]; omega
    · have hkn : k = n := by omega
      subst hkn
      go_wp2
      go_end0
      refine ⟨(x + c) / 4294967296, zs.set k ((x + c) % 4294967296), rfl, by omega, by rw [List.length_set]; exact HZ.out, hzd.set _ _ (Nat.mod_lt _ (by decide)), ?_, hwin.set k _ _ (by rw [Int.natCast_emod, Int.natCast_add]; rfl) (by have := HZ.out; omega), honly.set _ _⟩
      have e1 : zs.set k ((x + c) % 4294967296) = (zs.set k ((x + c) % 4294967296)).take (k + 1) := by rw [List.take_of_length_le (by rw [List.length_set]; have := HZ.out; omega)]
      have e2 : val 4294967296 win = val 4294967296 (win.take (k + 1)) := by rw [List.take_of_length_le (by have := HWL.out; omega)]
      have e3 : val 4294967296 ys = val 4294967296 (ys.take k) + 4294967296 ^ k * 0 := by rw [List.take_of_length_le (by have := HYL.out; omega), Nat.mul_zero, Nat.add_zero]
      rw [e1, val_set_succ _ _ _ _ (by have := HZ.out; omega), e2, e3, val_take_succ', ← HXX.out, Nat.pow_succ]
      refine put_step _ _ _ _ _ _ _ _ _ _ HV.out ?_
      rw [Nat.add_zero]
      exact Nat.mod_add_div _ _
end Go.Proofs.YteefniagebcagaaGreatDoor
/- Contract of arith.guessLimb; it proves no statement of the seat. -/
namespace Go.Proofs.YteefniagebcagaaGreatDoor
open Go.RowKit

/-- What is tested of a guess: that it, by the divisor's two highest limbs, is too great. -/
theorem guess_test (g v1 v2 l H u : Nat) (hH : g * v1 + l = H) : (l * 4294967296 + u < g * v2) ↔ (H * 4294967296 + u < g * (v1 * 4294967296 + v2)) := by
  subst hH
  rw [Nat.mul_add, Nat.add_mul, Nat.mul_assoc]
  omega

theorem wrap_u64 {p : Nat} (h : p ≤ 18446744073709551615) : IntKind.u64.wrap (p : Int) = (p : Int) := by
  simp only [IntKind.wrap, IntKind.bits, IntKind.signed]
  simp
  omega
theorem below_dN2 {B : Nat} {a w : World} (h : Below B a w) (n : Nat) : Below B a (w.drewN n) := h.trans ⟨rfl, rfl, rfl, Nat.le_refl _, fun _ _ => rfl⟩

set_option maxRecDepth 20000 in
set_option maxHeartbeats 8000000 in
theorem guessLimb_any (g o m cap cap' : Nat) (bo : Option Addr) (pre win post ys : List Nat) (w : World) (hW : Win w g o pre win post) (hwl : win.length = m + 3) (hyl : ys.length = m + 2) (hn : m ≤ 9000) (ht : Seg .u32 w bo ys) (hdw : Digs 4294967296 win) (hdy : Digs 4294967296 ys)
    (hlt : val 4294967296 win < 4294967296 * val 4294967296 ys) (htop : 0 < ys.getD (m + 1) 0) :
    Calls Tryz.prog 147 #[.slice (some ⟨g, o, none⟩) (m + 3) cap, .slice bo (m + 2) cap'] w fun e w' => ∃ q : Nat, e = .returned (.int .u32 q) ∧ q < 4294967296 ∧ val 4294967296 win / val 4294967296 ys ≤ q ∧ q ≤ val 4294967296 win / val 4294967296 ys + 1 ∧ Below w.heap.size w w' := by
  have hu := val_three 4294967296 win m hwl
  have hv := val_two 4294967296 ys m hyl
  have cu2 := hW.cell (m + 2) (by omega)
  have cu1 := hW.cell (m + 1) (by omega)
  have cu0 := hW.cell m (by omega)
  obtain ⟨b2, off, rfl, hcs⟩ := ht.open 0 (by omega)
  have cv1 := hcs (m + 1) (by omega)
  have cv0 := hcs m (by omega)
  have d2 := hdw.getD (by decide) (m + 2)
  have d1 := hdw.getD (by decide) (m + 1)
  have d0 := hdw.getD (by decide) m
  have e1 := hdy.getD (by decide) (m + 1)
  have e0 := hdy.getD (by decide) m
  have hul := val_lt (hdw.take m)
  have hvl := val_lt (hdy.take m)
  rw [List.length_take, Nat.min_eq_left (by omega)] at hul hvl
  generalize win.getD (m + 2) 0 = u2 at *
  generalize win.getD (m + 1) 0 = u1 at *
  generalize win.getD m 0 = u0 at *
  generalize ys.getD (m + 1) 0 = v1 at *
  generalize ys.getD m 0 = v0 at *
  have hu2 : u2 ≤ v1 := by
    rcases Nat.lt_or_ge v1 u2 with h | h
    · exfalso
      have hP : 0 < 4294967296 ^ m := Nat.pow_pos (by decide)
      generalize 4294967296 ^ m = P at *
      generalize val 4294967296 (win.take m) = ul at *
      generalize val 4294967296 (ys.take m) = vl at *
      have k1 : ((v1 + 1) * 4294967296 * 4294967296) * P ≤ ((u2 * 4294967296 + u1) * 4294967296 + u0) * P := Nat.mul_le_mul_right _ (by omega)
      have k2 : ((v1 * 4294967296 + v0) * P + vl) ≤ ((v1 * 4294967296 + 4294967295) * P + P) := by
        have := Nat.mul_le_mul_right P (show v1 * 4294967296 + v0 ≤ v1 * 4294967296 + 4294967295 by omega)
        omega
      have k3 : (v1 * 4294967296 + 4294967295) * P + P = ((v1 + 1) * 4294967296) * P := by
        have k5 : (v1 + 1) * 4294967296 = v1 * 4294967296 + 4294967295 + 1 := by omega
        rw [k5, Nat.add_mul (v1 * 4294967296 + 4294967295) 1 P, Nat.one_mul]
      have k4 : ((v1 + 1) * 4294967296 * 4294967296) * P = 4294967296 * (((v1 + 1) * 4294967296) * P) := by
        rw [Nat.mul_comm ((v1 + 1) * 4294967296) 4294967296, Nat.mul_assoc]
      omega
    · exact h
  obtain ⟨H, hH⟩ : ∃ H, H = u2 * 4294967296 + u1 := ⟨_, rfl⟩
  have hor : bits BinOp.or IntKind.u64 ((u2 : Int) * 4294967296) (u1 : Int) = (H : Int) := by rw [hH]; exact or_shift u2 u1 d2 d1
  have hHl : (H : Int) ≤ 18446744073709551615 := by omega
  obtain ⟨V, hV⟩ : ∃ V, V = v1 * 4294967296 + v0 := ⟨_, rfl⟩
  obtain ⟨U, hU⟩ : ∃ U, U = H * 4294967296 + u0 := ⟨_, rfl⟩
  have HG : Hid (∀ q, q < 4294967296 → q * V ≤ U → (U / V ≤ q ∨ 4294967296 ≤ q + 1) → val 4294967296 win / val 4294967296 ys ≤ q ∧ q ≤ val 4294967296 win / val 4294967296 ys + 1) := by
    intro q h1 h2 h3
    rw [← hH, ← hU] at hu
    rw [← hV] at hv
    refine ⟨guess_low (B := 4294967296) hu hul hv hlt h3 (by omega), guess_high (B := 4294967296) hu hv hvl h2 h1 ?_⟩
    rw [hv]
    have : 4294967296 * 4294967296 ^ m ≤ V * 4294967296 ^ m := Nat.mul_le_mul_right _ (by omega)
    omega
  have HUV : Hid (H = u2 * 4294967296 + u1 ∧ V = v1 * 4294967296 + v0 ∧ U = H * 4294967296 + u0) := ⟨hH, hV, hU⟩
  have H0 : Hid (U / V ≤ H / v1) := by
    show _ ≤ _
    rw [Nat.le_div_iff_mul_le htop]
    have k1 : U / V * V ≤ U := Nat.div_mul_le_self U V
    have k2 : U / V * (v1 * 4294967296) ≤ U / V * V := Nat.mul_le_mul_left _ (by omega)
    rw [← Nat.mul_assoc] at k2
    omega
  have hq0 : 0 ≤ (H : Int) / (v1 : Int) := by rw [← Int.natCast_ediv]; exact Int.natCast_nonneg _
  have hq1 : (H : Int) / (v1 : Int) ≤ 18446744073709551615 := by rw [← Int.natCast_ediv]; have := Nat.div_le_self H v1; omega
  have hr0 : 0 ≤ (H : Int) % (v1 : Int) := by rw [← Int.natCast_emod]; exact Int.natCast_nonneg _
  have hr1 : (H : Int) % (v1 : Int) < (v1 : Int) := by rw [← Int.natCast_emod]; have := Nat.mod_lt H htop; omega
  have hv10 : ((v1 : Int) == 0) = false := by rw [beq_eq_false_iff_ne]; omega
  have FITS : Hid (∀ q l : Nat, q * v1 + l = H → q < 4294967296 → 4294967296 ≤ l → q * V ≤ U) := by
    intro q l h1 h2 h3
    refine Nat.le_of_not_lt fun h => ?_
    rw [hU, hV] at h
    have h4 := (guess_test q v1 v0 l H u0 h1).2 h
    have h5 : q * v0 ≤ 4294967296 * 4294967296 := Nat.mul_le_mul (by omega) (by omega)
    have h6 : 4294967296 * 4294967296 ≤ l * 4294967296 := Nat.mul_le_mul_right _ h3
    omega
  have HB : Hid (g < w.heap.size ∧ b2 < w.heap.size) := ⟨World.block_lt_of_cell? w _ cu0, World.block_lt_of_cell? w _ cv0⟩
  have HC : Hid (w.cell? ⟨g, o + m, none⟩ = some (.int .u32 (u0 : Nat)) ∧ w.cell? ⟨b2, off + (m + 1), none⟩ = some (.int .u32 (v1 : Nat)) ∧ w.cell? ⟨b2, off + m, none⟩ = some (.int .u32 (v0 : Nat))) := ⟨cu0, cv1, cv0⟩
  clear hu hv hul hvl hlt hcs hW hwl hyl hdw hdy hH hV hU ht cu0 cv0
  go_enter Tryz.func147, Tryz.ntmps147
  go_wp2
  go_quiet (fail)
  go_wp2
  go_quiet (fail)
  go_wp2
  clear cu1 cu2 cv1 hor hHl hq1 hr1 hq0 hr0
  go_loopw [7, 8] (fun gv lv wr => ∃ q l : Nat, gv = .int .u64 q ∧ lv = .int .u64 l ∧ Hid (q * v1 + l = H) ∧ Hid (U / V ≤ q ∨ 4294967296 ≤ q + 1) ∧ (l : Int) < 4294967296 ∧ Below w.heap.size w wr) (fun gv _ _ => (intOf gv).toNat)
  case atStart =>
    refine ⟨H / v1, H % v1, by rw [Int.natCast_ediv], by rw [Int.natCast_emod], (by rw [Nat.mul_comm]; exact Nat.div_add_mod _ _ : _ = _), (Or.inl H0.out : _ ∨ _), by have := Nat.mod_lt H htop; omega, ?_⟩
    exact below_dN2 (below_dN2 (Below.refl _ _) _) _
  case round =>
    obtain ⟨q, l, rfl, rfl, HQ, HO, hl, hbel⟩ := hrel
    have c0 := (hbel.cell (p := ⟨g, o + m, none⟩) HB.out.1).trans HC.out.1
    have c1 := (hbel.cell (p := ⟨b2, off + (m + 1), none⟩) HB.out.2).trans HC.out.2.1
    have c2 := (hbel.cell (p := ⟨b2, off + m, none⟩) HB.out.2).trans HC.out.2.2
    by_cases hA : 4294967296 ≤ q
    · have tA : ((q : Int) / 4294967296 != 0) = true := by rw [bne_iff_ne]; omega
      have hq1 : 1 ≤ (q : Int) := by omega
      have HQ1 : Hid ((q - 1) * v1 + (l + v1) = H) := by
        show _ = _
        have e : q = q - 1 + 1 := by omega
        have := HQ.out
        rw [e, Nat.add_mul, Nat.one_mul] at this
        omega
      have HO1 : Hid (U / V ≤ q - 1 ∨ 4294967296 ≤ q - 1 + 1) := Or.inr (by omega)
      have hql : (q : Int) ≤ 18446744073709551615 := by
        have h1 := HQ.out
        have h2 : q * 1 ≤ q * v1 := Nat.mul_le_mul_left _ htop
        have h3 := HUV.out.1
        omega
      have hqi : (q : Int) - 1 = ((q - 1 : Nat) : Int) := by omega
      by_cases hl2 : 4294967296 ≤ l + v1
      · have tL : (((l : Int) + (v1 : Int)) / 4294967296 != 0) = true := by rw [bne_iff_ne]; omega
        have HF : Hid (q - 1 < 4294967296) := by
          show _ < _
          rcases Nat.lt_or_ge (q - 1) 4294967296 with h | h
          · exact h
          · exfalso
            have h1 := HQ1.out
            have h2 : 4294967296 * v1 ≤ (q - 1) * v1 := Nat.mul_le_mul_right _ h
            have h3 := HUV.out.1
            omega
        have hqf : (q : Int) - 1 < 4294967296 := by have := HF.out; omega
        have HL2 : Hid (4294967296 ≤ l + v1) := hl2
        clear hA hl2
        go_wp2
        go_quiet (fail)
        go_wp2
        go_ret
        have h3 := HG.out (q - 1) HF.out (FITS.out _ _ HQ1.out HF.out (by have := HL2.out; omega)) HO1.out
        exact ⟨q - 1, rfl, HF.out, h3.1, h3.2, below_dN2 hbel _⟩
      · have tL : (((l : Int) + (v1 : Int)) / 4294967296 != 0) = false := by rw [bne_eq_false_iff_eq]; omega
        have hl3 : (l : Int) + (v1 : Int) < 4294967296 := by omega
        clear hA hl2
        go_wp2
        go_quiet (fail)
        go_wp2
        go_roundw
        case rel => exact ⟨q - 1, l + v1, rfl, by rw [Int.natCast_add], HQ1, HO1, by omega, below_dN2 hbel _⟩
        case measure => simp [intOf]; omega
    · have tA : ((q : Int) / 4294967296 != 0) = false := by rw [bne_eq_false_iff_eq]; omega
      have hqB : (q : Int) < 4294967296 := by omega
      have hmul : q * v0 ≤ 4294967295 * 4294967295 := Nat.mul_le_mul (by omega) (by omega)
      obtain ⟨p, hp⟩ : ∃ p, p = q * v0 := ⟨_, rfl⟩
      have hpi : (q : Int) * (v0 : Int) = (p : Int) := by rw [hp, Int.natCast_mul]
      rw [← hp] at hmul
      obtain ⟨T, hT⟩ : ∃ T, T = l * 4294967296 + u0 := ⟨_, rfl⟩
      have hor : bits BinOp.or IntKind.u64 ((l : Int) * 4294967296) (u0 : Int) = (T : Int) := by rw [hT]; exact or_shift l u0 (by omega) d0
      have HT : Hid (T < p ↔ U < q * V) := by
        show _ ↔ _
        rw [hT, hp, HUV.out.2.2, HUV.out.2.1]
        exact guess_test q v1 v0 l H u0 HQ.out
      have HP : Hid (p = q * v0) := hp
      have hpw : IntKind.u64.wrap (p : Int) = (p : Int) := wrap_u64 (by omega)
      clear hp hT hA hmul
      by_cases hC : T < p
      · have tC : decide (T < p) = true := decide_eq_true hC
        have HQ0 : Hid (1 ≤ q) := by
          show _ ≤ _
          rcases Nat.eq_zero_or_pos q with h | h
          · have := HP.out
            rw [h, Nat.zero_mul] at this
            omega
          · exact h
        have hq1 : 1 ≤ (q : Int) := by have := HQ0.out; omega
        have HQ1 : Hid ((q - 1) * v1 + (l + v1) = H) := by
          show _ = _
          have e : q = q - 1 + 1 := by omega
          have := HQ.out
          rw [e, Nat.add_mul, Nat.one_mul] at this
          omega
        have HO1 : Hid (U / V ≤ q - 1 ∨ 4294967296 ≤ q - 1 + 1) := by
          refine Or.inl ?_
          have h1 := HT.out.1 hC
          have hV0 : 0 < V := by have := HUV.out.2.1; omega
          have := (Nat.div_lt_iff_lt_mul hV0).2 h1
          omega
        have hqi : (q : Int) - 1 = ((q - 1 : Nat) : Int) := by omega
        have HF : Hid (q - 1 < 4294967296) := by show _ < _; omega
        clear hC
        by_cases hl2 : 4294967296 ≤ l + v1
        · have tL : (((l : Int) + (v1 : Int)) / 4294967296 != 0) = true := by rw [bne_iff_ne]; omega
          have hqf : (q : Int) - 1 < 4294967296 := by omega
          have HL2 : Hid (4294967296 ≤ l + v1) := hl2
          clear hl2
          go_wp2
          go_quiet (fail)
          clear hpw hpi hor
          go_wp2
          go_ret
          have h3 := HG.out (q - 1) HF.out (FITS.out _ _ HQ1.out HF.out (by have := HL2.out; omega)) HO1.out
          exact ⟨q - 1, rfl, HF.out, h3.1, h3.2, below_dN2 hbel _⟩
        · have tL : (((l : Int) + (v1 : Int)) / 4294967296 != 0) = false := by rw [bne_eq_false_iff_eq]; omega
          have hl3 : (l : Int) + (v1 : Int) < 4294967296 := by omega
          clear hl2
          go_wp2
          go_quiet (fail)
          clear hpw hpi hor
          go_wp2
          go_roundw
          case rel => exact ⟨q - 1, l + v1, rfl, by rw [Int.natCast_add], HQ1, HO1, by omega, below_dN2 hbel _⟩
          case measure => simp [intOf]; omega
      · have tC : decide (T < p) = false := decide_eq_false hC
        have HC2 : Hid (q * V ≤ U) := Nat.le_of_not_lt fun h => hC (HT.out.2 h)
        have hq4 : q < 4294967296 := by omega
        clear hC
        go_wp2
        go_quiet (fail)
        clear hpw hpi hor
        go_wp2
        go_ret
        have h3 := HG.out q hq4 HC2.out HO.out
        exact ⟨q, rfl, hq4, h3.1, h3.2, below_dN2 hbel _⟩
end Go.Proofs.YteefniagebcagaaGreatDoor
/- Contract of arith.divStep; it proves no statement of the seat. -/
namespace Go.Proofs.YteefniagebcagaaGreatDoor
open Go.RowKit

theorem b_one {u v g u' b T : Nat} (hv : 0 < v) (hg : g = u / v + 1) (h : u' + g * v = u + T * b) (hb : b ≤ 1) : b = 1 := by
  have h1 := Nat.div_add_mod u v
  have h2 := Nat.mod_lt u hv
  rw [Nat.mul_comm] at h1
  rw [hg, Nat.add_mul, Nat.one_mul] at h
  rcases Nat.eq_zero_or_pos b with k | k
  · subst k; omega
  · omega

/-- All blocks but one stay. -/
def But (g : Nat) (w w' : World) : Prop := (∀ B, B ≤ g → Below B w w') ∧ ∀ b, b ≠ g → b < w.heap.size → w'.heap[b]? = w.heap[b]?

theorem But.row {g b : Nat} {w w' : World} (h : But g w w') {k : IntKind} {t : TypeId} {zs : List Nat} (hr : Row k t w b zs) (hne : b ≠ g) : Row k t w' b zs := (h.2 b hne hr.lt).trans hr

theorem But.of {g : Nat} {w w1 w2 : World} (hg : g < w.heap.size) (h : Below w.heap.size w w1) (k : Only g w1 w2) : But g w w2 :=
  ⟨fun B hB => (h.mono (by omega)).trans (k.below hB), fun b hne hb => (k.block b hne).trans (h.block b hb)⟩

set_option maxHeartbeats 2000000 in
theorem divStep_any (g o m cap cap' : Nat) (bo : Option Addr) (pre win post ys : List Nat) (w : World) (hW : Win w g o pre win post) (hwl : win.length = m + 3) (hyl : ys.length = m + 2) (hn : m ≤ 8000) (ht : Seg .u32 w bo ys) (hne : ∀ a, bo = some a → a.block ≠ g) (hdw : Digs 4294967296 win) (hdy : Digs 4294967296 ys)
    (hlt : val 4294967296 win < 4294967296 * val 4294967296 ys) (htop : 0 < ys.getD (m + 1) 0) :
    Calls Tryz.prog 134 #[.slice (some ⟨g, o, none⟩) (m + 3) cap, .slice bo (m + 2) cap'] w fun e w' => ∃ q : Nat, ∃ win', e = .returned (.int .u32 q) ∧ q < 4294967296 ∧ q = val 4294967296 win / val 4294967296 ys ∧ win'.length = m + 3 ∧ Digs 4294967296 win' ∧ val 4294967296 win' = val 4294967296 win % val 4294967296 ys ∧ Win w' g o pre win' post ∧ But g w w' := by
  have hg := hW.1.lt
  have HV0 : Hid (0 < val 4294967296 ys) := by
    show _ < _
    have h1 := val_two 4294967296 ys m hyl
    have h2 : 0 < (ys.getD (m + 1) 0 * 4294967296 + ys.getD m 0) * 4294967296 ^ m := Nat.mul_pos (by omega) (Nat.pow_pos (by decide))
    omega
  have HVT : Hid (val 4294967296 win < 4294967296 ^ (m + 2 + 1)) := by have := val_lt hdw; rw [hwl] at this; exact this
  go_enter Tryz.func134, Tryz.ntmps134
  go_wp2_with fail
  refine (guessLimb_any g o m cap cap' bo pre win post ys _ hW hwl hyl (by omega) ht hdw hdy hlt htop).mono ?_
  rintro e w1 ⟨q, rfl, hq, hlo, hhi, hb1⟩
  have hW1 : Win w1 g o pre win post := ⟨hW.1.keep hb1 hg, hW.2⟩
  have ht1 := ht.below hb1
  have HLO : Hid (val 4294967296 win / val 4294967296 ys ≤ q ∧ q ≤ val 4294967296 win / val 4294967296 ys + 1) := ⟨hlo, hhi⟩
  have HWL : Hid (win.length = m + 2 + 1) := hwl
  have HYL : Hid (ys.length = m + 2) := hyl
  clear hlo hhi hW hwl hyl hlt htop
  go_wp2_with fail
  refine (takeOff_any g o (m + 2) cap cap' q bo pre win post ys _ hW1 HWL.out HYL.out (by omega) ht1 hne hdw hdy hq).mono ?_
  rintro e w2 ⟨b, win1, rfl, hb, hl1, hd1, hv1, hW2, ho2⟩
  have HU1 : Hid (val 4294967296 win1 < 4294967296 ^ (m + 2 + 1)) := by have := val_lt hd1; rw [hl1] at this; exact this
  have HV1 : Hid (val 4294967296 win1 + q * val 4294967296 ys = val 4294967296 win + 4294967296 ^ (m + 2 + 1) * b) := hv1
  have HL1 : Hid (win1.length = m + 2 + 1) := hl1
  have ht2 := ho2.seg ht1 hne
  clear hv1 hl1 hW1
  by_cases hq2 : q ≤ val 4294967296 win / val 4294967296 ys
  · obtain ⟨h1, h2, h3⟩ := step_low hq2 HU1.out HV1.out hb HLO.out.1
    subst h1
    have HQ : Hid (q = val 4294967296 win / val 4294967296 ys ∧ val 4294967296 win1 = val 4294967296 win % val 4294967296 ys) := ⟨h2, h3⟩
    clear h2 h3 hq2
    go_wp2
    go_ret
    exact ⟨q, win1, rfl, hq, HQ.out.1, HL1.out, hd1, HQ.out.2, hW2, But.of hg hb1 ho2⟩
  · have hqe : q = val 4294967296 win / val 4294967296 ys + 1 := by have := HLO.out; omega
    have h1 := b_one HV0.out hqe HV1.out hb
    subst h1
    have HQ : Hid (q = val 4294967296 win / val 4294967296 ys + 1) := hqe
    have hq0 : 0 < q := by rw [hqe]; exact Nat.succ_pos _
    have hq1 : 1 ≤ (q : Int) := by omega
    clear hqe hq2 hq0
    go_wp2_with fail
    refine (putBack_any g o (m + 2) cap cap' bo pre win1 post ys _ hW2 HL1.out HYL.out (by omega) ht2 hne hd1 hdy).mono ?_
    rintro e w3 ⟨c, win2, rfl, hc, hl2, hd2, hv2, hW3, ho3⟩
    have HV2 : Hid (val 4294967296 win2 + 4294967296 ^ (m + 2 + 1) * c = val 4294967296 win1 + val 4294967296 ys) := hv2
    have HL2 : Hid (win2.length = m + 2 + 1) := hl2
    clear hv2 hl2
    go_wp2
    go_ret
    have hu2 := val_lt hd2
    rw [HL2.out] at hu2
    have h5 := step_high HV0.out HQ.out HU1.out HV1.out (by decide) hu2 HV2.out hc
    refine ⟨q - 1, win2, ?_, by omega, by have := HQ.out; omega, HL2.out, hd2, h5.2, hW3, But.of hg hb1 (ho2.trans ho3)⟩
    rw [show (((q - 1 : Nat) : Nat) : Int) = (q : Int) - 1 by omega]
    rfl
end Go.Proofs.YteefniagebcagaaGreatDoor
/- Contracts of math/bits.LeadingZeros32, arith.shiftedUp and shiftDown; they prove no statement of the seat. -/
namespace Go.Proofs.YteefniagebcagaaGreatDoor
open Go.RowKit

set_option maxHeartbeats 2000000 in
theorem lead_any (x : Nat) (w : World) (hx : x < 4294967296) (h0 : 0 < x) :
    Calls Tryz.prog 132 #[.int .u32 x] w fun e w' => ∃ s : Nat, e = .returned (.int .i64 s) ∧ s ≤ 31 ∧ x * 2 ^ s < 4294967296 ∧ 2147483648 ≤ x * 2 ^ s ∧ w' = w := by
  obtain ⟨a, b, c⟩ := bitLen_bounds x (by omega) (by omega)
  generalize hB : Lib.bitLen x = k at a b c
  have hk : k ≤ 32 := by
    rcases Nat.lt_or_ge 32 k with h | h
    · have := Nat.pow_le_pow_right (show 0 < 2 by decide) (show 32 ≤ k - 1 by omega)
      omega
    · exact h
  have HB : Hid (Lib.bitLen ((x : Int)).toNat = k) := by show _ = _; simpa using hB
  have HA : Hid (x * 2 ^ (32 - k) < 4294967296 ∧ 2147483648 ≤ x * 2 ^ (32 - k)) := by
    have e : 2 ^ k * 2 ^ (32 - k) = 4294967296 := by rw [← Nat.pow_add, show k + (32 - k) = 32 by omega]
    have e2 : 2 ^ (k - 1) * 2 ^ (32 - k) = 2147483648 := by rw [← Nat.pow_add, show k - 1 + (32 - k) = 31 by omega]
    have hp : 0 < 2 ^ (32 - k) := Nat.pow_pos (by decide)
    refine ⟨?_, ?_⟩
    · rw [← e]; exact Nat.mul_lt_mul_of_pos_right b hp
    · rw [← e2]; exact Nat.mul_le_mul_right _ a
  clear a b hB
  go_enter Tryz.func132, Tryz.ntmps132
  go_wp2_with fail
  refine (len32_any x _ (by omega) (by omega)).mono ?_
  rintro e w1 ⟨rfl, rfl⟩
  rw [HB.out]
  go_wp2
  go_ret
  refine ⟨32 - k, ?_, by omega, HA.out.1, HA.out.2, rfl⟩
  rw [show (((32 - k : Nat) : Nat) : Int) = 32 - (k : Int) by omega]
  rfl

set_option maxHeartbeats 4000000 in
theorem shiftedUp_any (ao : Option Addr) (n cap s : Nat) (xs : List Nat) (w : World) (hn : xs.length = n) (h1 : n ≤ 9000) (hs : s ≤ 31) (hsg : Seg .u32 w ao xs) (hd : Digs 4294967296 xs) :
    Calls Tryz.prog 133 #[.slice ao n cap, .int .i64 s] w fun e w' => ∃ zs, e = .returned (.slice (some ⟨w.heap.size, 0, none⟩) (n + 1) (n + 1)) ∧ zs.length = n + 1 ∧ Digs 4294967296 zs ∧ val 4294967296 zs = val 4294967296 xs * 2 ^ s ∧ Row .u32 167 w' w.heap.size zs ∧ Below w.heap.size w w' := by
  have HN : Hid (xs.length = n) := hn
  clear hn
  go_enter Tryz.func133, Tryz.ntmps133
  go_wp2_with (first
    | (at_make; refine wpList_make_nums _ rfl _ _ 29 rfl 167 .u32 4 Tryz.underlying29 Tryz.info167 _ _ _ _ (n + 1) rfl rfl (by omega) (by omega) (by decide) (by omega) ?_; intro w1 hr1 hb1 hz1))
  go_loopw [15] (fun i wr => ∃ k : Nat, ∃ zs, k ≤ n ∧ i = .int .i64 k ∧ Hid (zs.length = n + 1) ∧ Digs 4294967296 zs ∧ Hid (zs.getD k 0 < 2 ^ s ∧ val 4294967296 (zs.take (k + 1)) = val 4294967296 (xs.take k) * 2 ^ s) ∧ Row .u32 167 wr w.heap.size zs ∧ Below w.heap.size w wr) (fun i _ => n - (intOf i).toNat)
  case atStart => exact ⟨0, _, Nat.zero_le _, rfl, (by simp : _ = _), Digs.replicate _ _ (by decide), (⟨by simp; exact Nat.pow_pos (by decide), by rw [take_zeros]; simp [val]⟩ : _ ∧ _), hr1, hb1⟩
  case round =>
    obtain ⟨k, z0, hk, rfl, HZ0, hzd0, HV0, hrow0, hbel0⟩ := hrel
    by_cases h0 : k < n
    · obtain ⟨b, off, rfl, hcs⟩ := hsg.open k (by have := HN.out; omega)
      have hbw : b < w.heap.size := World.block_lt_of_cell? w ⟨b, off + k, none⟩ (hcs k (by have := HN.out; omega))
      have hcell := (hbel0.cell (p := ⟨b, off + k, none⟩) hbw).trans (hcs k (by have := HN.out; omega))
      obtain ⟨x, hx⟩ : ∃ x, x = xs.getD k 0 := ⟨_, rfl⟩
      have hxl : x < 4294967296 := hx ▸ hd.getD (by decide) k
      rw [← hx] at hcell
      have HX : Hid (x = xs.getD k 0) := hx
      have hout := hrow0.cell k (by have := HZ0.out; omega)
      obtain ⟨z, hz⟩ : ∃ z, z = z0.getD k 0 := ⟨_, rfl⟩
      rw [← hz] at hout
      have HZZ : Hid (z = z0.getD k 0) := hz
      have hzl : z < 4294967296 := hz ▸ hzd0.getD (by decide) k
      have hfr := hrow0.frozen k
      obtain ⟨W, hW⟩ : ∃ W, W = x * 2 ^ s := ⟨_, rfl⟩
      obtain ⟨D, hD⟩ : ∃ D, D = z + W % 4294967296 := ⟨_, rfl⟩
      have hps : 2 ^ s ≤ 2147483648 := Nat.pow_le_pow_right (by decide) hs
      have hWl : W ≤ 9223372034707292160 := by
        have := Nat.mul_le_mul (show x ≤ 4294967295 by omega) hps
        omega
      have hwr : IntKind.u64.wrap ((x : Int) * 2 ^ s) = (W : Int) := by
        rw [show (x : Int) * 2 ^ s = (W : Int) by rw [hW, Int.natCast_mul, Int.natCast_pow]; rfl]
        exact wrap_u64 (by omega)
      have e32 : 2 ^ s * 2 ^ (32 - s) = 4294967296 := by rw [← Nat.pow_add, show s + (32 - s) = 32 by omega]
      have hlow : W % 4294967296 = 2 ^ s * (x % 2 ^ (32 - s)) := by
        rw [hW, ← e32, Nat.mul_comm x, Nat.mul_mod_mul_left]
      have hzs : z < 2 ^ s := by rw [hz]; exact HV0.out.1
      have hor : bits BinOp.or IntKind.u32 (z : Int) ((W : Int) % 4294967296) = (D : Int) := by
        rw [show (W : Int) % 4294967296 = ((W % 4294967296 : Nat) : Int) by omega, u32_or_nat _ _ hzl (by omega), hD]
        congr 1
        rw [Nat.or_comm, hlow, shl_or _ _ _ hzs, Nat.add_comm]
      have hDl : D < 4294967296 := by
        have h2 := u32_or_nat z (W % 4294967296) hzl (by omega)
        rw [hD, hlow]
        have h3 := Nat.mod_lt x (show 0 < 2 ^ (32 - s) from Nat.pow_pos (by decide))
        have h4 : 2 ^ s * (x % 2 ^ (32 - s) + 1) ≤ 2 ^ s * 2 ^ (32 - s) := Nat.mul_le_mul_left _ h3
        rw [e32, Nat.mul_add] at h4
        omega
      have HST : Hid (W / 4294967296 < 2 ^ s ∧ D + 4294967296 * (W / 4294967296) = x * 2 ^ s + z) := by
        refine ⟨?_, ?_⟩
        · rw [Nat.div_lt_iff_lt_mul (by decide), hW, Nat.mul_comm (2 ^ s)]
          exact Nat.mul_lt_mul_of_pos_right hxl (Nat.pow_pos (by decide))
        · rw [← hW, hD]; omega
      have hrow1 := hrow0.set k (D : Int) D rfl
      have hl1 : (z0.set k D).length = n + 1 := by rw [List.length_set]; exact HZ0.out
      have hout1 := hrow1.cell (k + 1) (by omega)
      have hfr1 := hrow1.frozen (k + 1)
      obtain ⟨z1, hz1⟩ : ∃ z1, z1 = (z0.set k D).getD (k + 1) 0 := ⟨_, rfl⟩
      rw [← hz1] at hout1
      clear hx hcs hr1 hb1 hz1 hz hW hD hps hlow hzs e32 hl1
      go_wp2
      go_roundw
      case rel =>
        refine ⟨k + 1, (z0.set k D).set (k + 1) (W / 4294967296), by omega, by go_num, ?_, (hzd0.set _ _ hDl).set _ _ (by omega), ⟨?_, ?_⟩, ?_, ?_⟩
        · show _ = _
          rw [List.length_set, List.length_set]; exact HZ0.out
        · rw [getD_set _ _ _ _ (by rw [List.length_set]; have := HZ0.out; omega), if_pos rfl]; exact HST.out.1
        · rw [val_set_succ _ _ _ _ (by rw [List.length_set]; have := HZ0.out; omega), val_set_succ _ _ _ _ (by have := HZ0.out; omega), val_take_succ', ← HX.out, Nat.pow_succ]
          have h5 := HV0.out.2
          rw [val_take_succ', ← HZZ.out] at h5
          exact up_step _ _ _ _ _ _ _ _ _ h5 HST.out.2
        · exact hrow1.set (k + 1) _ _ (by omega)
        · exact (hbel0.setCell (Nat.le_refl _) _).setCell (Nat.le_refl _) _
      case measure => simp [intOf]; omega
    · have hkn : k = n := by omega
      subst hkn
      go_wp2
      go_ret
      refine ⟨z0, rfl, HZ0.out, hzd0, ?_, hrow0, hbel0⟩
      have h := HV0.out.2
      rw [List.take_of_length_le (by have := HZ0.out; omega), List.take_of_length_le (by have := HN.out; omega)] at h
      exact h


theorem down_rel {Pk A d B E T N : Nat} (h : A + Pk * N = T) (hN : N = d + B * E) : (A + Pk * d) + Pk * B * E = T := by
  rw [← h, hN, Nat.mul_add, Nat.mul_assoc]; omega

/-- A hidden fact of any form. -/
structure Hid2 (p : Prop) : Prop where
  out : p

set_option maxHeartbeats 4000000 in
theorem shiftDown_any (g n cap s : Nat) (zs : List Nat) (w : World) (hn : zs.length = n) (h1 : n ≤ 9001) (hs : s ≤ 31) (hr : Row .u32 167 w g zs) (hd : Digs 4294967296 zs) :
    Calls Tryz.prog 135 #[.slice (some ⟨g, 0, none⟩) n cap, .int .i64 s] w fun e w' => ∃ v, e = .returned v ∧ ∃ rs, rs.length = n ∧ Digs 4294967296 rs ∧ val 4294967296 rs = val 4294967296 zs / 2 ^ s ∧ Row .u32 167 w' g rs ∧ Only g w w' := by
  have HN : Hid (zs.length = n) := hn
  clear hn
  go_enter Tryz.func135, Tryz.ntmps135
  go_wp2
  go_loopw [8] (fun i wr => ∃ k : Nat, ∃ rs, k ≤ n ∧ i = .int .i64 k ∧ Hid (rs.length = n) ∧ Digs 4294967296 rs ∧ Hid (rs.drop k = zs.drop k ∧ val 4294967296 (rs.take k) + 4294967296 ^ k * (val 4294967296 (zs.drop k) / 2 ^ s) = val 4294967296 zs / 2 ^ s) ∧ Row .u32 167 wr g rs ∧ Only g w wr) (fun i _ => n - (intOf i).toNat)
  case atStart => exact ⟨0, zs, Nat.zero_le _, rfl, HN, hd, (⟨rfl, by simp [val]⟩ : _ ∧ _), hr, Only.refl _ _⟩
  case round =>
    obtain ⟨k, rs, hk, rfl, HR, hrd, HV, hrow, honly⟩ := hrel
    by_cases h0 : k < n
    · have hc0 := hrow.cell k (by have := HR.out; omega)
      have ex : rs.getD k 0 = zs.getD k 0 := getD_drop0 rs zs k HV.out.1
      rw [ex] at hc0
      obtain ⟨x, hx⟩ : ∃ x, x = zs.getD k 0 := ⟨_, rfl⟩
      rw [← hx] at hc0
      have hxl : x < 4294967296 := hx ▸ hd.getD (by decide) k
      have hfr := hrow.frozen k
      obtain ⟨y, hy⟩ : ∃ y, y = zs.getD (k + 1) 0 := ⟨_, rfl⟩
      have hyl : y < 4294967296 := hy ▸ hd.getD (by decide) (k + 1)
      obtain ⟨W, hW⟩ : ∃ W, W = y * 4294967296 + x := ⟨_, rfl⟩
      have hWl : W ≤ 18446744073709551615 := by omega
      have hor : bits BinOp.or IntKind.u64 (x : Int) ((y : Int) * 4294967296) = (W : Int) := by
        rw [hW, ← or_shift y x hyl hxl, show (y : Int) * 4294967296 = ((y * 4294967296 : Nat) : Int) by omega, u64_or_nat _ _ (by omega) (by omega), u64_or_nat _ _ (by omega) (by omega), Nat.or_comm]
      have HE : Hid (val 4294967296 (zs.drop k) / 2 ^ s = W / 2 ^ s % 4294967296 + 4294967296 * (val 4294967296 (zs.drop (k + 1)) / 2 ^ s)) := by
        show _ = _
        have e32 : 2 ^ s * 2 ^ (32 - s) = 4294967296 := by rw [← Nat.pow_add, show s + (32 - s) = 32 by omega]
        have hps : 0 < 2 ^ s := Nat.pow_pos (by decide)
        have h5 : val 4294967296 (zs.drop (k + 1)) % 2 ^ s = y % 2 ^ s := by
          by_cases h2 : k + 1 < n
          · rw [val_drop_cons _ _ _ (by have := HN.out; omega), ← hy]
            generalize val 4294967296 (zs.drop (k + 1 + 1)) = D
            rw [← e32, Nat.mul_assoc, Nat.add_mul_mod_self_left]
          · rw [hy, List.drop_of_length_le (by have := HN.out; omega), List.getD_eq_getElem?_getD, List.getElem?_eq_none (by have := HN.out; omega)]
            rfl
        have h6 := down_step (2 ^ s) (2 ^ (32 - s)) x y (val 4294967296 (zs.drop (k + 1))) hps (by rw [e32]; exact hxl) h5
        rw [e32] at h6
        rw [val_drop_cons _ _ _ (by have := HN.out; omega), ← hx, h6, hW, Nat.add_comm (y * 4294967296), Nat.mul_comm y]
      have HD2 : ∀ d : Nat, d = W / 2 ^ s % 4294967296 → (rs.set k d).drop (k + 1) = zs.drop (k + 1) ∧ val 4294967296 ((rs.set k d).take (k + 1)) + 4294967296 ^ (k + 1) * (val 4294967296 (zs.drop (k + 1)) / 2 ^ s) = val 4294967296 zs / 2 ^ s := by
        intro d hd2
        refine ⟨by rw [drop_set_succ]; exact drop_succ_of _ _ _ HV.out.1, ?_⟩
        rw [val_set_succ _ _ _ _ (by have := HR.out; omega), Nat.pow_succ, hd2]
        exact down_rel HV.out.2 HE.out
      have HDD := Hid2.mk HD2
      clear HD2
      by_cases h2 : k + 1 < n
      · have hc1 := hrow.cell (k + 1) (by have := HR.out; omega)
        rw [getD_drop0 rs zs (k + 1) (drop_succ_of _ _ _ HV.out.1), ← hy] at hc1
        clear hx ex hW hy
        go_wp2
        go_roundw
        case rel =>
          refine ⟨k + 1, rs.set k (W / 2 ^ s % 4294967296), by omega, by go_num, ?_, hrd.set _ _ (Nat.mod_lt _ (by decide)), HDD.out _ rfl, hrow.set k _ _ (by rw [Int.natCast_emod, Int.natCast_ediv, Int.natCast_pow]; rfl), honly.set _ _⟩
          show _ = _
          rw [List.length_set]; exact HR.out
        case measure => simp [intOf]; omega
      · have hy0 : y = 0 := by rw [hy, List.getD_eq_getElem?_getD, List.getElem?_eq_none (by have := HN.out; omega)]; rfl
        have hWx : W = x := by rw [hW, hy0]; omega
        subst hWx
        clear hx ex hW hy hor hy0
        go_wp2
        go_roundw
        case rel =>
          refine ⟨k + 1, rs.set k (W / 2 ^ s % 4294967296), by omega, by go_num, ?_, hrd.set _ _ (Nat.mod_lt _ (by decide)), HDD.out _ rfl, hrow.set k _ _ (by rw [Int.natCast_emod, Int.natCast_ediv, Int.natCast_pow]; rfl), honly.set _ _⟩
          show _ = _
          rw [List.length_set]; exact HR.out
        case measure => simp [intOf]; omega
    · have hkn : k = n := by omega
      subst hkn
      go_wp2
      go_end0
      refine ⟨_, rfl, rs, HR.out, hrd, ?_, hrow, honly⟩
      have h := HV.out.2
      rw [List.take_of_length_le (by have := HR.out; omega), List.drop_of_length_le (by have := HN.out; omega)] at h
      simpa [val] using h
end Go.Proofs.YteefniagebcagaaGreatDoor
