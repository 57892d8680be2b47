/- Contract of arith.guessLimb; it proves no statement of the seat. -/
import Derived.Test.YtidpbdhhbeaijabDivTJ
import Derived.BigQuiet
namespace Go.Proofs.Ytidpbdhhbeaijab
open Go.RowKit

/-- What is tested of a guess: that it, by the divisor's two highest limbs, is too great. -/
theorem guess_test (g v1 v2 l H u : Nat) (hH : g * v1 + l = H) : (l * 4294967296 + u < g * v2) ↔ (H * 4294967296 + u < g * (v1 * 4294967296 + v2)) := by
  subst hH
  rw [Nat.mul_add, Nat.add_mul, Nat.mul_assoc]
  omega

theorem wrap_u64 {p : Nat} (h : p ≤ 18446744073709551615) : IntKind.u64.wrap (p : Int) = (p : Int) := by
  simp only [IntKind.wrap, IntKind.bits, IntKind.signed]
  simp
  omega
theorem below_dN2 {B : Nat} {a w : World} (h : Below B a w) (n : Nat) : Below B a (w.drewN n) := h.trans ⟨rfl, rfl, rfl, Nat.le_refl _, fun _ _ => rfl⟩

set_option maxRecDepth 20000 in
set_option maxHeartbeats 8000000 in
theorem guessLimb_any (g o m cap cap' : Nat) (bo : Option Addr) (pre win post ys : List Nat) (w : World) (hW : Win w g o pre win post) (hwl : win.length = m + 3) (hyl : ys.length = m + 2) (hn : m ≤ 9000) (ht : Seg .u32 w bo ys) (hdw : Digs 4294967296 win) (hdy : Digs 4294967296 ys)
    (hlt : val 4294967296 win < 4294967296 * val 4294967296 ys) (htop : 0 < ys.getD (m + 1) 0) :
    Calls Try.prog 93 #[.slice (some ⟨g, o, none⟩) (m + 3) cap, .slice bo (m + 2) cap'] w fun e w' => ∃ q : Nat, e = .returned (.int .u32 q) ∧ q < 4294967296 ∧ val 4294967296 win / val 4294967296 ys ≤ q ∧ q ≤ val 4294967296 win / val 4294967296 ys + 1 ∧ Below w.heap.size w w' := by
  have hu := val_three 4294967296 win m hwl
  have hv := val_two 4294967296 ys m hyl
  have cu2 := hW.cell (m + 2) (by omega)
  have cu1 := hW.cell (m + 1) (by omega)
  have cu0 := hW.cell m (by omega)
  obtain ⟨b2, off, rfl, hcs⟩ := ht.open 0 (by omega)
  have cv1 := hcs (m + 1) (by omega)
  have cv0 := hcs m (by omega)
  have d2 := hdw.getD (by decide) (m + 2)
  have d1 := hdw.getD (by decide) (m + 1)
  have d0 := hdw.getD (by decide) m
  have e1 := hdy.getD (by decide) (m + 1)
  have e0 := hdy.getD (by decide) m
  have hul := val_lt (hdw.take m)
  have hvl := val_lt (hdy.take m)
  rw [List.length_take, Nat.min_eq_left (by omega)] at hul hvl
  generalize win.getD (m + 2) 0 = u2 at *
  generalize win.getD (m + 1) 0 = u1 at *
  generalize win.getD m 0 = u0 at *
  generalize ys.getD (m + 1) 0 = v1 at *
  generalize ys.getD m 0 = v0 at *
  have hu2 : u2 ≤ v1 := by
    rcases Nat.lt_or_ge v1 u2 with h | h
    · exfalso
      have hP : 0 < 4294967296 ^ m := Nat.pow_pos (by decide)
      generalize 4294967296 ^ m = P at *
      generalize val 4294967296 (win.take m) = ul at *
      generalize val 4294967296 (ys.take m) = vl at *
      have k1 : ((v1 + 1) * 4294967296 * 4294967296) * P ≤ ((u2 * 4294967296 + u1) * 4294967296 + u0) * P := Nat.mul_le_mul_right _ (by omega)
      have k2 : ((v1 * 4294967296 + v0) * P + vl) ≤ ((v1 * 4294967296 + 4294967295) * P + P) := by
        have := Nat.mul_le_mul_right P (show v1 * 4294967296 + v0 ≤ v1 * 4294967296 + 4294967295 by omega)
        omega
      have k3 : (v1 * 4294967296 + 4294967295) * P + P = ((v1 + 1) * 4294967296) * P := by
        have k5 : (v1 + 1) * 4294967296 = v1 * 4294967296 + 4294967295 + 1 := by omega
        rw [k5, Nat.add_mul (v1 * 4294967296 + 4294967295) 1 P, Nat.one_mul]
      have k4 : ((v1 + 1) * 4294967296 * 4294967296) * P = 4294967296 * (((v1 + 1) * 4294967296) * P) := by
        rw [Nat.mul_comm ((v1 + 1) * 4294967296) 4294967296, Nat.mul_assoc]
      omega
    · exact h
  obtain ⟨H, hH⟩ : ∃ H, H = u2 * 4294967296 + u1 := ⟨_, rfl⟩
  have hor : bits BinOp.or IntKind.u64 ((u2 : Int) * 4294967296) (u1 : Int) = (H : Int) := by rw [hH]; exact or_shift u2 u1 d2 d1
  have hHl : (H : Int) ≤ 18446744073709551615 := by omega
  obtain ⟨V, hV⟩ : ∃ V, V = v1 * 4294967296 + v0 := ⟨_, rfl⟩
  obtain ⟨U, hU⟩ : ∃ U, U = H * 4294967296 + u0 := ⟨_, rfl⟩
  have HG : Hid (∀ q, q < 4294967296 → q * V ≤ U → (U / V ≤ q ∨ 4294967296 ≤ q + 1) → val 4294967296 win / val 4294967296 ys ≤ q ∧ q ≤ val 4294967296 win / val 4294967296 ys + 1) := by
    intro q h1 h2 h3
    rw [← hH, ← hU] at hu
    rw [← hV] at hv
    refine ⟨guess_low (B := 4294967296) hu hul hv hlt h3 (by omega), guess_high (B := 4294967296) hu hv hvl h2 h1 ?_⟩
    rw [hv]
    have : 4294967296 * 4294967296 ^ m ≤ V * 4294967296 ^ m := Nat.mul_le_mul_right _ (by omega)
    omega
  have HUV : Hid (H = u2 * 4294967296 + u1 ∧ V = v1 * 4294967296 + v0 ∧ U = H * 4294967296 + u0) := ⟨hH, hV, hU⟩
  have H0 : Hid (U / V ≤ H / v1) := by
    show _ ≤ _
    rw [Nat.le_div_iff_mul_le htop]
    have k1 : U / V * V ≤ U := Nat.div_mul_le_self U V
    have k2 : U / V * (v1 * 4294967296) ≤ U / V * V := Nat.mul_le_mul_left _ (by omega)
    rw [← Nat.mul_assoc] at k2
    omega
  have hq0 : 0 ≤ (H : Int) / (v1 : Int) := by rw [← Int.natCast_ediv]; exact Int.natCast_nonneg _
  have hq1 : (H : Int) / (v1 : Int) ≤ 18446744073709551615 := by rw [← Int.natCast_ediv]; have := Nat.div_le_self H v1; omega
  have hr0 : 0 ≤ (H : Int) % (v1 : Int) := by rw [← Int.natCast_emod]; exact Int.natCast_nonneg _
  have hr1 : (H : Int) % (v1 : Int) < (v1 : Int) := by rw [← Int.natCast_emod]; have := Nat.mod_lt H htop; omega
  have hv10 : ((v1 : Int) == 0) = false := by rw [beq_eq_false_iff_ne]; omega
  have FITS : Hid (∀ q l : Nat, q * v1 + l = H → q < 4294967296 → 4294967296 ≤ l → q * V ≤ U) := by
    intro q l h1 h2 h3
    refine Nat.le_of_not_lt fun h => ?_
    rw [hU, hV] at h
    have h4 := (guess_test q v1 v0 l H u0 h1).2 h
    have h5 : q * v0 ≤ 4294967296 * 4294967296 := Nat.mul_le_mul (by omega) (by omega)
    have h6 : 4294967296 * 4294967296 ≤ l * 4294967296 := Nat.mul_le_mul_right _ h3
    omega
  have HB : Hid (g < w.heap.size ∧ b2 < w.heap.size) := ⟨World.block_lt_of_cell? w _ cu0, World.block_lt_of_cell? w _ cv0⟩
  have HC : Hid (w.cell? ⟨g, o + m, none⟩ = some (.int .u32 (u0 : Nat)) ∧ w.cell? ⟨b2, off + (m + 1), none⟩ = some (.int .u32 (v1 : Nat)) ∧ w.cell? ⟨b2, off + m, none⟩ = some (.int .u32 (v0 : Nat))) := ⟨cu0, cv1, cv0⟩
  clear hu hv hul hvl hlt hcs hW hwl hyl hdw hdy hH hV hU ht cu0 cv0
  go_enter Try.func93, Try.ntmps93
  go_wp2
  go_quiet (fail)
  go_wp2
  go_quiet (fail)
  go_wp2
  clear cu1 cu2 cv1 hor hHl hq1 hr1 hq0 hr0
  go_loopw [7, 8] (fun gv lv wr => ∃ q l : Nat, gv = .int .u64 q ∧ lv = .int .u64 l ∧ Hid (q * v1 + l = H) ∧ Hid (U / V ≤ q ∨ 4294967296 ≤ q + 1) ∧ (l : Int) < 4294967296 ∧ Below w.heap.size w wr) (fun gv _ _ => (intOf gv).toNat)
  case atStart =>
    refine ⟨H / v1, H % v1, by rw [Int.natCast_ediv], by rw [Int.natCast_emod], (by rw [Nat.mul_comm]; exact Nat.div_add_mod _ _ : _ = _), (Or.inl H0.out : _ ∨ _), by have := Nat.mod_lt H htop; omega, ?_⟩
    exact below_dN2 (below_dN2 (Below.refl _ _) _) _
  case round =>
    obtain ⟨q, l, rfl, rfl, HQ, HO, hl, hbel⟩ := hrel
    have c0 := (hbel.cell (p := ⟨g, o + m, none⟩) HB.out.1).trans HC.out.1
    have c1 := (hbel.cell (p := ⟨b2, off + (m + 1), none⟩) HB.out.2).trans HC.out.2.1
    have c2 := (hbel.cell (p := ⟨b2, off + m, none⟩) HB.out.2).trans HC.out.2.2
    by_cases hA : 4294967296 ≤ q
    · have tA : ((q : Int) / 4294967296 != 0) = true := by rw [bne_iff_ne]; omega
      have hq1 : 1 ≤ (q : Int) := by omega
      have HQ1 : Hid ((q - 1) * v1 + (l + v1) = H) := by
        show _ = _
        have e : q = q - 1 + 1 := by omega
        have := HQ.out
        rw [e, Nat.add_mul, Nat.one_mul] at this
        omega
      have HO1 : Hid (U / V ≤ q - 1 ∨ 4294967296 ≤ q - 1 + 1) := Or.inr (by omega)
      have hql : (q : Int) ≤ 18446744073709551615 := by
        have h1 := HQ.out
        have h2 : q * 1 ≤ q * v1 := Nat.mul_le_mul_left _ htop
        have h3 := HUV.out.1
        omega
      have hqi : (q : Int) - 1 = ((q - 1 : Nat) : Int) := by omega
      by_cases hl2 : 4294967296 ≤ l + v1
      · have tL : (((l : Int) + (v1 : Int)) / 4294967296 != 0) = true := by rw [bne_iff_ne]; omega
        have HF : Hid (q - 1 < 4294967296) := by
          show _ < _
          rcases Nat.lt_or_ge (q - 1) 4294967296 with h | h
          · exact h
          · exfalso
            have h1 := HQ1.out
            have h2 : 4294967296 * v1 ≤ (q - 1) * v1 := Nat.mul_le_mul_right _ h
            have h3 := HUV.out.1
            omega
        have hqf : (q : Int) - 1 < 4294967296 := by have := HF.out; omega
        have HL2 : Hid (4294967296 ≤ l + v1) := hl2
        clear hA hl2
        go_wp2
        go_quiet (fail)
        go_wp2
        go_ret
        have h3 := HG.out (q - 1) HF.out (FITS.out _ _ HQ1.out HF.out (by have := HL2.out; omega)) HO1.out
        exact ⟨q - 1, rfl, HF.out, h3.1, h3.2, below_dN2 hbel _⟩
      · have tL : (((l : Int) + (v1 : Int)) / 4294967296 != 0) = false := by rw [bne_eq_false_iff_eq]; omega
        have hl3 : (l : Int) + (v1 : Int) < 4294967296 := by omega
        clear hA hl2
        go_wp2
        go_quiet (fail)
        go_wp2
        go_roundw
        case rel => exact ⟨q - 1, l + v1, rfl, by rw [Int.natCast_add], HQ1, HO1, by omega, below_dN2 hbel _⟩
        case measure => simp [intOf]; omega
    · have tA : ((q : Int) / 4294967296 != 0) = false := by rw [bne_eq_false_iff_eq]; omega
      have hqB : (q : Int) < 4294967296 := by omega
      have hmul : q * v0 ≤ 4294967295 * 4294967295 := Nat.mul_le_mul (by omega) (by omega)
      obtain ⟨p, hp⟩ : ∃ p, p = q * v0 := ⟨_, rfl⟩
      have hpi : (q : Int) * (v0 : Int) = (p : Int) := by rw [hp, Int.natCast_mul]
      rw [← hp] at hmul
      obtain ⟨T, hT⟩ : ∃ T, T = l * 4294967296 + u0 := ⟨_, rfl⟩
      have hor : bits BinOp.or IntKind.u64 ((l : Int) * 4294967296) (u0 : Int) = (T : Int) := by rw [hT]; exact or_shift l u0 (by omega) d0
      have HT : Hid (T < p ↔ U < q * V) := by
        show _ ↔ _
        rw [hT, hp, HUV.out.2.2, HUV.out.2.1]
        exact guess_test q v1 v0 l H u0 HQ.out
      have HP : Hid (p = q * v0) := hp
      have hpw : IntKind.u64.wrap (p : Int) = (p : Int) := wrap_u64 (by omega)
      clear hp hT hA hmul
      by_cases hC : T < p
      · have tC : decide (T < p) = true := decide_eq_true hC
        have HQ0 : Hid (1 ≤ q) := by
          show _ ≤ _
          rcases Nat.eq_zero_or_pos q with h | h
          · have := HP.out
            rw [h, Nat.zero_mul] at this
            omega
          · exact h
        have hq1 : 1 ≤ (q : Int) := by have := HQ0.out; omega
        have HQ1 : Hid ((q - 1) * v1 + (l + v1) = H) := by
          show _ = _
          have e : q = q - 1 + 1 := by omega
          have := HQ.out
          rw [e, Nat.add_mul, Nat.one_mul] at this
          omega
        have HO1 : Hid (U / V ≤ q - 1 ∨ 4294967296 ≤ q - 1 + 1) := by
          refine Or.inl ?_
          have h1 := HT.out.1 hC
          have hV0 : 0 < V := by have := HUV.out.2.1; omega
          have := (Nat.div_lt_iff_lt_mul hV0).2 h1
          omega
        have hqi : (q : Int) - 1 = ((q - 1 : Nat) : Int) := by omega
        have HF : Hid (q - 1 < 4294967296) := by show _ < _; omega
        clear hC
        by_cases hl2 : 4294967296 ≤ l + v1
        · have tL : (((l : Int) + (v1 : Int)) / 4294967296 != 0) = true := by rw [bne_iff_ne]; omega
          have hqf : (q : Int) - 1 < 4294967296 := by omega
          have HL2 : Hid (4294967296 ≤ l + v1) := hl2
          clear hl2
          go_wp2
          go_quiet (fail)
          clear hpw hpi hor
          go_wp2
          go_ret
          have h3 := HG.out (q - 1) HF.out (FITS.out _ _ HQ1.out HF.out (by have := HL2.out; omega)) HO1.out
          exact ⟨q - 1, rfl, HF.out, h3.1, h3.2, below_dN2 hbel _⟩
        · have tL : (((l : Int) + (v1 : Int)) / 4294967296 != 0) = false := by rw [bne_eq_false_iff_eq]; omega
          have hl3 : (l : Int) + (v1 : Int) < 4294967296 := by omega
          clear hl2
          go_wp2
          go_quiet (fail)
          clear hpw hpi hor
          go_wp2
          go_roundw
          case rel => exact ⟨q - 1, l + v1, rfl, by rw [Int.natCast_add], HQ1, HO1, by omega, below_dN2 hbel _⟩
          case measure => simp [intOf]; omega
      · have tC : decide (T < p) = false := decide_eq_false hC
        have HC2 : Hid (q * V ≤ U) := Nat.le_of_not_lt fun h => hC (HT.out.2 h)
        have hq4 : q < 4294967296 := by omega
        clear hC
        go_wp2
        go_quiet (fail)
        clear hpw hpi hor
        go_wp2
        go_ret
        have h3 := HG.out q hq4 HC2.out HO.out
        exact ⟨q, rfl, hq4, h3.1, h3.2, below_dN2 hbel _⟩
end Go.Proofs.Ytidpbdhhbeaijab
