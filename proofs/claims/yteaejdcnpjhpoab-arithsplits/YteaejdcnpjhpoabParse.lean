/- Contracts of arith.readDigits, fitting, Parse; they prove no statement of the seat. -/
import Derived.Test.YteaejdcnpjhpoabText1
namespace Go.Proofs.Yteaejdcnpjhpoab
open Go.RowKit

theorem trimZ_seg {k : IntKind} {t : TypeId} {w : World} {g : Nat} {zs : List Nat} (h : Row k t w g zs) : Seg k w (some ⟨g, 0, none⟩) (trimZ zs) := by
  have := h.first (trimZ zs).length (trimZ_length_le zs)
  rwa [← trimZ_take] at this

theorem scaleLimbs_int (ao : Option Addr) (n cap f m : Nat) (F M : Int) (hF : F = (f : Int)) (hM : M = (m : Int)) (xs : List Nat) (w : World) (hn : xs.length = n) (h1 : n ≤ 9000) (hs : Seg .u32 w ao xs) (hd : Digs 4294967296 xs) (hf : f < 4294967296) (hm : m < 4294967296) :
    Calls Try.prog 56 #[.slice ao n cap, .int .u32 F, .int .u32 M] w fun e w' => ∃ zs, e = .returned (.slice (some ⟨w.heap.size, 0, none⟩) (trimZ zs).length (n + 1)) ∧ zs.length = n + 1 ∧ Digs 4294967296 zs ∧ val 4294967296 zs = val 4294967296 xs * f + m ∧ Row .u32 74 w' w.heap.size zs ∧ Below w.heap.size w w' := by
  subst hF; subst hM
  exact scaleLimbs_any ao n cap f m xs w hn h1 hs hd hf hm

set_option maxHeartbeats 1600000 in
theorem readDigits_any (s : ByteArray) (w : World) (hl : s.size ≤ 1000) (hp : AllDig (bs s) s.size) :
    Calls Try.prog 43 #[.string s] w fun e w' => ∃ ao m cap ls, e = .returned (.slice ao m cap) ∧ ls.length = m ∧ m ≤ cap ∧ cap ≤ 2000 ∧ Seg .u32 w' ao ls ∧ Digs 4294967296 ls ∧ val 4294967296 ls = dec (bs s) ∧ Below w.heap.size w w' := by
  have HP : Hid (AllDig (bs s) s.size) := hp
  clear hp
  go_enter Try.func43, Try.ntmps43
  go_wp2
  go_loopw [3, 4, 5, 9] (fun v c p i wr => ∃ k cN pN j m cap : Nat, ∃ ao ls, k ≤ s.size ∧ i = .int .i64 k ∧ c = .int .u32 cN ∧ p = .int .u32 pN ∧ v = .slice ao m cap ∧ Hid (pN = 10 ^ j) ∧ j ≤ 8 ∧ cN < pN ∧ Hid (k = s.size → j = 0) ∧ Hid (ls.length = m) ∧ m ≤ k ∧ m ≤ cap ∧ cap ≤ 1 + k ∧
      Seg .u32 wr ao ls ∧ Digs 4294967296 ls ∧ Hid (val 4294967296 ls * pN + cN = dec ((bs s).take k)) ∧ Below w.heap.size w wr) (fun _ _ _ i _ => s.size - (intOf i).toNat)
  case atStart => exact ⟨0, 0, 1, 0, 0, 0, none, [], Nat.zero_le _, rfl, rfl, rfl, rfl, (rfl : _ = _), by omega, by decide, (fun _ => rfl : _ → _), (rfl : _ = _), by omega, by omega, by omega, Seg.nil _ _ _, Digs.nil _, (by simp [val, dec] : _ = _), Below.refl _ _⟩
  case round =>
    obtain ⟨k, cN, pN, j, m, cap, ao, ls, hk, rfl, rfl, rfl, rfl, HPJ, hj, hcN, HJ, HL, hmk, hmc, hck, hseg, hdl, HV, hbel⟩ := hrel
    have hpj := pow10_step j hj
    rw [← HPJ.out] at hpj
    have HPP : Hid ((pN * 10 = 1000000000 ∧ j = 8) ∨ (pN * 10 ≤ 100000000 ∧ j < 8)) := hpj
    have hpN : pN ≤ 100000000 := by omega
    clear hpj
    by_cases hlt : k < s.size
    · have hx := bs_get s k hlt
      have hdg := HP.out k hlt
      rw [← hx] at hdg
      obtain ⟨hd1, hd2⟩ := hdg
      have HX : Hid ((s[k]'hlt).toNat = (bs s).getD k 0) := hx
      clear hx
      have HD : Hid (dec ((bs s).take (k + 1)) = dec ((bs s).take k) * 10 + ((s[k]'hlt).toNat - 48)) := by
        show _ = _
        rw [take_snoc _ _ (by rw [bs_length]; exact hlt), dec_snoc, HX.out]
      have hsz : 1 ≤ s.size := by omega
      by_cases hflush : pN * 10 = 1000000000 ∨ k + 1 = s.size
      · have hcase : (((pN : Int) * 10 == 1000000000) = true) ∨ ((((pN : Int) * 10 == 1000000000) = false) ∧ ((k : Int) == (s.size : Int) - 1) = true) := by
          by_cases e : pN * 10 = 1000000000
          · left; rw [beq_iff_eq]; omega
          · right; exact ⟨by rw [beq_eq_false_iff_ne]; omega, by rw [beq_iff_eq]; omega⟩
        clear hflush
        rcases hcase with g1 | ⟨g1, g2⟩
        all_goals
          go_wp2_with (go_at_call 56; refine (scaleLimbs_int ao m cap (pN * 10) (cN * 10 + ((s[k]'hlt).toNat - 48)) _ _ (by omega) (by omega) ls _ HL.out (by omega) hseg hdl (by omega) (by omega)).mono ?_; rintro e w2 ⟨zs, rfl, hzl, hzd, hzv, hzr, hzb⟩)
          go_roundw
          case rel =>
            refine ⟨k + 1, 0, 1, 0, (trimZ zs).length, m + 1, _, trimZ zs, by omega, by go_num, rfl, rfl, rfl, (rfl : _ = _), by omega, by omega, (fun _ => rfl : _ → _), (rfl : _ = _), ?_, ?_, by omega, trimZ_seg hzr, hzd.trimZ, ?_, hbel.trans (hzb.mono hbel.size)⟩
            · have := trimZ_length_le zs; omega
            · have := trimZ_length_le zs; omega
            · show _ = _
              rw [HD.out, val_trimZ, hzv, Nat.mul_one, Nat.add_zero]
              exact dec_step _ _ _ _ _ HV.out
          case measure => simp [intOf]; omega
      · have g1 : ((pN : Int) * 10 == 1000000000) = false := by rw [beq_eq_false_iff_ne]; omega
        have g2 : ((k : Int) == (s.size : Int) - 1) = false := by rw [beq_eq_false_iff_ne]; omega
        have g3 : pN * 10 ≤ 100000000 ∧ j < 8 := by
          rcases HPP.out with h | h
          · exact absurd (Or.inl h.1) hflush
          · exact h
        obtain ⟨g4, g5⟩ := g3
        clear hflush
        go_wp2
        go_roundw
        case rel =>
          refine ⟨k + 1, cN * 10 + ((s[k]'hlt).toNat - 48), pN * 10, j + 1, m, cap, ao, ls, by omega, by go_num, ?_, ?_, rfl, ?_, by omega, by omega, ?_, HL, by omega, by omega, by omega, hseg, hdl, ?_, hbel⟩
          · congr 1; omega
          · congr 1
          · show _ = _
            rw [HPJ.out, Nat.pow_succ]
          · intro h; rw [beq_eq_false_iff_ne] at g2; omega
          · show _ = _
            rw [HD.out]
            exact dec_step _ _ _ _ _ HV.out
        case measure => simp [intOf]; omega
    · have hks : k = s.size := by omega
      go_wp2
      go_ret
      refine ⟨ao, m, cap, ls, rfl, HL.out, hmc, by omega, hseg, hdl, ?_, hbel⟩
      have h0 := HJ.out hks
      have h1 := HPJ.out
      rw [h0] at h1
      have h2 := HV.out
      rw [List.take_of_length_le (by rw [bs_length]; omega)] at h2
      rw [← h2]
      have : pN = 1 := by simpa using h1
      subst this
      omega
end Go.Proofs.Yteaejdcnpjhpoab
