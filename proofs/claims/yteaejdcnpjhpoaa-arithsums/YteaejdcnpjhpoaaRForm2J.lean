/- Contract of suretyref01's form where a text is no number's; it proves no statement of the seat. -/
import Derived.Test.YteaejdcnpjhpoaaRFormJ
namespace Go.Proofs.Yteaejdcnpjhpoaa
open Go.RowKit

set_option maxHeartbeats 1000000 in
theorem form_no (s : ByteArray) (w : World) (hl : s.size ≤ 10000) (hg : ¬ Good (bs s)) :
    Calls Try.prog 48 #[.string s] w fun e w' => e = .returned (.bool false) ∧ w' = w := by
  by_cases hp : pneg (bs s) = true
  · have hgi := fun h => hg ((good_iff (bs s) 1 (by rw [if_pos hp])).2 h)
    rw [bs_length] at hgi
    obtain ⟨hsz, hp'⟩ := (pneg_iff s).1 hp
    have x0 := bs_get s 0 (by omega)
    have t0 : (((s[0]'(by omega)).toNat : Int) == 45) = true := by rw [beq_iff_eq]; omega
    clear x0 hp' hp hg
    by_cases g1 : 1 < s.size
    · have t2 : ((1 : Int) == (s.size : Int)) = false := by rw [beq_eq_false_iff_ne]; omega
      have x1 := bs_get s 1 g1
      by_cases e1 : (s[1]'g1).toNat = 48
      · have t1 : (((s[1]'g1).toNat : Int) == 48) = true := by rw [beq_iff_eq]; omega
        clear x1 e1 hgi
        go_enter Try.func48, Try.ntmps48
        go_wp2
        go_ret
        exact ⟨rfl, rfl⟩
      · have t1 : (((s[1]'g1).toNat : Int) == 48) = false := by rw [beq_eq_false_iff_ne]; omega
        have HA : Hid (¬ ∀ i, 1 ≤ i → i < s.size → 48 ≤ (bs s).getD i 0 ∧ (bs s).getD i 0 ≤ 57) := fun h => hgi ⟨g1, fun h' => e1 (by omega), h⟩
        clear x1 e1 hgi
        go_enter Try.func48, Try.ntmps48
        go_wp2
        go_loop [3] (fun i => ∃ k : Nat, 1 ≤ k ∧ k ≤ s.size ∧ i = .int .i64 k ∧ Hid (∀ i, 1 ≤ i → i < k → 48 ≤ (bs s).getD i 0 ∧ (bs s).getD i 0 ≤ 57)) (fun i => s.size - (intOf i).toNat)
        case atStart => exact ⟨1, Nat.le_refl _, by omega, rfl, fun i h1 h2 => by omega⟩
        case round =>
          obtain ⟨k, hk1, hk, rfl, hAD⟩ := hrel
          by_cases hlt : k < s.size
          · have HX : Hid ((s[k]'hlt).toNat = (bs s).getD k 0) := bs_get s k hlt
            by_cases hd1 : 48 ≤ (s[k]'hlt).toNat
            · by_cases hd2 : (s[k]'hlt).toNat ≤ 57
              · go_wp2
                go_round
                case rel =>
                  refine ⟨k + 1, by omega, by omega, by go_num, fun i h1 h2 => ?_⟩
                  by_cases e : i = k
                  · subst e; rw [← HX.out]; exact ⟨hd1, hd2⟩
                  · exact hAD.out i h1 (by omega)
                case measure => simp [intOf]; omega
              · go_wp2
                go_ret
                exact ⟨rfl, rfl⟩
            · go_wp2
              go_ret
              exact ⟨rfl, rfl⟩
          · have hk' : k = s.size := by omega
            exact absurd (hk' ▸ hAD.out) HA.out
    · have t2 : ((1 : Int) == (s.size : Int)) = true := by rw [beq_iff_eq]; omega
      clear hgi
      go_enter Try.func48, Try.ntmps48
      go_wp2
      go_ret
      exact ⟨rfl, rfl⟩
  · have hgi := fun h => hg ((good_iff (bs s) 0 (by rw [if_neg hp])).2 h)
    rw [bs_length] at hgi
    by_cases g1 : 0 < s.size
    · have x0 := bs_get s 0 g1
      have t0 : (((s[0]'g1).toNat : Int) == 45) = false := by
        rw [beq_eq_false_iff_ne]
        intro h
        exact hp ((pneg_iff s).2 ⟨g1, by omega⟩)
      have t2 : ((0 : Int) == (s.size : Int)) = false := by rw [beq_eq_false_iff_ne]; omega
      clear hp hg
      by_cases h2 : (s[0]'g1).toNat = 48 ∧ 1 < s.size
      · obtain ⟨e1, e2⟩ := h2
        have hf : (((s[0]'g1).toNat : Int) == 48) = true := by rw [beq_iff_eq]; omega
        clear e1 x0 hgi
        go_enter Try.func48, Try.ntmps48
        go_wp2
        go_ret
        exact ⟨rfl, rfl⟩
      · have hcase : ((((s[0]'g1).toNat : Int) == 48) = true ∧ ¬ 1 < s.size) ∨ (((s[0]'g1).toNat : Int) == 48) = false := by
          by_cases e : (s[0]'g1).toNat = 48
          · left; exact ⟨by simp [e], fun h => h2 ⟨e, h⟩⟩
          · right; rw [beq_eq_false_iff_ne]; omega
        have HA : Hid (¬ ∀ i, 0 ≤ i → i < s.size → 48 ≤ (bs s).getD i 0 ∧ (bs s).getD i 0 ≤ 57) := fun h => hgi ⟨g1, fun h' => h2 ⟨by omega, h'.2⟩, h⟩
        clear x0 h2 hgi
        rcases hcase with ⟨hf, hs⟩ | hf
        all_goals
          go_enter Try.func48, Try.ntmps48
          go_wp2
          go_loop [3] (fun i => ∃ k : Nat, k ≤ s.size ∧ i = .int .i64 k ∧ Hid (∀ i, 0 ≤ i → i < k → 48 ≤ (bs s).getD i 0 ∧ (bs s).getD i 0 ≤ 57)) (fun i => s.size - (intOf i).toNat)
          case atStart => exact ⟨0, by omega, rfl, fun i h1 h2 => by omega⟩
          case round =>
            obtain ⟨k, hk, rfl, hAD⟩ := hrel
            by_cases hlt : k < s.size
            · have HX : Hid ((s[k]'hlt).toNat = (bs s).getD k 0) := bs_get s k hlt
              by_cases hd1 : 48 ≤ (s[k]'hlt).toNat
              · by_cases hd2 : (s[k]'hlt).toNat ≤ 57
                · go_wp2
                  go_round
                  case rel =>
                    refine ⟨k + 1, by omega, by go_num, fun i h1 h2 => ?_⟩
                    by_cases e : i = k
                    · subst e; rw [← HX.out]; exact ⟨hd1, hd2⟩
                    · exact hAD.out i h1 (by omega)
                  case measure => simp [intOf]; omega
                · go_wp2
                  go_ret
                  exact ⟨rfl, rfl⟩
              · go_wp2
                go_ret
                exact ⟨rfl, rfl⟩
            · have hk' : k = s.size := by omega
              exact absurd (hk' ▸ hAD.out) HA.out
    · have hs : s = ByteArray.empty := by
        apply bs_inj
        apply List.eq_nil_of_length_eq_zero
        rw [bs_length]; omega
      subst hs
      go_enter Try.func48, Try.ntmps48
      go_wp2
      go_ret
      exact ⟨rfl, rfl⟩
end Go.Proofs.Yteaejdcnpjhpoaa
