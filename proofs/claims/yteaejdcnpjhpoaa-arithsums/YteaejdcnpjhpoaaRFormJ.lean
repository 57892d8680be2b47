/- Contract of suretyref01's form; it proves no statement of the seat. -/
import Derived.Test.YteaejdcnpjhpoaaRTrimJ
namespace Go.Proofs.Yteaejdcnpjhpoaa
open Go.RowKit

theorem good_iff (l : List Nat) (i0 : Nat) (hi : i0 = if pneg l = true then 1 else 0) :
    Good l ↔ i0 < l.length ∧ ¬ (l.getD i0 0 = 48 ∧ 1 < l.length) ∧ ∀ i, i0 ≤ i → i < l.length → 48 ≤ l.getD i 0 ∧ l.getD i 0 ≤ 57 := by
  unfold Good GoodB Plain pbody
  by_cases h : pneg l = true
  · rw [if_pos h] at hi ⊢
    subst hi
    cases l with
    | nil => simp
    | cons x r =>
      simp only [List.drop_succ_cons, List.drop_zero, List.length_cons]
      constructor
      · rintro ⟨⟨h1, h2, h3⟩, h4⟩
        refine ⟨by omega, ?_, ?_⟩
        · rintro ⟨h5, h6⟩
          have h7 : r.getD 0 0 = 48 := by simpa using h5
          apply h4
          refine ⟨h, ?_⟩
          match r, h1, h2, h7 with
          | [y], _, _, h7 => simp at h7; rw [h7]
          | y :: z :: q, _, h2, h7 => exact absurd ⟨h7, by simp⟩ h2
        · intro i h5 h6
          obtain ⟨j, rfl⟩ : ∃ j, i = j + 1 := ⟨i - 1, by omega⟩
          simpa using h3 j (by omega)
      · rintro ⟨h1, h2, h3⟩
        refine ⟨⟨by omega, ?_, ?_⟩, ?_⟩
        · rintro ⟨h5, h6⟩
          exact h2 ⟨by simpa using h5, by omega⟩
        · intro i h5
          simpa using h3 (i + 1) (by omega) (by omega)
        · rintro ⟨_, h5⟩
          subst h5
          exact h2 ⟨by simp, by simp⟩
  · rw [if_neg h] at hi ⊢
    subst hi
    constructor
    · rintro ⟨⟨h1, h2, h3⟩, _⟩
      exact ⟨h1, h2, fun i _ h5 => h3 i h5⟩
    · rintro ⟨h1, h2, h3⟩
      exact ⟨⟨h1, h2, fun i h5 => h3 i (Nat.zero_le _) h5⟩, fun h5 => h h5.1⟩

set_option maxHeartbeats 1000000 in
theorem form_yes (s : ByteArray) (w : World) (hl : s.size ≤ 10000) (hg : Good (bs s)) :
    Calls Try.prog 48 #[.string s] w fun e w' => e = .returned (.bool true) ∧ w' = w := by
  by_cases hp : pneg (bs s) = true
  · obtain ⟨g1, g2, g3⟩ := (good_iff (bs s) 1 (by rw [if_pos hp])).1 hg
    rw [bs_length] at g1 g2 g3
    have hp' := ((pneg_iff s).1 hp).2
    have x0 := bs_get s 0 (by omega)
    have x1 := bs_get s 1 g1
    have t0 : (((s[0]'(by omega)).toNat : Int) == 45) = true := by rw [beq_iff_eq]; omega
    have t1 : (((s[1]'g1).toNat : Int) == 48) = false := by
      rw [beq_eq_false_iff_ne]
      intro h
      exact g2 ⟨by omega, g1⟩
    have t2 : ((1 : Int) == (s.size : Int)) = false := by rw [beq_eq_false_iff_ne]; omega
    have hsz : 0 < s.size := by omega
    have HA : Hid (∀ i, 1 ≤ i → i < s.size → 48 ≤ (bs s).getD i 0 ∧ (bs s).getD i 0 ≤ 57) := g3
    clear g2 g3 x0 x1 hp' hp hg
    go_enter Try.func48, Try.ntmps48
    go_wp2
    go_loop [3] (fun i => ∃ k : Nat, 1 ≤ k ∧ k ≤ s.size ∧ i = .int .i64 k) (fun i => s.size - (intOf i).toNat)
    case atStart => exact ⟨1, Nat.le_refl _, by omega, rfl⟩
    case round =>
      obtain ⟨k, hk1, hk, rfl⟩ := hrel
      by_cases hlt : k < s.size
      · have hx := bs_get s k hlt
        have ha := HA.out k hk1 hlt
        rw [← hx] at ha
        obtain ⟨ha1, ha2⟩ := ha
        clear hx
        go_wp2
        go_round
        case rel => exact ⟨k + 1, by omega, by omega, by go_num⟩
        case measure => simp [intOf]; omega
      · go_wp2
        go_ret
        exact ⟨rfl, rfl⟩
  · obtain ⟨g1, g2, g3⟩ := (good_iff (bs s) 0 (by rw [if_neg hp])).1 hg
    rw [bs_length] at g1 g2 g3
    have x0 := bs_get s 0 g1
    have t0 : (((s[0]'g1).toNat : Int) == 45) = false := by
      rw [beq_eq_false_iff_ne]
      intro h
      exact hp ((pneg_iff s).2 ⟨g1, by omega⟩)
    have t2 : ((0 : Int) == (s.size : Int)) = false := by rw [beq_eq_false_iff_ne]; omega
    have hcase : ((((s[0]'g1).toNat : Int) == 48) = true ∧ ¬ 1 < s.size) ∨ (((s[0]'g1).toNat : Int) == 48) = false := by
      by_cases e : (s[0]'g1).toNat = 48
      · left; exact ⟨by simp [e], fun h => g2 ⟨by omega, h⟩⟩
      · right; rw [beq_eq_false_iff_ne]; omega
    have HA : Hid (∀ i, 0 ≤ i → i < s.size → 48 ≤ (bs s).getD i 0 ∧ (bs s).getD i 0 ≤ 57) := g3
    clear g2 g3 x0 hp hg
    rcases hcase with ⟨hf, hs⟩ | hf
    all_goals
      go_enter Try.func48, Try.ntmps48
      go_wp2
      go_loop [3] (fun i => ∃ k : Nat, k ≤ s.size ∧ i = .int .i64 k) (fun i => s.size - (intOf i).toNat)
      case atStart => exact ⟨0, by omega, rfl⟩
      case round =>
        obtain ⟨k, hk, rfl⟩ := hrel
        by_cases hlt : k < s.size
        · have hx := bs_get s k hlt
          have ha := HA.out k (Nat.zero_le _) hlt
          rw [← hx] at ha
          obtain ⟨ha1, ha2⟩ := ha
          clear hx
          go_wp2
          go_round
          case rel => exact ⟨k + 1, by omega, by go_num⟩
          case measure => simp [intOf]; omega
        · go_wp2
          go_ret
          exact ⟨rfl, rfl⟩
end Go.Proofs.Yteaejdcnpjhpoaa
