/- The document's skip, words, signs, names; and names in lex. No statement of the seat is proved here. -/
import Derived.Test.YtdlkjafdnaadgaaLexGJLong
namespace Go.Proofs.Ytdlkjafdnaadgaa
open Go.RowKit
set_option linter.unusedVariables false
set_option linter.unusedSimpArgs false
namespace Lex
open Euf (OL App Stop wpList_push)

theorem kdB (c : UInt8) : (kd c == 3) = isB c := by
  cases h : isB c
  · unfold kd; rw [h]
    cases isL c <;> cases isD c <;> rfl
  · rw [kd3 h]; rfl
theorem two_is {s : ByteArray} {k : Nat} (h : k + 2 ≤ s.size) : bs (s.extract k (k + 2)) = [s[k]'(by omega), s[k + 1]'(by omega)] := by
  rw [bs_extract s k (k + 2) (by omega), bs_drop s k (by omega), bs_drop s (k + 1) (by omega), show k + 2 - k = 2 by omega]
  rfl
theorem slash (c d : UInt8) : [c, d] = ([47, 47] : List UInt8) ↔ c.toNat = 47 ∧ d.toNat = 47 := by
  constructor
  · intro h
    simp only [List.cons.injEq, and_true] at h
    obtain ⟨rfl, rfl⟩ := h
    exact ⟨rfl, rfl⟩
  · rintro ⟨h1, h2⟩
    rw [show c = 47 from UInt8.toNat_inj.1 h1, show d = 47 from UInt8.toNat_inj.1 h2]
theorem beq10 (n : Nat) (b : Bool) (h : decide (n = 10) = b) : ((n : Int) == 10) = b := by
  subst h
  by_cases h : n = 10
  · subst h; rfl
  · rw [decide_eq_false h, beq_eq_false_iff_ne]; omega
theorem ln_cons {c : UInt8} {r : List UInt8} (h : ¬ c.toNat = 10) : ln (c :: r) = ln r + 1 := by simp [ln, h]
theorem ln_stop {c : UInt8} {r : List UInt8} (h : c.toNat = 10) : ln (c :: r) = 0 := by simp [ln, h]

set_option maxHeartbeats 2000000 in
theorem skip_any (s : ByteArray) (p : Nat) (w : World) (hp : p ≤ s.size) (hs : s.size ≤ 9223372036854770000) :
    Calls Try.prog 21 #[.string s, .int .i64 (p : Int)] w fun e w' => e = .returned (.int .i64 ((p + sk ((bs s).drop p) : Nat) : Int)) ∧ w' = w := by
  obtain ⟨G, HG⟩ : ∃ G : Nat, Hid (p + sk ((bs s).drop p) = G) := ⟨_, rfl⟩
  have HG' := HG.out
  rw [HG']
  clear HG'
  go_enter Try.func21, Try.ntmps21
  go_wp2
  go_loop [1] (fun i => ∃ k : Nat, k ≤ s.size ∧ i = .int .i64 k ∧ Hid (k + sk ((bs s).drop k) = G)) (fun i => s.size - (intOf i).toNat)
  case atStart => exact ⟨p, hp, rfl, HG⟩
  case round =>
    obtain ⟨k, hk, rfl, hG⟩ := hrel
    by_cases hlt : k < s.size
    · have hx := bs_drop s k hlt
      have hkb := kdB (s[k]'hlt)
      by_cases c1 : isB (s[k]'hlt) = true
      · have hn : Hid (k + 1 + sk ((bs s).drop (k + 1)) = G) := by
          have := hG.out
          rw [hx, sk_blank c1] at this
          exact (show k + 1 + _ = G by omega)
        rw [c1] at hkb
        clear hx
        go_wp2_with (go_at_call 22; refine (kind_any _ _).mono ?_; rintro e w' ⟨rfl, rfl⟩)
        go_round
        case rel => exact ⟨k + 1, by omega, by go_num, hn⟩
        case measure => simp [intOf]; omega
      · have c1' : isB (s[k]'hlt) = false := by simpa using c1
        rw [c1'] at hkb
        clear c1
        by_cases h2 : k + 2 ≤ s.size
        · have h2I : ¬ ((s.size : Int) < (k : Int) + 2) := by omega
          have hq := eqT (s.extract k (k + 2)) [47, 47]
          rw [two_is h2] at hq
          have hx2 := bs_drop s (k + 1) (by omega)
          by_cases c2 : (s[k]'hlt).toNat = 47 ∧ (s[k + 1]'(by omega)).toNat = 47
          · rw [decide_eq_true ((slash _ _).2 c2)] at hq
            obtain ⟨M, hM0, hM1, hM2, hn, hL⟩ : ∃ M : Nat, k < M ∧ M ≤ s.size ∧ Hid (M + ln ((bs s).drop M) = M) ∧ Hid (M + sk ((bs s).drop M) = G) ∧ Hid (k + ln ((bs s).drop k) = M) := by
              have h0 := hG.out
              have hll := ln_le ((bs s).drop k)
              rw [List.length_drop, bs_length] at hll
              rw [hx, hx2] at h0
              rw [sk_remark c2.1 c2.2, ← hx2, ← hx, List.drop_drop] at h0
              refine ⟨k + ln ((bs s).drop k), ?_, by omega, ?_, (show k + _ + _ = G by omega), rfl⟩
              · rw [hx, ln_cons (by omega)]; omega
              · show _ + _ = _
                rw [← List.drop_drop]
                generalize (bs s).drop k = u
                have : ∀ u : List UInt8, ln (u.drop (ln u)) = 0 := by
                  intro u
                  induction u with
                  | nil => rfl
                  | cons c r ih =>
                    by_cases h : c.toNat = 10
                    · rw [ln_stop h, List.drop_zero, ln_stop h]
                    · rw [ln_cons h, List.drop_succ_cons]; exact ih
                rw [this]; rfl
            clear hx hx2 c2
            go_wp2_with (go_at_call 22; refine (kind_any _ _).mono ?_; rintro e w' ⟨rfl, rfl⟩)
            go_loop [1] (fun i => ∃ j : Nat, j ≤ M ∧ i = .int .i64 j ∧ Hid (j + ln ((bs s).drop j) = M)) (fun i => s.size - (intOf i).toNat)
            case atStart => exact ⟨k, by omega, rfl, hL⟩
            case round =>
              obtain ⟨j, hj, rfl, hJ⟩ := hrel
              by_cases hlt2 : j < s.size
              · have hx := bs_drop s j hlt2
                by_cases c3 : (s[j]'hlt2).toNat = 10
                · have he : j = M := by
                    have := hJ.out
                    rw [hx, ln_stop c3] at this
                    exact this
                  have hb := beq10 _ true (decide_eq_true c3)
                  clear c3 hx
                  subst he
                  go_wp2
                  go_round
                  case rel => exact ⟨j, hM1, rfl, hn⟩
                  case measure => simp [intOf]; omega
                · have hJ2 : Hid (j + 1 + ln ((bs s).drop (j + 1)) = M) := by
                    have := hJ.out
                    rw [hx, ln_cons c3] at this
                    exact (show j + 1 + _ = M by omega)
                  have hj2 : j + 1 ≤ M := by have := hJ2.out; omega
                  have hb := beq10 _ false (decide_eq_false c3)
                  clear c3 hx
                  go_wp2
                  go_round
                  case rel => exact ⟨j + 1, hj2, by go_num, hJ2⟩
                  case measure => simp [intOf]; omega
              · have he : j = M := by omega
                subst he
                go_wp2
                go_round
                case rel => exact ⟨j, hM1, rfl, hn⟩
                case measure => simp [intOf]; omega
          · rw [decide_eq_false (fun k => c2 ((slash _ _).1 k))] at hq
            have hn : Hid (k = G) := by
              have := hG.out
              rw [hx, sk_stop c1' (by rw [hx2]; simpa using c2)] at this
              exact this
            clear hx hx2 c2
            go_wp2_with (go_at_call 22; refine (kind_any _ _).mono ?_; rintro e w' ⟨rfl, rfl⟩)
            go_ret
            exact ⟨by rw [← hn.out]; rfl, rfl⟩
        · have h2I : ((s.size : Int) < (k : Int) + 2) := by omega
          have hn : Hid (k = G) := by
            have := hG.out
            rw [hx, sk_stop c1' (by rw [drop_all s (k + 1) (by omega)]; simp)] at this
            exact this
          clear hx
          go_wp2_with (go_at_call 22; refine (kind_any _ _).mono ?_; rintro e w' ⟨rfl, rfl⟩)
          go_ret
          exact ⟨by rw [← hn.out]; rfl, rfl⟩
    · have hn : Hid (k = G) := by
        have := hG.out
        rw [drop_all s k (by omega)] at this
        exact this
      go_wp2
      go_ret
      exact ⟨by rw [← hn.out]; rfl, rfl⟩
end Lex
end Go.Proofs.Ytdlkjafdnaadgaa
