/- Spans, faults, what is passed over, signs: functions of lex. No statement of the seat is proved here. -/
import Derived.Test.YtdlkjafdnaadgaaLexAJJoins
namespace Go.Proofs.Ytdlkjafdnaadgaa
open Go.RowKit
set_option linter.unusedVariables false
set_option linter.unusedSimpArgs false
namespace Lex

theorem spW_cons {c : UInt8} {r : List UInt8} (h : isLD c = true) : spW (c :: r) = spW r + 1 := by simp [spW, h]
theorem spW_stop {c : UInt8} {r : List UInt8} (h : isLD c = false) : spW (c :: r) = 0 := by simp [spW, h]
theorem spN_cons {c : UInt8} {r : List UInt8} (h : isD c = true) : spN (c :: r) = spN r + 1 := by simp [spN, h]
theorem spN_stop {c : UInt8} {r : List UInt8} (h : isD c = false) : spN (c :: r) = 0 := by simp [spN, h]
theorem drop_all (s : ByteArray) (k : Nat) (h : s.size ≤ k) : (bs s).drop k = [] := List.drop_eq_nil_of_le (by rw [bs_length]; exact h)

set_option maxHeartbeats 1000000 in
theorem wordEnd_any (s : ByteArray) (p : Nat) (w : World) (hp : p ≤ s.size) (hs : s.size ≤ 9223372036854775807) :
    Calls Try.prog 28 #[.string s, .int .i64 (p : Int)] w fun e w' => e = .returned (.int .i64 ((p + spW ((bs s).drop p) : Nat) : Int)) ∧ w' = w := by
  obtain ⟨G, HG⟩ : ∃ G : Nat, Hid (p + spW ((bs s).drop p) = G) := ⟨_, rfl⟩
  have HG' := HG.out
  rw [HG']
  clear HG'
  go_enter Try.func28, Try.ntmps28
  go_wp2
  go_loop [1] (fun i => ∃ k : Nat, k ≤ s.size ∧ i = .int .i64 k ∧ Hid (k + spW ((bs s).drop k) = G)) (fun i => s.size - (intOf i).toNat)
  case atStart => exact ⟨p, hp, rfl, HG⟩
  case round =>
    obtain ⟨k, hk, rfl, hG⟩ := hrel
    by_cases hlt : k < s.size
    · have hx := bs_drop s k hlt
      by_cases c1 : isL (s[k]'hlt) = true
      · have hn : Hid (k + 1 + spW ((bs s).drop (k + 1)) = G) := by
          have := hG.out
          rw [hx, spW_cons (by simp [isLD, c1])] at this
          exact (show k + 1 + _ = G by omega)
        clear hx
        go_wp2_with (first | (go_at_call 27; refine (isLetter_any _ _).mono ?_; rintro e w' ⟨rfl, rfl⟩) | (go_at_call 37; refine (isDigit_any _ _).mono ?_; rintro e w' ⟨rfl, rfl⟩))
        go_round
        case rel => exact ⟨k + 1, by omega, by go_num, hn⟩
        case measure => simp [intOf]; omega
      · by_cases c2 : isD (s[k]'hlt) = true
        · have hn : Hid (k + 1 + spW ((bs s).drop (k + 1)) = G) := by
            have := hG.out
            rw [hx, spW_cons (by simp [isLD, c2])] at this
            exact (show k + 1 + _ = G by omega)
          clear hx
          have c1' : isL (s[k]'hlt) = false := by simpa using c1
          clear c1
          go_wp2_with (first | (go_at_call 27; refine (isLetter_any _ _).mono ?_; rintro e w' ⟨rfl, rfl⟩) | (go_at_call 37; refine (isDigit_any _ _).mono ?_; rintro e w' ⟨rfl, rfl⟩))
          go_round
          case rel => exact ⟨k + 1, by omega, by go_num, hn⟩
          case measure => simp [intOf]; omega
        · have hn : Hid (k = G) := by
            have := hG.out
            rw [hx, spW_stop (by simp [isLD, c1, c2])] at this
            exact this
          clear hx
          have c1' : isL (s[k]'hlt) = false := by simpa using c1
          have c2' : isD (s[k]'hlt) = false := by simpa using c2
          clear c1 c2
          go_wp2_with (first | (go_at_call 27; refine (isLetter_any _ _).mono ?_; rintro e w' ⟨rfl, rfl⟩) | (go_at_call 37; refine (isDigit_any _ _).mono ?_; rintro e w' ⟨rfl, rfl⟩))
          go_ret
          exact ⟨by rw [← hn.out]; rfl, rfl⟩
    · have hn : Hid (k = G) := by
        have := hG.out
        rw [drop_all s k (by omega)] at this
        exact this
      go_wp2
      go_ret
      exact ⟨by rw [← hn.out]; rfl, rfl⟩

set_option maxHeartbeats 1000000 in
theorem numberEnd_any (s : ByteArray) (p : Nat) (w : World) (hp : p ≤ s.size) (hs : s.size ≤ 9223372036854775807) :
    Calls Try.prog 38 #[.string s, .int .i64 (p : Int)] w fun e w' => e = .returned (.int .i64 ((p + spN ((bs s).drop p) : Nat) : Int)) ∧ w' = w := by
  obtain ⟨G, HG⟩ : ∃ G : Nat, Hid (p + spN ((bs s).drop p) = G) := ⟨_, rfl⟩
  have HG' := HG.out
  rw [HG']
  clear HG'
  go_enter Try.func38, Try.ntmps38
  go_wp2
  go_loop [1] (fun i => ∃ k : Nat, k ≤ s.size ∧ i = .int .i64 k ∧ Hid (k + spN ((bs s).drop k) = G)) (fun i => s.size - (intOf i).toNat)
  case atStart => exact ⟨p, hp, rfl, HG⟩
  case round =>
    obtain ⟨k, hk, rfl, hG⟩ := hrel
    by_cases hlt : k < s.size
    · have hx := bs_drop s k hlt
      by_cases c2 : isD (s[k]'hlt) = true
      · have hn : Hid (k + 1 + spN ((bs s).drop (k + 1)) = G) := by
          have := hG.out
          rw [hx, spN_cons c2] at this
          exact (show k + 1 + _ = G by omega)
        clear hx
        go_wp2_with (go_at_call 37; refine (isDigit_any _ _).mono ?_; rintro e w' ⟨rfl, rfl⟩)
        go_round
        case rel => exact ⟨k + 1, by omega, by go_num, hn⟩
        case measure => simp [intOf]; omega
      · have c2' : isD (s[k]'hlt) = false := by simpa using c2
        have hn : Hid (k = G) := by
          have := hG.out
          rw [hx, spN_stop c2'] at this
          exact this
        clear hx c2
        go_wp2_with (go_at_call 37; refine (isDigit_any _ _).mono ?_; rintro e w' ⟨rfl, rfl⟩)
        go_ret
        exact ⟨by rw [← hn.out]; rfl, rfl⟩
    · have hn : Hid (k = G) := by
        have := hG.out
        rw [drop_all s k (by omega)] at this
        exact this
      go_wp2
      go_ret
      exact ⟨by rw [← hn.out]; rfl, rfl⟩

/-- A fault, as a value. -/
def FV (c a : Nat) : Value := .agg #[.int .i64 (c : Int), .int .i64 (a : Int)]
theorem wordFault_any (p q : Nat) (w : World) (hp : p ≤ q) (hq : q ≤ 9223372036854775807) :
    Calls Try.prog 36 #[.int .i64 (p : Int), .int .i64 (q : Int)] w fun e w' => e = .returned (if 40 < q - p then FV 2 p else FV 0 0) ∧ Below w.heap.size w w' := by
  obtain ⟨n, rfl⟩ : ∃ n, q = p + n := ⟨q - p, by omega⟩
  rw [show p + n - p = n by omega]
  have e1 : ((p + n : Nat) : Int) - (p : Int) = (n : Int) := by omega
  by_cases h : 40 < n
  · rw [if_pos h]
    go_enter Try.func36, Try.ntmps36
    go_wp2
    refine bodyPost_ret (v := FV 2 p) (by simp [results, Try.results36, go_sem, FV]) rfl ?_
    refine ⟨rfl, ?_⟩
    go_grown
  · rw [if_neg h]
    go_enter Try.func36, Try.ntmps36
    go_wp2
    refine bodyPost_ret (v := FV 0 0) (by simp [results, Try.results36, go_sem, FV]) rfl ?_
    refine ⟨rfl, ?_⟩
    go_grown
end Lex
end Go.Proofs.Ytdlkjafdnaadgaa
