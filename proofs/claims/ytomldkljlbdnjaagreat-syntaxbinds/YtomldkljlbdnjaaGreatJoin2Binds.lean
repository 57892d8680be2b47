/- Joined: LexA, LexB, LexC, LexD: words and contracts; no statement of the seat is proved here. -/
import Derived.WalkKit
import Derived.WalkSpells
import Derived.WalkLawsBesides
import Derived.Handy
import Derived.Test.YtomldkljlbdnjaaGreatProg
import Derived.Test.YtomldkljlbdnjaaGreatLexMJBinds
import Derived.Test.YtomldkljlbdnjaaGreatShelfLJBinds
/- Small functions of lex and of the document's answer: bytes' kinds. No statement of the seat is proved here. -/
namespace Go.Proofs.YtomldkljlbdnjaaGreat
open Go.RowKit
set_option linter.unusedVariables false
set_option linter.unusedSimpArgs false
set_option linter.unnecessarySimpa false
namespace Lex

set_option maxHeartbeats 2000000 in
theorem isLetter_any (c : UInt8) (w : World) :
    Calls Tryz.prog 52 #[.int .u8 (c.toNat : Int)] w fun e w' => e = .returned (.bool (isL c)) ∧ w' = w := by
  unfold isL
  have hc : c.toNat < 256 := c.toNat_lt
  generalize c.toNat = n at hc ⊢
  have hf95 : ((n : Int) == 95) = decide (n = 95) := by
    by_cases h : n = 95
    · subst h; rfl
    · rw [decide_eq_false h, beq_eq_false_iff_ne]; omega
  have hp : (0 ≤ n ∧ n ≤ 64) ∨ (65 ≤ n ∧ n ≤ 90) ∨ (91 ≤ n ∧ n ≤ 94) ∨ (95 ≤ n ∧ n ≤ 95) ∨ (96 ≤ n ∧ n ≤ 96) ∨ (97 ≤ n ∧ n ≤ 122) ∨ (123 ≤ n ∧ n ≤ 255) := by omega
  rcases hp with ⟨g1, g2⟩ | ⟨g1, g2⟩ | ⟨g1, g2⟩ | ⟨g1, g2⟩ | ⟨g1, g2⟩ | ⟨g1, g2⟩ | ⟨g1, g2⟩
  · -- 0 to 64
    rw [decide_eq_false (show ¬ n = 95 by omega)] at hf95
    have hge97 : ¬ 97 ≤ n := by omega
    have hge65 : ¬ 65 ≤ n := by omega
    have hle122 : n ≤ 122 := by omega
    have hle90 : n ≤ 90 := by omega
    have hr : ((97 ≤ n && n ≤ 122) || (65 ≤ n && n ≤ 90) || n == 95) = false := by simp <;> omega
    rw [hr]
    clear hr
    go_enter Tryz.func52, Tryz.ntmps52
    go_wp2
    go_ret
    refine ⟨?_, rfl⟩
    first | rfl | (simp <;> omega)
  · -- 65 to 90
    rw [decide_eq_false (show ¬ n = 95 by omega)] at hf95
    have hge97 : ¬ 97 ≤ n := by omega
    have hge65 : 65 ≤ n := by omega
    have hle122 : n ≤ 122 := by omega
    have hle90 : n ≤ 90 := by omega
    have hr : ((97 ≤ n && n ≤ 122) || (65 ≤ n && n ≤ 90) || n == 95) = true := by simp <;> omega
    rw [hr]
    clear hr
    go_enter Tryz.func52, Tryz.ntmps52
    go_wp2
    go_ret
    refine ⟨?_, rfl⟩
    first | rfl | (simp <;> omega)
  · -- 91 to 94
    rw [decide_eq_false (show ¬ n = 95 by omega)] at hf95
    have hge97 : ¬ 97 ≤ n := by omega
    have hge65 : 65 ≤ n := by omega
    have hle122 : n ≤ 122 := by omega
    have hle90 : ¬ n ≤ 90 := by omega
    have hr : ((97 ≤ n && n ≤ 122) || (65 ≤ n && n ≤ 90) || n == 95) = false := by simp <;> omega
    rw [hr]
    clear hr
    go_enter Tryz.func52, Tryz.ntmps52
    go_wp2
    go_ret
    refine ⟨?_, rfl⟩
    first | rfl | (simp <;> omega)
  · -- 95 to 95
    rw [decide_eq_true (show n = 95 by omega)] at hf95
    have hge97 : ¬ 97 ≤ n := by omega
    have hge65 : 65 ≤ n := by omega
    have hle122 : n ≤ 122 := by omega
    have hle90 : ¬ n ≤ 90 := by omega
    have hr : ((97 ≤ n && n ≤ 122) || (65 ≤ n && n ≤ 90) || n == 95) = true := by simp <;> omega
    rw [hr]
    clear hr
    go_enter Tryz.func52, Tryz.ntmps52
    go_wp2
    go_ret
    refine ⟨?_, rfl⟩
    first | rfl | (simp <;> omega)
  · -- 96 to 96
    rw [decide_eq_false (show ¬ n = 95 by omega)] at hf95
    have hge97 : ¬ 97 ≤ n := by omega
    have hge65 : 65 ≤ n := by omega
    have hle122 : n ≤ 122 := by omega
    have hle90 : ¬ n ≤ 90 := by omega
    have hr : ((97 ≤ n && n ≤ 122) || (65 ≤ n && n ≤ 90) || n == 95) = false := by simp <;> omega
    rw [hr]
    clear hr
    go_enter Tryz.func52, Tryz.ntmps52
    go_wp2
    go_ret
    refine ⟨?_, rfl⟩
    first | rfl | (simp <;> omega)
  · -- 97 to 122
    rw [decide_eq_false (show ¬ n = 95 by omega)] at hf95
    have hge97 : 97 ≤ n := by omega
    have hge65 : 65 ≤ n := by omega
    have hle122 : n ≤ 122 := by omega
    have hle90 : ¬ n ≤ 90 := by omega
    have hr : ((97 ≤ n && n ≤ 122) || (65 ≤ n && n ≤ 90) || n == 95) = true := by simp <;> omega
    rw [hr]
    clear hr
    go_enter Tryz.func52, Tryz.ntmps52
    go_wp2
    go_ret
    refine ⟨?_, rfl⟩
    first | rfl | (simp <;> omega)
  · -- 123 to 255
    rw [decide_eq_false (show ¬ n = 95 by omega)] at hf95
    have hge97 : 97 ≤ n := by omega
    have hge65 : 65 ≤ n := by omega
    have hle122 : ¬ n ≤ 122 := by omega
    have hle90 : ¬ n ≤ 90 := by omega
    have hr : ((97 ≤ n && n ≤ 122) || (65 ≤ n && n ≤ 90) || n == 95) = false := by simp <;> omega
    rw [hr]
    clear hr
    go_enter Tryz.func52, Tryz.ntmps52
    go_wp2
    go_ret
    refine ⟨?_, rfl⟩
    first | rfl | (simp <;> omega)
set_option maxHeartbeats 2000000 in
theorem isDigit_any (c : UInt8) (w : World) :
    Calls Tryz.prog 86 #[.int .u8 (c.toNat : Int)] w fun e w' => e = .returned (.bool (isD c)) ∧ w' = w := by
  unfold isD
  have hc : c.toNat < 256 := c.toNat_lt
  generalize c.toNat = n at hc ⊢
  have hp : (0 ≤ n ∧ n ≤ 47) ∨ (48 ≤ n ∧ n ≤ 57) ∨ (58 ≤ n ∧ n ≤ 255) := by omega
  rcases hp with ⟨g1, g2⟩ | ⟨g1, g2⟩ | ⟨g1, g2⟩
  · -- 0 to 47
    have hge48 : ¬ 48 ≤ n := by omega
    have hle57 : n ≤ 57 := by omega
    have hr : (48 ≤ n && n ≤ 57) = false := by simp <;> omega
    rw [hr]
    clear hr
    go_enter Tryz.func86, Tryz.ntmps86
    go_wp2
    go_ret
    refine ⟨?_, rfl⟩
    first | rfl | (simp <;> omega)
  · -- 48 to 57
    have hge48 : 48 ≤ n := by omega
    have hle57 : n ≤ 57 := by omega
    have hr : (48 ≤ n && n ≤ 57) = true := by simp <;> omega
    rw [hr]
    clear hr
    go_enter Tryz.func86, Tryz.ntmps86
    go_wp2
    go_ret
    refine ⟨?_, rfl⟩
    first | rfl | (simp <;> omega)
  · -- 58 to 255
    have hge48 : 48 ≤ n := by omega
    have hle57 : ¬ n ≤ 57 := by omega
    have hr : (48 ≤ n && n ≤ 57) = false := by simp <;> omega
    rw [hr]
    clear hr
    go_enter Tryz.func86, Tryz.ntmps86
    go_wp2
    go_ret
    refine ⟨?_, rfl⟩
    first | rfl | (simp <;> omega)
set_option maxHeartbeats 2000000 in
theorem isBlank_any (c : UInt8) (w : World) :
    Calls Tryz.prog 82 #[.int .u8 (c.toNat : Int)] w fun e w' => e = .returned (.bool (isB c)) ∧ w' = w := by
  unfold isB
  have hc : c.toNat < 256 := c.toNat_lt
  generalize c.toNat = n at hc ⊢
  have hf32 : ((n : Int) == 32) = decide (n = 32) := by
    by_cases h : n = 32
    · subst h; rfl
    · rw [decide_eq_false h, beq_eq_false_iff_ne]; omega
  have hf9 : ((n : Int) == 9) = decide (n = 9) := by
    by_cases h : n = 9
    · subst h; rfl
    · rw [decide_eq_false h, beq_eq_false_iff_ne]; omega
  have hf10 : ((n : Int) == 10) = decide (n = 10) := by
    by_cases h : n = 10
    · subst h; rfl
    · rw [decide_eq_false h, beq_eq_false_iff_ne]; omega
  have hf13 : ((n : Int) == 13) = decide (n = 13) := by
    by_cases h : n = 13
    · subst h; rfl
    · rw [decide_eq_false h, beq_eq_false_iff_ne]; omega
  have hp : (0 ≤ n ∧ n ≤ 8) ∨ (9 ≤ n ∧ n ≤ 9) ∨ (10 ≤ n ∧ n ≤ 10) ∨ (11 ≤ n ∧ n ≤ 12) ∨ (13 ≤ n ∧ n ≤ 13) ∨ (14 ≤ n ∧ n ≤ 31) ∨ (32 ≤ n ∧ n ≤ 32) ∨ (33 ≤ n ∧ n ≤ 255) := by omega
  rcases hp with ⟨g1, g2⟩ | ⟨g1, g2⟩ | ⟨g1, g2⟩ | ⟨g1, g2⟩ | ⟨g1, g2⟩ | ⟨g1, g2⟩ | ⟨g1, g2⟩ | ⟨g1, g2⟩
  · -- 0 to 8
    rw [decide_eq_false (show ¬ n = 32 by omega)] at hf32
    rw [decide_eq_false (show ¬ n = 9 by omega)] at hf9
    rw [decide_eq_false (show ¬ n = 10 by omega)] at hf10
    rw [decide_eq_false (show ¬ n = 13 by omega)] at hf13
    have hr : (n == 32 || n == 9 || n == 10 || n == 13) = false := by simp <;> omega
    rw [hr]
    clear hr
    go_enter Tryz.func82, Tryz.ntmps82
    go_wp2
    go_ret
    refine ⟨?_, rfl⟩
    first | rfl | (simp <;> omega)
  · -- 9 to 9
    rw [decide_eq_false (show ¬ n = 32 by omega)] at hf32
    rw [decide_eq_true (show n = 9 by omega)] at hf9
    rw [decide_eq_false (show ¬ n = 10 by omega)] at hf10
    rw [decide_eq_false (show ¬ n = 13 by omega)] at hf13
    have hr : (n == 32 || n == 9 || n == 10 || n == 13) = true := by simp <;> omega
    rw [hr]
    clear hr
    go_enter Tryz.func82, Tryz.ntmps82
    go_wp2
    go_ret
    refine ⟨?_, rfl⟩
    first | rfl | (simp <;> omega)
  · -- 10 to 10
    rw [decide_eq_false (show ¬ n = 32 by omega)] at hf32
    rw [decide_eq_false (show ¬ n = 9 by omega)] at hf9
    rw [decide_eq_true (show n = 10 by omega)] at hf10
    rw [decide_eq_false (show ¬ n = 13 by omega)] at hf13
    have hr : (n == 32 || n == 9 || n == 10 || n == 13) = true := by simp <;> omega
    rw [hr]
    clear hr
    go_enter Tryz.func82, Tryz.ntmps82
    go_wp2
    go_ret
    refine ⟨?_, rfl⟩
    first | rfl | (simp <;> omega)
  · -- 11 to 12
    rw [decide_eq_false (show ¬ n = 32 by omega)] at hf32
    rw [decide_eq_false (show ¬ n = 9 by omega)] at hf9
    rw [decide_eq_false (show ¬ n = 10 by omega)] at hf10
    rw [decide_eq_false (show ¬ n = 13 by omega)] at hf13
    have hr : (n == 32 || n == 9 || n == 10 || n == 13) = false := by simp <;> omega
    rw [hr]
    clear hr
    go_enter Tryz.func82, Tryz.ntmps82
    go_wp2
    go_ret
    refine ⟨?_, rfl⟩
    first | rfl | (simp <;> omega)
  · -- 13 to 13
    rw [decide_eq_false (show ¬ n = 32 by omega)] at hf32
    rw [decide_eq_false (show ¬ n = 9 by omega)] at hf9
    rw [decide_eq_false (show ¬ n = 10 by omega)] at hf10
    rw [decide_eq_true (show n = 13 by omega)] at hf13
    have hr : (n == 32 || n == 9 || n == 10 || n == 13) = true := by simp <;> omega
    rw [hr]
    clear hr
    go_enter Tryz.func82, Tryz.ntmps82
    go_wp2
    go_ret
    refine ⟨?_, rfl⟩
    first | rfl | (simp <;> omega)
  · -- 14 to 31
    rw [decide_eq_false (show ¬ n = 32 by omega)] at hf32
    rw [decide_eq_false (show ¬ n = 9 by omega)] at hf9
    rw [decide_eq_false (show ¬ n = 10 by omega)] at hf10
    rw [decide_eq_false (show ¬ n = 13 by omega)] at hf13
    have hr : (n == 32 || n == 9 || n == 10 || n == 13) = false := by simp <;> omega
    rw [hr]
    clear hr
    go_enter Tryz.func82, Tryz.ntmps82
    go_wp2
    go_ret
    refine ⟨?_, rfl⟩
    first | rfl | (simp <;> omega)
  · -- 32 to 32
    rw [decide_eq_true (show n = 32 by omega)] at hf32
    rw [decide_eq_false (show ¬ n = 9 by omega)] at hf9
    rw [decide_eq_false (show ¬ n = 10 by omega)] at hf10
    rw [decide_eq_false (show ¬ n = 13 by omega)] at hf13
    have hr : (n == 32 || n == 9 || n == 10 || n == 13) = true := by simp <;> omega
    rw [hr]
    clear hr
    go_enter Tryz.func82, Tryz.ntmps82
    go_wp2
    go_ret
    refine ⟨?_, rfl⟩
    first | rfl | (simp <;> omega)
  · -- 33 to 255
    rw [decide_eq_false (show ¬ n = 32 by omega)] at hf32
    rw [decide_eq_false (show ¬ n = 9 by omega)] at hf9
    rw [decide_eq_false (show ¬ n = 10 by omega)] at hf10
    rw [decide_eq_false (show ¬ n = 13 by omega)] at hf13
    have hr : (n == 32 || n == 9 || n == 10 || n == 13) = false := by simp <;> omega
    rw [hr]
    clear hr
    go_enter Tryz.func82, Tryz.ntmps82
    go_wp2
    go_ret
    refine ⟨?_, rfl⟩
    first | rfl | (simp <;> omega)
/-- The kind of a byte, as the document has it. -/
def kd (c : UInt8) : Int := if isL c then 1 else if isD c then 2 else if isB c then 3 else 0
end Lex
end Go.Proofs.YtomldkljlbdnjaaGreat
/- Spans, faults, what is passed over, signs: functions of lex. No statement of the seat is proved here. -/
namespace Go.Proofs.YtomldkljlbdnjaaGreat
open Go.RowKit
set_option linter.unusedVariables false
set_option linter.unusedSimpArgs false
namespace Lex

theorem spW_cons {c : UInt8} {r : List UInt8} (h : isLD c = true) : spW (c :: r) = spW r + 1 := by simp [spW, h]
theorem spW_stop {c : UInt8} {r : List UInt8} (h : isLD c = false) : spW (c :: r) = 0 := by simp [spW, h]
theorem spN_cons {c : UInt8} {r : List UInt8} (h : isD c = true) : spN (c :: r) = spN r + 1 := by simp [spN, h]
theorem spN_stop {c : UInt8} {r : List UInt8} (h : isD c = false) : spN (c :: r) = 0 := by simp [spN, h]
theorem drop_all (s : ByteArray) (k : Nat) (h : s.size ≤ k) : (bs s).drop k = [] := List.drop_eq_nil_of_le (by rw [bs_length]; exact h)

set_option maxHeartbeats 1000000 in
theorem wordEnd_any (s : ByteArray) (p : Nat) (w : World) (hp : p ≤ s.size) (hs : s.size ≤ 9223372036854775807) :
    Calls Tryz.prog 53 #[.string s, .int .i64 (p : Int)] w fun e w' => e = .returned (.int .i64 ((p + spW ((bs s).drop p) : Nat) : Int)) ∧ w' = w := by
  obtain ⟨G, HG⟩ : ∃ G : Nat, Hid (p + spW ((bs s).drop p) = G) := ⟨_, rfl⟩
  have HG' := HG.out
  rw [HG']
  clear HG'
  go_enter Tryz.func53, Tryz.ntmps53
  go_wp2
  go_loop [1] (fun i => ∃ k : Nat, k ≤ s.size ∧ i = .int .i64 k ∧ Hid (k + spW ((bs s).drop k) = G)) (fun i => s.size - (intOf i).toNat)
  case atStart => exact ⟨p, hp, rfl, HG⟩
  case round =>
    obtain ⟨k, hk, rfl, hG⟩ := hrel
    by_cases hlt : k < s.size
    · have hx := bs_drop s k hlt
      by_cases c1 : isL (s[k]'hlt) = true
      · have hn : Hid (k + 1 + spW ((bs s).drop (k + 1)) = G) := by
          have := hG.out
          rw [hx, spW_cons (by simp [isLD, c1])] at this
          exact (show k + 1 + _ = G by omega)
        clear hx
        go_wp2_with (first | (go_at_call 52; refine (isLetter_any _ _).mono ?_; rintro e w' ⟨rfl, rfl⟩) | (go_at_call 86; refine (isDigit_any _ _).mono ?_; rintro e w' ⟨rfl, rfl⟩))
        go_round
        case rel => exact ⟨k + 1, by omega, by go_num, hn⟩
        case measure => simp [intOf]; omega
      · by_cases c2 : isD (s[k]'hlt) = true
        · have hn : Hid (k + 1 + spW ((bs s).drop (k + 1)) = G) := by
            have := hG.out
            rw [hx, spW_cons (by simp [isLD, c2])] at this
            exact (show k + 1 + _ = G by omega)
          clear hx
          have c1' : isL (s[k]'hlt) = false := by simpa using c1
          clear c1
          go_wp2_with (first | (go_at_call 52; refine (isLetter_any _ _).mono ?_; rintro e w' ⟨rfl, rfl⟩) | (go_at_call 86; refine (isDigit_any _ _).mono ?_; rintro e w' ⟨rfl, rfl⟩))
          go_round
          case rel => exact ⟨k + 1, by omega, by go_num, hn⟩
          case measure => simp [intOf]; omega
        · have hn : Hid (k = G) := by
            have := hG.out
            rw [hx, spW_stop (by simp [isLD, c1, c2])] at this
            exact this
          clear hx
          have c1' : isL (s[k]'hlt) = false := by simpa using c1
          have c2' : isD (s[k]'hlt) = false := by simpa using c2
          clear c1 c2
          go_wp2_with (first | (go_at_call 52; refine (isLetter_any _ _).mono ?_; rintro e w' ⟨rfl, rfl⟩) | (go_at_call 86; refine (isDigit_any _ _).mono ?_; rintro e w' ⟨rfl, rfl⟩))
          go_ret
          exact ⟨by rw [← hn.out]; rfl, rfl⟩
    · have hn : Hid (k = G) := by
        have := hG.out
        rw [drop_all s k (by omega)] at this
        exact this
      go_wp2
      go_ret
      exact ⟨by rw [← hn.out]; rfl, rfl⟩

set_option maxHeartbeats 1000000 in
theorem numberEnd_any (s : ByteArray) (p : Nat) (w : World) (hp : p ≤ s.size) (hs : s.size ≤ 9223372036854775807) :
    Calls Tryz.prog 87 #[.string s, .int .i64 (p : Int)] w fun e w' => e = .returned (.int .i64 ((p + spN ((bs s).drop p) : Nat) : Int)) ∧ w' = w := by
  obtain ⟨G, HG⟩ : ∃ G : Nat, Hid (p + spN ((bs s).drop p) = G) := ⟨_, rfl⟩
  have HG' := HG.out
  rw [HG']
  clear HG'
  go_enter Tryz.func87, Tryz.ntmps87
  go_wp2
  go_loop [1] (fun i => ∃ k : Nat, k ≤ s.size ∧ i = .int .i64 k ∧ Hid (k + spN ((bs s).drop k) = G)) (fun i => s.size - (intOf i).toNat)
  case atStart => exact ⟨p, hp, rfl, HG⟩
  case round =>
    obtain ⟨k, hk, rfl, hG⟩ := hrel
    by_cases hlt : k < s.size
    · have hx := bs_drop s k hlt
      by_cases c2 : isD (s[k]'hlt) = true
      · have hn : Hid (k + 1 + spN ((bs s).drop (k + 1)) = G) := by
          have := hG.out
          rw [hx, spN_cons c2] at this
          exact (show k + 1 + _ = G by omega)
        clear hx
        go_wp2_with (go_at_call 86; refine (isDigit_any _ _).mono ?_; rintro e w' ⟨rfl, rfl⟩)
        go_round
        case rel => exact ⟨k + 1, by omega, by go_num, hn⟩
        case measure => simp [intOf]; omega
      · have c2' : isD (s[k]'hlt) = false := by simpa using c2
        have hn : Hid (k = G) := by
          have := hG.out
          rw [hx, spN_stop c2'] at this
          exact this
        clear hx c2
        go_wp2_with (go_at_call 86; refine (isDigit_any _ _).mono ?_; rintro e w' ⟨rfl, rfl⟩)
        go_ret
        exact ⟨by rw [← hn.out]; rfl, rfl⟩
    · have hn : Hid (k = G) := by
        have := hG.out
        rw [drop_all s k (by omega)] at this
        exact this
      go_wp2
      go_ret
      exact ⟨by rw [← hn.out]; rfl, rfl⟩

/-- A fault, as a value. -/
def FV (c a : Nat) : Value := .agg #[.int .i64 (c : Int), .int .i64 (a : Int)]
theorem wordFault_any (p q : Nat) (w : World) (hp : p ≤ q) (hq : q ≤ 9223372036854775807) :
    Calls Tryz.prog 85 #[.int .i64 (p : Int), .int .i64 (q : Int)] w fun e w' => e = .returned (if 40 < q - p then FV 2 p else FV 0 0) ∧ Below w.heap.size w w' := by
  obtain ⟨n, rfl⟩ : ∃ n, q = p + n := ⟨q - p, by omega⟩
  rw [show p + n - p = n by omega]
  have e1 : ((p + n : Nat) : Int) - (p : Int) = (n : Int) := by omega
  by_cases h : 40 < n
  · rw [if_pos h]
    go_enter Tryz.func85, Tryz.ntmps85
    go_wp2
    refine bodyPost_ret (v := FV 2 p) (by simp [results, Tryz.results85, go_sem, FV]) rfl ?_
    refine ⟨rfl, ?_⟩
    go_grown
  · rw [if_neg h]
    go_enter Tryz.func85, Tryz.ntmps85
    go_wp2
    refine bodyPost_ret (v := FV 0 0) (by simp [results, Tryz.results85, go_sem, FV]) rfl ?_
    refine ⟨rfl, ?_⟩
    go_grown
end Lex
end Go.Proofs.YtomldkljlbdnjaaGreat
/- Faults of numbers, lines, what is passed over, signs. No statement of the seat is proved here. -/
namespace Go.Proofs.YtomldkljlbdnjaaGreat
open Go.RowKit
set_option linter.unusedVariables false
set_option linter.unusedSimpArgs false
namespace Lex

theorem beq48 (n : Nat) (b : Bool) (h : decide (n = 48) = b) : ((n : Int) == 48) = b := by
  subst h
  by_cases h : n = 48
  · subst h; rfl
  · rw [decide_eq_false h, beq_eq_false_iff_ne]; omega
set_option maxHeartbeats 1000000 in
theorem numberFault_any (s : ByteArray) (p n : Nat) (w : World) (hp : p < s.size) (hq : p + n ≤ s.size) (hs : s.size ≤ 9223372036854775807) :
    Calls Tryz.prog 88 #[.string s, .int .i64 (p : Int), .int .i64 ((p + n : Nat) : Int)] w fun e w' =>
      e = .returned (if 300 < n then FV 2 p else if (s[p]'hp).toNat = 48 ∧ 1 < n then FV 10 p else if hdL ((bs s).drop (p + n)) = true then FV 100 (p + n) else FV 0 0) ∧ Below w.heap.size w w' := by
  have e1 : ((p + n : Nat) : Int) - (p : Int) = (n : Int) := by omega
  by_cases h1 : 300 < n
  · rw [if_pos h1]
    go_enter Tryz.func88, Tryz.ntmps88
    go_wp2
    refine bodyPost_ret (v := FV 2 p) (by simp [results, Tryz.results88, go_sem, FV]) rfl ?_
    refine ⟨rfl, ?_⟩
    go_grown
  · rw [if_neg h1]
    by_cases h2 : (s[p]'hp).toNat = 48
    · have hb := beq48 _ true (decide_eq_true h2)
      by_cases h3 : 1 < n
      · rw [if_pos ⟨h2, h3⟩]
        clear h2
        go_enter Tryz.func88, Tryz.ntmps88
        go_wp2
        refine bodyPost_ret (v := FV 10 p) (by simp [results, Tryz.results88, go_sem, FV]) rfl ?_
        refine ⟨rfl, ?_⟩
        go_grown
      · rw [if_neg (fun k => h3 k.2)]
        clear h2
        by_cases h4 : p + n < s.size
        · rw [bs_drop s _ h4]
          by_cases h5 : isL (s[p + n]'h4) = true
          · rw [if_pos (by simpa [hdL] using h5)]
            go_enter Tryz.func88, Tryz.ntmps88
            go_wp2_with (go_at_call 52; refine (isLetter_any _ _).mono ?_; rintro e w' ⟨rfl, rfl⟩)
            refine bodyPost_ret (v := FV 100 (p + n)) (by simp [results, Tryz.results88, go_sem, FV]) rfl ?_
            refine ⟨rfl, ?_⟩
            go_grown
          · have h5' : isL (s[p + n]'h4) = false := by simpa using h5
            rw [if_neg (by simpa [hdL] using h5)]
            clear h5
            go_enter Tryz.func88, Tryz.ntmps88
            go_wp2_with (go_at_call 52; refine (isLetter_any _ _).mono ?_; rintro e w' ⟨rfl, rfl⟩)
            refine bodyPost_ret (v := FV 0 0) (by simp [results, Tryz.results88, go_sem, FV]) rfl ?_
            refine ⟨rfl, ?_⟩
            go_grown
        · rw [drop_all s _ (by omega), if_neg (by simp [hdL])]
          go_enter Tryz.func88, Tryz.ntmps88
          go_wp2
          refine bodyPost_ret (v := FV 0 0) (by simp [results, Tryz.results88, go_sem, FV]) rfl ?_
          refine ⟨rfl, ?_⟩
          go_grown
    · have hb := beq48 _ false (decide_eq_false h2)
      rw [if_neg (fun k => h2 k.1)]
      clear h2
      by_cases h4 : p + n < s.size
      · rw [bs_drop s _ h4]
        by_cases h5 : isL (s[p + n]'h4) = true
        · rw [if_pos (by simpa [hdL] using h5)]
          go_enter Tryz.func88, Tryz.ntmps88
          go_wp2_with (go_at_call 52; refine (isLetter_any _ _).mono ?_; rintro e w' ⟨rfl, rfl⟩)
          refine bodyPost_ret (v := FV 100 (p + n)) (by simp [results, Tryz.results88, go_sem, FV]) rfl ?_
          refine ⟨rfl, ?_⟩
          go_grown
        · have h5' : isL (s[p + n]'h4) = false := by simpa using h5
          rw [if_neg (by simpa [hdL] using h5)]
          clear h5
          go_enter Tryz.func88, Tryz.ntmps88
          go_wp2_with (go_at_call 52; refine (isLetter_any _ _).mono ?_; rintro e w' ⟨rfl, rfl⟩)
          refine bodyPost_ret (v := FV 0 0) (by simp [results, Tryz.results88, go_sem, FV]) rfl ?_
          refine ⟨rfl, ?_⟩
          go_grown
      · rw [drop_all s _ (by omega), if_neg (by simp [hdL])]
        go_enter Tryz.func88, Tryz.ntmps88
        go_wp2
        refine bodyPost_ret (v := FV 0 0) (by simp [results, Tryz.results88, go_sem, FV]) rfl ?_
        refine ⟨rfl, ?_⟩
        go_grown

theorem index10 : ∀ l : List UInt8, Lib.indexByte l (10 : Int).toNat.toUInt8 = if ln l < l.length then (ln l : Int) else -1
  | [] => by simp [Lib.indexByte, ln]
  | c :: r => by
    have ih := index10 r
    have hl := ln_le r
    have e9 : (10 : Int).toNat.toUInt8 = 10 := by decide
    rw [e9] at ih ⊢
    by_cases h : c.toNat = 10
    · have : c = 10 := UInt8.toNat_inj.1 h
      subst this
      simp [Lib.indexByte, ln]
    · have : ¬ c = 10 := fun k => h (by rw [k]; rfl)
      have e2 : ln (c :: r) = ln r + 1 := by simp [ln, h]
      rw [e2]
      simp only [Lib.indexByte, List.length_cons, beq_iff_eq, this, if_false]
      rw [ih]
      by_cases h3 : ln r < r.length
      · have h4 : ln r + 1 < r.length + 1 := by omega
        simp only [h3, h4, if_true]
        split <;> omega
      · have h4 : ¬ ln r + 1 < r.length + 1 := by omega
        simp only [h3, h4, if_false]
        simp
set_option maxHeartbeats 1000000 in
theorem lineEnd_any (s : ByteArray) (p : Nat) (w : World) (hp : p ≤ s.size) (hs : s.size ≤ 9223372036854775807) :
    Calls Tryz.prog 84 #[.string s, .int .i64 (p : Int)] w fun e w' => e = .returned (.int .i64 ((p + ln ((bs s).drop p) : Nat) : Int)) ∧ w' = w := by
  have hx : bs (s.extract p s.size) = (bs s).drop p := by
    rw [bs_extract s p s.size hp, List.take_of_length_le]; rw [List.length_drop, bs_length]; omega
  have hi := index10 (bs (s.extract p s.size))
  have hl := ln_le ((bs s).drop p)
  rw [hx, List.length_drop, bs_length] at hi
  rw [List.length_drop, bs_length] at hl
  generalize ln ((bs s).drop p) = m at hi hl ⊢
  have hx' : (s.extract p s.size).data.toList = (bs s).drop p := hx
  by_cases h : m < s.size - p
  · rw [if_pos h] at hi
    go_enter Tryz.func84, Tryz.ntmps84
    go_wp2_with (go_at_call 129; refine (Tryz.strings_IndexByte _ _ _).mono ?_; rintro e w' ⟨rfl, rfl⟩; rw [hx', hi])
    go_ret
    exact ⟨by go_num, rfl⟩
  · rw [if_neg h] at hi
    obtain rfl : m = s.size - p := by omega
    rw [show p + (s.size - p) = s.size by omega]
    go_enter Tryz.func84, Tryz.ntmps84
    go_wp2_with (go_at_call 129; refine (Tryz.strings_IndexByte _ _ _).mono ?_; rintro e w' ⟨rfl, rfl⟩; rw [hx', hi])
    go_ret
    exact ⟨rfl, rfl⟩
end Lex
end Go.Proofs.YtomldkljlbdnjaaGreat
/- What is passed over, signs, one token. No statement of the seat is proved here. -/
namespace Go.Proofs.YtomldkljlbdnjaaGreat
open Go.RowKit
set_option linter.unusedVariables false
set_option linter.unusedSimpArgs false
namespace Lex

theorem prefix2 (c : UInt8) (r : List UInt8) : Lib.hasPrefix (c :: r) [47, 47] = decide (c.toNat = 47 ∧ (r.head?.map (·.toNat)) = some 47) := by
  have h47 : ∀ d : UInt8, (47 == d) = decide (d.toNat = 47) := fun d => by
    by_cases h : d.toNat = 47
    · obtain rfl : d = 47 := UInt8.toNat_inj.1 h
      rfl
    · rw [decide_eq_false h, beq_eq_false_iff_ne]; exact fun k => h (by rw [← k]; rfl)
  rcases r with _ | ⟨d, r⟩
  · simp [Lib.hasPrefix, List.isPrefixOf]
  · simp [Lib.hasPrefix, List.isPrefixOf, h47]
theorem ext_drop (s : ByteArray) (k : Nat) (h : k ≤ s.size) : (s.extract k s.size).data.toList = (bs s).drop k := by
  show bs (s.extract k s.size) = _
  rw [bs_extract s k s.size h, List.take_of_length_le]; rw [List.length_drop, bs_length]; omega

theorem remark_is (s : ByteArray) (k : Nat) (w : World) (b : Bool) (h : Lib.hasPrefix (s.extract k s.size).data.toList [47, 47] = b) :
    Calls Tryz.prog 83 #[.string (s.extract k s.size), .string ⟨#[47, 47]⟩] w fun e w' => e = .returned (.bool b) ∧ w' = w := by
  subst h; exact Tryz.strings_HasPrefix _ _ w

/-- Are two texts the same, as the machine asks it? -/
theorem eqT (s : ByteArray) (x : List UInt8) : (s.toList == x) = decide (bs s = x) := by
  rw [show s.toList = bs s by simp [ByteArray.toList_eq, bs]]
  by_cases h : bs s = x
  · rw [decide_eq_true h]; simp [h]
  · rw [decide_eq_false h]; simp [h]

set_option maxHeartbeats 1000000 in
theorem passOver_any (s : ByteArray) (p : Nat) (w : World) (hp : p ≤ s.size) (hs : s.size ≤ 9223372036854775807) :
    Calls Tryz.prog 44 #[.string s, .int .i64 (p : Int)] w fun e w' => e = .returned (.int .i64 ((p + sk ((bs s).drop p) : Nat) : Int)) ∧ w' = w := by
  obtain ⟨G, HG⟩ : ∃ G : Nat, Hid (p + sk ((bs s).drop p) = G) := ⟨_, rfl⟩
  have HG' := HG.out
  rw [HG']
  clear HG'
  go_enter Tryz.func44, Tryz.ntmps44
  go_wp2
  go_loop [1] (fun i => ∃ k : Nat, k ≤ s.size ∧ i = .int .i64 k ∧ Hid (k + sk ((bs s).drop k) = G)) (fun i => s.size - (intOf i).toNat)
  case atStart => exact ⟨p, hp, rfl, HG⟩
  case round =>
    obtain ⟨k, hk, rfl, hG⟩ := hrel
    by_cases hlt : k < s.size
    · have hx := bs_drop s k hlt
      have hd := ext_drop s k hk
      have hpre := prefix2 (s[k]'hlt) ((bs s).drop (k + 1))
      rw [← hx, ← hd] at hpre
      by_cases c1 : isB (s[k]'hlt) = true
      · have hn : Hid (k + 1 + sk ((bs s).drop (k + 1)) = G) := by
          have := hG.out
          rw [hx, sk_blank c1] at this
          exact (show k + 1 + _ = G by omega)
        clear hx hd hpre
        go_wp2_with (go_at_call 82; refine (isBlank_any _ _).mono ?_; rintro e w' ⟨rfl, rfl⟩)
        go_round
        case rel => exact ⟨k + 1, by omega, by go_num, hn⟩
        case measure => simp [intOf]; omega
      · have c1' : isB (s[k]'hlt) = false := by simpa using c1
        clear c1
        by_cases c2 : (s[k]'hlt).toNat = 47 ∧ (((bs s).drop (k + 1)).head?.map (·.toNat)) = some 47
        · rw [decide_eq_true c2] at hpre
          obtain ⟨m, hm0, hm1, hL, hn⟩ : ∃ m : Nat, 0 < m ∧ k + m ≤ s.size ∧ Hid (k + ln ((bs s).drop k) = k + m) ∧ Hid (k + m + sk ((bs s).drop (k + m)) = G) := by
            have h0 := hG.out
            have hll := ln_le ((bs s).drop k)
            rw [List.length_drop, bs_length] at hll
            refine ⟨ln ((bs s).drop k), ?_, by omega, rfl, ?_⟩
            · rw [hx]; simp [ln, c2.1]
            · rw [hx] at h0
              generalize hr : (bs s).drop (k + 1) = r at c2 h0 hx
              rcases r with _ | ⟨d, r⟩
              · simp at c2
              · rw [sk_remark c2.1 (by simpa using c2.2), ← hx, List.drop_drop] at h0
                exact (show k + _ + _ = G by omega)
          clear hx hd c2 
          go_wp2_with (first | (go_at_call 82; refine (isBlank_any _ _).mono ?_; rintro e w' ⟨rfl, rfl⟩) | (go_at_call 83; refine (remark_is _ _ _ _ hpre).mono ?_; rintro e w' ⟨rfl, rfl⟩) | (go_at_call 84; refine (lineEnd_any _ _ _ hk hs).mono ?_; rintro e w' ⟨rfl, rfl⟩; rw [hL.out]))
          go_round
          case rel => exact ⟨k + m, by omega, by go_num, hn⟩
          case measure => simp [intOf]; omega
        · rw [decide_eq_false c2] at hpre
          have hn : Hid (k = G) := by
            have := hG.out
            rw [hx, sk_stop c1' c2] at this
            exact this
          clear hx hd c2
          go_wp2_with (first | (go_at_call 82; refine (isBlank_any _ _).mono ?_; rintro e w' ⟨rfl, rfl⟩) | (go_at_call 83; refine (remark_is _ _ _ _ hpre).mono ?_; rintro e w' ⟨rfl, rfl⟩))
          go_ret
          exact ⟨by rw [← hn.out]; rfl, rfl⟩
    · have hn : Hid (k = G) := by
        have := hG.out
        rw [drop_all s k (by omega)] at this
        exact this
      go_wp2
      go_ret
      exact ⟨by rw [← hn.out]; rfl, rfl⟩

set_option maxHeartbeats 1000000 in
theorem isLongSign_any (s : ByteArray) (w : World) :
    Calls Tryz.prog 130 #[.string s] w fun e w' => e = .returned (.bool (decide (bs s ∈ twos))) ∧ w' = w := by
  by_cases h : bs s ∈ twos
  · rw [decide_eq_true h]
    have hs := tx_bs s
    simp only [twos, List.mem_cons, List.not_mem_nil, or_false] at h
    rcases h with h | h | h | h | h | h | h <;>
    · rw [h] at hs
      subst hs
      go_enter Tryz.func130, Tryz.ntmps130
      simp only [tx]
      go_wp2
      go_ret
      exact ⟨rfl, rfl⟩
  · rw [decide_eq_false h]
    have hne : ∀ x : List UInt8, x ∈ twos → (s.toList == x) = false := fun x hx => by
      rw [eqT, decide_eq_false]; intro e; exact h (by rw [e]; exact hx)
    have h1 := hne [61, 61] (by decide)
    have h2 := hne [33, 61] (by decide)
    have h3 := hne [60, 61] (by decide)
    have h4 := hne [62, 61] (by decide)
    have h5 := hne [38, 38] (by decide)
    have h6 := hne [124, 124] (by decide)
    have h7 := hne [61, 62] (by decide)
    clear h hne
    go_enter Tryz.func130, Tryz.ntmps130
    go_wp2
    go_ret
    exact ⟨rfl, rfl⟩
end Lex
end Go.Proofs.YtomldkljlbdnjaaGreat
