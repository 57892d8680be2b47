/- Small functions of lex and of the document's answer: bytes' kinds. No statement of the seat is proved here. -/
import Derived.WalkKit
import Derived.WalkSpells
import Derived.WalkLawsBesides
import Derived.Handy
import Derived.Test.YtdlkjafdnaadgaaProg
import Derived.Test.YtdlkjafdnaadgaaLexMJJoins
import Derived.Test.YtdlkjafdnaadgaaShelfLJJoins
namespace Go.Proofs.Ytdlkjafdnaadgaa
open Go.RowKit
set_option linter.unusedVariables false
set_option linter.unusedSimpArgs false
set_option linter.unnecessarySimpa false
namespace Lex

set_option maxHeartbeats 2000000 in
theorem isLetter_any (c : UInt8) (w : World) :
    Calls Try.prog 27 #[.int .u8 (c.toNat : Int)] w fun e w' => e = .returned (.bool (isL c)) ∧ w' = w := by
  unfold isL
  have hc : c.toNat < 256 := c.toNat_lt
  generalize c.toNat = n at hc ⊢
  have hf95 : ((n : Int) == 95) = decide (n = 95) := by
    by_cases h : n = 95
    · subst h; rfl
    · rw [decide_eq_false h, beq_eq_false_iff_ne]; omega
  have hp : (0 ≤ n ∧ n ≤ 64) ∨ (65 ≤ n ∧ n ≤ 90) ∨ (91 ≤ n ∧ n ≤ 94) ∨ (95 ≤ n ∧ n ≤ 95) ∨ (96 ≤ n ∧ n ≤ 96) ∨ (97 ≤ n ∧ n ≤ 122) ∨ (123 ≤ n ∧ n ≤ 255) := by omega
  rcases hp with ⟨g1, g2⟩ | ⟨g1, g2⟩ | ⟨g1, g2⟩ | ⟨g1, g2⟩ | ⟨g1, g2⟩ | ⟨g1, g2⟩ | ⟨g1, g2⟩
  · -- 0 to 64
    rw [decide_eq_false (show ¬ n = 95 by omega)] at hf95
    have hge97 : ¬ 97 ≤ n := by omega
    have hge65 : ¬ 65 ≤ n := by omega
    have hle122 : n ≤ 122 := by omega
    have hle90 : n ≤ 90 := by omega
    have hr : ((97 ≤ n && n ≤ 122) || (65 ≤ n && n ≤ 90) || n == 95) = false := by simp <;> omega
    rw [hr]
    clear hr
    go_enter Try.func27, Try.ntmps27
    go_wp2
    go_ret
    refine ⟨?_, rfl⟩
    first | rfl | (simp <;> omega)
  · -- 65 to 90
    rw [decide_eq_false (show ¬ n = 95 by omega)] at hf95
    have hge97 : ¬ 97 ≤ n := by omega
    have hge65 : 65 ≤ n := by omega
    have hle122 : n ≤ 122 := by omega
    have hle90 : n ≤ 90 := by omega
    have hr : ((97 ≤ n && n ≤ 122) || (65 ≤ n && n ≤ 90) || n == 95) = true := by simp <;> omega
    rw [hr]
    clear hr
    go_enter Try.func27, Try.ntmps27
    go_wp2
    go_ret
    refine ⟨?_, rfl⟩
    first | rfl | (simp <;> omega)
  · -- 91 to 94
    rw [decide_eq_false (show ¬ n = 95 by omega)] at hf95
    have hge97 : ¬ 97 ≤ n := by omega
    have hge65 : 65 ≤ n := by omega
    have hle122 : n ≤ 122 := by omega
    have hle90 : ¬ n ≤ 90 := by omega
    have hr : ((97 ≤ n && n ≤ 122) || (65 ≤ n && n ≤ 90) || n == 95) = false := by simp <;> omega
    rw [hr]
    clear hr
    go_enter Try.func27, Try.ntmps27
    go_wp2
    go_ret
    refine ⟨?_, rfl⟩
    first | rfl | (simp <;> omega)
  · -- 95 to 95
    rw [decide_eq_true (show n = 95 by omega)] at hf95
    have hge97 : ¬ 97 ≤ n := by omega
    have hge65 : 65 ≤ n := by omega
    have hle122 : n ≤ 122 := by omega
    have hle90 : ¬ n ≤ 90 := by omega
    have hr : ((97 ≤ n && n ≤ 122) || (65 ≤ n && n ≤ 90) || n == 95) = true := by simp <;> omega
    rw [hr]
    clear hr
    go_enter Try.func27, Try.ntmps27
    go_wp2
    go_ret
    refine ⟨?_, rfl⟩
    first | rfl | (simp <;> omega)
  · -- 96 to 96
    rw [decide_eq_false (show ¬ n = 95 by omega)] at hf95
    have hge97 : ¬ 97 ≤ n := by omega
    have hge65 : 65 ≤ n := by omega
    have hle122 : n ≤ 122 := by omega
    have hle90 : ¬ n ≤ 90 := by omega
    have hr : ((97 ≤ n && n ≤ 122) || (65 ≤ n && n ≤ 90) || n == 95) = false := by simp <;> omega
    rw [hr]
    clear hr
    go_enter Try.func27, Try.ntmps27
    go_wp2
    go_ret
    refine ⟨?_, rfl⟩
    first | rfl | (simp <;> omega)
  · -- 97 to 122
    rw [decide_eq_false (show ¬ n = 95 by omega)] at hf95
    have hge97 : 97 ≤ n := by omega
    have hge65 : 65 ≤ n := by omega
    have hle122 : n ≤ 122 := by omega
    have hle90 : ¬ n ≤ 90 := by omega
    have hr : ((97 ≤ n && n ≤ 122) || (65 ≤ n && n ≤ 90) || n == 95) = true := by simp <;> omega
    rw [hr]
    clear hr
    go_enter Try.func27, Try.ntmps27
    go_wp2
    go_ret
    refine ⟨?_, rfl⟩
    first | rfl | (simp <;> omega)
  · -- 123 to 255
    rw [decide_eq_false (show ¬ n = 95 by omega)] at hf95
    have hge97 : 97 ≤ n := by omega
    have hge65 : 65 ≤ n := by omega
    have hle122 : ¬ n ≤ 122 := by omega
    have hle90 : ¬ n ≤ 90 := by omega
    have hr : ((97 ≤ n && n ≤ 122) || (65 ≤ n && n ≤ 90) || n == 95) = false := by simp <;> omega
    rw [hr]
    clear hr
    go_enter Try.func27, Try.ntmps27
    go_wp2
    go_ret
    refine ⟨?_, rfl⟩
    first | rfl | (simp <;> omega)
set_option maxHeartbeats 2000000 in
theorem isDigit_any (c : UInt8) (w : World) :
    Calls Try.prog 37 #[.int .u8 (c.toNat : Int)] w fun e w' => e = .returned (.bool (isD c)) ∧ w' = w := by
  unfold isD
  have hc : c.toNat < 256 := c.toNat_lt
  generalize c.toNat = n at hc ⊢
  have hp : (0 ≤ n ∧ n ≤ 47) ∨ (48 ≤ n ∧ n ≤ 57) ∨ (58 ≤ n ∧ n ≤ 255) := by omega
  rcases hp with ⟨g1, g2⟩ | ⟨g1, g2⟩ | ⟨g1, g2⟩
  · -- 0 to 47
    have hge48 : ¬ 48 ≤ n := by omega
    have hle57 : n ≤ 57 := by omega
    have hr : (48 ≤ n && n ≤ 57) = false := by simp <;> omega
    rw [hr]
    clear hr
    go_enter Try.func37, Try.ntmps37
    go_wp2
    go_ret
    refine ⟨?_, rfl⟩
    first | rfl | (simp <;> omega)
  · -- 48 to 57
    have hge48 : 48 ≤ n := by omega
    have hle57 : n ≤ 57 := by omega
    have hr : (48 ≤ n && n ≤ 57) = true := by simp <;> omega
    rw [hr]
    clear hr
    go_enter Try.func37, Try.ntmps37
    go_wp2
    go_ret
    refine ⟨?_, rfl⟩
    first | rfl | (simp <;> omega)
  · -- 58 to 255
    have hge48 : 48 ≤ n := by omega
    have hle57 : ¬ n ≤ 57 := by omega
    have hr : (48 ≤ n && n ≤ 57) = false := by simp <;> omega
    rw [hr]
    clear hr
    go_enter Try.func37, Try.ntmps37
    go_wp2
    go_ret
    refine ⟨?_, rfl⟩
    first | rfl | (simp <;> omega)
set_option maxHeartbeats 2000000 in
theorem isBlank_any (c : UInt8) (w : World) :
    Calls Try.prog 33 #[.int .u8 (c.toNat : Int)] w fun e w' => e = .returned (.bool (isB c)) ∧ w' = w := by
  unfold isB
  have hc : c.toNat < 256 := c.toNat_lt
  generalize c.toNat = n at hc ⊢
  have hf32 : ((n : Int) == 32) = decide (n = 32) := by
    by_cases h : n = 32
    · subst h; rfl
    · rw [decide_eq_false h, beq_eq_false_iff_ne]; omega
  have hf9 : ((n : Int) == 9) = decide (n = 9) := by
    by_cases h : n = 9
    · subst h; rfl
    · rw [decide_eq_false h, beq_eq_false_iff_ne]; omega
  have hf10 : ((n : Int) == 10) = decide (n = 10) := by
    by_cases h : n = 10
    · subst h; rfl
    · rw [decide_eq_false h, beq_eq_false_iff_ne]; omega
  have hf13 : ((n : Int) == 13) = decide (n = 13) := by
    by_cases h : n = 13
    · subst h; rfl
    · rw [decide_eq_false h, beq_eq_false_iff_ne]; omega
  have hp : (0 ≤ n ∧ n ≤ 8) ∨ (9 ≤ n ∧ n ≤ 9) ∨ (10 ≤ n ∧ n ≤ 10) ∨ (11 ≤ n ∧ n ≤ 12) ∨ (13 ≤ n ∧ n ≤ 13) ∨ (14 ≤ n ∧ n ≤ 31) ∨ (32 ≤ n ∧ n ≤ 32) ∨ (33 ≤ n ∧ n ≤ 255) := by omega
  rcases hp with ⟨g1, g2⟩ | ⟨g1, g2⟩ | ⟨g1, g2⟩ | ⟨g1, g2⟩ | ⟨g1, g2⟩ | ⟨g1, g2⟩ | ⟨g1, g2⟩ | ⟨g1, g2⟩
  · -- 0 to 8
    rw [decide_eq_false (show ¬ n = 32 by omega)] at hf32
    rw [decide_eq_false (show ¬ n = 9 by omega)] at hf9
    rw [decide_eq_false (show ¬ n = 10 by omega)] at hf10
    rw [decide_eq_false (show ¬ n = 13 by omega)] at hf13
    have hr : (n == 32 || n == 9 || n == 10 || n == 13) = false := by simp <;> omega
    rw [hr]
    clear hr
    go_enter Try.func33, Try.ntmps33
    go_wp2
    go_ret
    refine ⟨?_, rfl⟩
    first | rfl | (simp <;> omega)
  · -- 9 to 9
    rw [decide_eq_false (show ¬ n = 32 by omega)] at hf32
    rw [decide_eq_true (show n = 9 by omega)] at hf9
    rw [decide_eq_false (show ¬ n = 10 by omega)] at hf10
    rw [decide_eq_false (show ¬ n = 13 by omega)] at hf13
    have hr : (n == 32 || n == 9 || n == 10 || n == 13) = true := by simp <;> omega
    rw [hr]
    clear hr
    go_enter Try.func33, Try.ntmps33
    go_wp2
    go_ret
    refine ⟨?_, rfl⟩
    first | rfl | (simp <;> omega)
  · -- 10 to 10
    rw [decide_eq_false (show ¬ n = 32 by omega)] at hf32
    rw [decide_eq_false (show ¬ n = 9 by omega)] at hf9
    rw [decide_eq_true (show n = 10 by omega)] at hf10
    rw [decide_eq_false (show ¬ n = 13 by omega)] at hf13
    have hr : (n == 32 || n == 9 || n == 10 || n == 13) = true := by simp <;> omega
    rw [hr]
    clear hr
    go_enter Try.func33, Try.ntmps33
    go_wp2
    go_ret
    refine ⟨?_, rfl⟩
    first | rfl | (simp <;> omega)
  · -- 11 to 12
    rw [decide_eq_false (show ¬ n = 32 by omega)] at hf32
    rw [decide_eq_false (show ¬ n = 9 by omega)] at hf9
    rw [decide_eq_false (show ¬ n = 10 by omega)] at hf10
    rw [decide_eq_false (show ¬ n = 13 by omega)] at hf13
    have hr : (n == 32 || n == 9 || n == 10 || n == 13) = false := by simp <;> omega
    rw [hr]
    clear hr
    go_enter Try.func33, Try.ntmps33
    go_wp2
    go_ret
    refine ⟨?_, rfl⟩
    first | rfl | (simp <;> omega)
  · -- 13 to 13
    rw [decide_eq_false (show ¬ n = 32 by omega)] at hf32
    rw [decide_eq_false (show ¬ n = 9 by omega)] at hf9
    rw [decide_eq_false (show ¬ n = 10 by omega)] at hf10
    rw [decide_eq_true (show n = 13 by omega)] at hf13
    have hr : (n == 32 || n == 9 || n == 10 || n == 13) = true := by simp <;> omega
    rw [hr]
    clear hr
    go_enter Try.func33, Try.ntmps33
    go_wp2
    go_ret
    refine ⟨?_, rfl⟩
    first | rfl | (simp <;> omega)
  · -- 14 to 31
    rw [decide_eq_false (show ¬ n = 32 by omega)] at hf32
    rw [decide_eq_false (show ¬ n = 9 by omega)] at hf9
    rw [decide_eq_false (show ¬ n = 10 by omega)] at hf10
    rw [decide_eq_false (show ¬ n = 13 by omega)] at hf13
    have hr : (n == 32 || n == 9 || n == 10 || n == 13) = false := by simp <;> omega
    rw [hr]
    clear hr
    go_enter Try.func33, Try.ntmps33
    go_wp2
    go_ret
    refine ⟨?_, rfl⟩
    first | rfl | (simp <;> omega)
  · -- 32 to 32
    rw [decide_eq_true (show n = 32 by omega)] at hf32
    rw [decide_eq_false (show ¬ n = 9 by omega)] at hf9
    rw [decide_eq_false (show ¬ n = 10 by omega)] at hf10
    rw [decide_eq_false (show ¬ n = 13 by omega)] at hf13
    have hr : (n == 32 || n == 9 || n == 10 || n == 13) = true := by simp <;> omega
    rw [hr]
    clear hr
    go_enter Try.func33, Try.ntmps33
    go_wp2
    go_ret
    refine ⟨?_, rfl⟩
    first | rfl | (simp <;> omega)
  · -- 33 to 255
    rw [decide_eq_false (show ¬ n = 32 by omega)] at hf32
    rw [decide_eq_false (show ¬ n = 9 by omega)] at hf9
    rw [decide_eq_false (show ¬ n = 10 by omega)] at hf10
    rw [decide_eq_false (show ¬ n = 13 by omega)] at hf13
    have hr : (n == 32 || n == 9 || n == 10 || n == 13) = false := by simp <;> omega
    rw [hr]
    clear hr
    go_enter Try.func33, Try.ntmps33
    go_wp2
    go_ret
    refine ⟨?_, rfl⟩
    first | rfl | (simp <;> omega)
end Lex
end Go.Proofs.Ytdlkjafdnaadgaa
