/- Faults of numbers, lines, what is passed over, signs. No statement of the seat is proved here. -/
import Derived.Test.YtdlkjafdnaadgaaLexBJJoins
namespace Go.Proofs.Ytdlkjafdnaadgaa
open Go.RowKit
set_option linter.unusedVariables false
set_option linter.unusedSimpArgs false
namespace Lex

theorem beq48 (n : Nat) (b : Bool) (h : decide (n = 48) = b) : ((n : Int) == 48) = b := by
  subst h
  by_cases h : n = 48
  · subst h; rfl
  · rw [decide_eq_false h, beq_eq_false_iff_ne]; omega
set_option maxHeartbeats 1000000 in
theorem numberFault_any (s : ByteArray) (p n : Nat) (w : World) (hp : p < s.size) (hq : p + n ≤ s.size) (hs : s.size ≤ 9223372036854775807) :
    Calls Try.prog 39 #[.string s, .int .i64 (p : Int), .int .i64 ((p + n : Nat) : Int)] w fun e w' =>
      e = .returned (if 300 < n then FV 2 p else if (s[p]'hp).toNat = 48 ∧ 1 < n then FV 10 p else if hdL ((bs s).drop (p + n)) = true then FV 100 (p + n) else FV 0 0) ∧ Below w.heap.size w w' := by
  have e1 : ((p + n : Nat) : Int) - (p : Int) = (n : Int) := by omega
  by_cases h1 : 300 < n
  · rw [if_pos h1]
    go_enter Try.func39, Try.ntmps39
    go_wp2
    refine bodyPost_ret (v := FV 2 p) (by simp [results, Try.results39, go_sem, FV]) rfl ?_
    refine ⟨rfl, ?_⟩
    go_grown
  · rw [if_neg h1]
    by_cases h2 : (s[p]'hp).toNat = 48
    · have hb := beq48 _ true (decide_eq_true h2)
      by_cases h3 : 1 < n
      · rw [if_pos ⟨h2, h3⟩]
        clear h2
        go_enter Try.func39, Try.ntmps39
        go_wp2
        refine bodyPost_ret (v := FV 10 p) (by simp [results, Try.results39, go_sem, FV]) rfl ?_
        refine ⟨rfl, ?_⟩
        go_grown
      · rw [if_neg (fun k => h3 k.2)]
        clear h2
        by_cases h4 : p + n < s.size
        · rw [bs_drop s _ h4]
          by_cases h5 : isL (s[p + n]'h4) = true
          · rw [if_pos (by simpa [hdL] using h5)]
            go_enter Try.func39, Try.ntmps39
            go_wp2_with (go_at_call 27; refine (isLetter_any _ _).mono ?_; rintro e w' ⟨rfl, rfl⟩)
            refine bodyPost_ret (v := FV 100 (p + n)) (by simp [results, Try.results39, go_sem, FV]) rfl ?_
            refine ⟨rfl, ?_⟩
            go_grown
          · have h5' : isL (s[p + n]'h4) = false := by simpa using h5
            rw [if_neg (by simpa [hdL] using h5)]
            clear h5
            go_enter Try.func39, Try.ntmps39
            go_wp2_with (go_at_call 27; refine (isLetter_any _ _).mono ?_; rintro e w' ⟨rfl, rfl⟩)
            refine bodyPost_ret (v := FV 0 0) (by simp [results, Try.results39, go_sem, FV]) rfl ?_
            refine ⟨rfl, ?_⟩
            go_grown
        · rw [drop_all s _ (by omega), if_neg (by simp [hdL])]
          go_enter Try.func39, Try.ntmps39
          go_wp2
          refine bodyPost_ret (v := FV 0 0) (by simp [results, Try.results39, go_sem, FV]) rfl ?_
          refine ⟨rfl, ?_⟩
          go_grown
    · have hb := beq48 _ false (decide_eq_false h2)
      rw [if_neg (fun k => h2 k.1)]
      clear h2
      by_cases h4 : p + n < s.size
      · rw [bs_drop s _ h4]
        by_cases h5 : isL (s[p + n]'h4) = true
        · rw [if_pos (by simpa [hdL] using h5)]
          go_enter Try.func39, Try.ntmps39
          go_wp2_with (go_at_call 27; refine (isLetter_any _ _).mono ?_; rintro e w' ⟨rfl, rfl⟩)
          refine bodyPost_ret (v := FV 100 (p + n)) (by simp [results, Try.results39, go_sem, FV]) rfl ?_
          refine ⟨rfl, ?_⟩
          go_grown
        · have h5' : isL (s[p + n]'h4) = false := by simpa using h5
          rw [if_neg (by simpa [hdL] using h5)]
          clear h5
          go_enter Try.func39, Try.ntmps39
          go_wp2_with (go_at_call 27; refine (isLetter_any _ _).mono ?_; rintro e w' ⟨rfl, rfl⟩)
          refine bodyPost_ret (v := FV 0 0) (by simp [results, Try.results39, go_sem, FV]) rfl ?_
          refine ⟨rfl, ?_⟩
          go_grown
      · rw [drop_all s _ (by omega), if_neg (by simp [hdL])]
        go_enter Try.func39, Try.ntmps39
        go_wp2
        refine bodyPost_ret (v := FV 0 0) (by simp [results, Try.results39, go_sem, FV]) rfl ?_
        refine ⟨rfl, ?_⟩
        go_grown

theorem index10 : ∀ l : List UInt8, Lib.indexByte l (10 : Int).toNat.toUInt8 = if ln l < l.length then (ln l : Int) else -1
  | [] => by simp [Lib.indexByte, ln]
  | c :: r => by
    have ih := index10 r
    have hl := ln_le r
    have e9 : (10 : Int).toNat.toUInt8 = 10 := by decide
    rw [e9] at ih ⊢
    by_cases h : c.toNat = 10
    · have : c = 10 := UInt8.toNat_inj.1 h
      subst this
      simp [Lib.indexByte, ln]
    · have : ¬ c = 10 := fun k => h (by rw [k]; rfl)
      have e2 : ln (c :: r) = ln r + 1 := by simp [ln, h]
      rw [e2]
      simp only [Lib.indexByte, List.length_cons, beq_iff_eq, this, if_false]
      rw [ih]
      by_cases h3 : ln r < r.length
      · have h4 : ln r + 1 < r.length + 1 := by omega
        simp only [h3, h4, if_true]
        split <;> omega
      · have h4 : ¬ ln r + 1 < r.length + 1 := by omega
        simp only [h3, h4, if_false]
        simp
set_option maxHeartbeats 1000000 in
theorem lineEnd_any (s : ByteArray) (p : Nat) (w : World) (hp : p ≤ s.size) (hs : s.size ≤ 9223372036854775807) :
    Calls Try.prog 35 #[.string s, .int .i64 (p : Int)] w fun e w' => e = .returned (.int .i64 ((p + ln ((bs s).drop p) : Nat) : Int)) ∧ w' = w := by
  have hx : bs (s.extract p s.size) = (bs s).drop p := by
    rw [bs_extract s p s.size hp, List.take_of_length_le]; rw [List.length_drop, bs_length]; omega
  have hi := index10 (bs (s.extract p s.size))
  have hl := ln_le ((bs s).drop p)
  rw [hx, List.length_drop, bs_length] at hi
  rw [List.length_drop, bs_length] at hl
  generalize ln ((bs s).drop p) = m at hi hl ⊢
  have hx' : (s.extract p s.size).data.toList = (bs s).drop p := hx
  by_cases h : m < s.size - p
  · rw [if_pos h] at hi
    go_enter Try.func35, Try.ntmps35
    go_wp2_with (go_at_call 44; refine (Try.strings_IndexByte _ _ _).mono ?_; rintro e w' ⟨rfl, rfl⟩; rw [hx', hi])
    go_ret
    exact ⟨by go_num, rfl⟩
  · rw [if_neg h] at hi
    obtain rfl : m = s.size - p := by omega
    rw [show p + (s.size - p) = s.size by omega]
    go_enter Try.func35, Try.ntmps35
    go_wp2_with (go_at_call 44; refine (Try.strings_IndexByte _ _ _).mono ?_; rintro e w' ⟨rfl, rfl⟩; rw [hx', hi])
    go_ret
    exact ⟨rfl, rfl⟩
end Lex
end Go.Proofs.Ytdlkjafdnaadgaa
