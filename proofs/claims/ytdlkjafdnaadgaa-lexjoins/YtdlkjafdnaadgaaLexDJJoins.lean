/- What is passed over, signs, one token. No statement of the seat is proved here. -/
import Derived.Test.YtdlkjafdnaadgaaLexCJJoins
namespace Go.Proofs.Ytdlkjafdnaadgaa
open Go.RowKit
set_option linter.unusedVariables false
set_option linter.unusedSimpArgs false
namespace Lex

theorem prefix2 (c : UInt8) (r : List UInt8) : Lib.hasPrefix (c :: r) [47, 47] = decide (c.toNat = 47 ∧ (r.head?.map (·.toNat)) = some 47) := by
  have h47 : ∀ d : UInt8, (47 == d) = decide (d.toNat = 47) := fun d => by
    by_cases h : d.toNat = 47
    · obtain rfl : d = 47 := UInt8.toNat_inj.1 h
      rfl
    · rw [decide_eq_false h, beq_eq_false_iff_ne]; exact fun k => h (by rw [← k]; rfl)
  rcases r with _ | ⟨d, r⟩
  · simp [Lib.hasPrefix, List.isPrefixOf]
  · simp [Lib.hasPrefix, List.isPrefixOf, h47]
theorem ext_drop (s : ByteArray) (k : Nat) (h : k ≤ s.size) : (s.extract k s.size).data.toList = (bs s).drop k := by
  show bs (s.extract k s.size) = _
  rw [bs_extract s k s.size h, List.take_of_length_le]; rw [List.length_drop, bs_length]; omega

theorem remark_is (s : ByteArray) (k : Nat) (w : World) (b : Bool) (h : Lib.hasPrefix (s.extract k s.size).data.toList [47, 47] = b) :
    Calls Try.prog 34 #[.string (s.extract k s.size), .string ⟨#[47, 47]⟩] w fun e w' => e = .returned (.bool b) ∧ w' = w := by
  subst h; exact Try.strings_HasPrefix _ _ w

/-- Are two texts the same, as the machine asks it? -/
theorem eqT (s : ByteArray) (x : List UInt8) : (s.toList == x) = decide (bs s = x) := by
  rw [show s.toList = bs s by simp [ByteArray.toList_eq, bs]]
  by_cases h : bs s = x
  · rw [decide_eq_true h]; simp [h]
  · rw [decide_eq_false h]; simp [h]

set_option maxHeartbeats 1000000 in
theorem passOver_any (s : ByteArray) (p : Nat) (w : World) (hp : p ≤ s.size) (hs : s.size ≤ 9223372036854775807) :
    Calls Try.prog 18 #[.string s, .int .i64 (p : Int)] w fun e w' => e = .returned (.int .i64 ((p + sk ((bs s).drop p) : Nat) : Int)) ∧ w' = w := by
  obtain ⟨G, HG⟩ : ∃ G : Nat, Hid (p + sk ((bs s).drop p) = G) := ⟨_, rfl⟩
  have HG' := HG.out
  rw [HG']
  clear HG'
  go_enter Try.func18, Try.ntmps18
  go_wp2
  go_loop [1] (fun i => ∃ k : Nat, k ≤ s.size ∧ i = .int .i64 k ∧ Hid (k + sk ((bs s).drop k) = G)) (fun i => s.size - (intOf i).toNat)
  case atStart => exact ⟨p, hp, rfl, HG⟩
  case round =>
    obtain ⟨k, hk, rfl, hG⟩ := hrel
    by_cases hlt : k < s.size
    · have hx := bs_drop s k hlt
      have hd := ext_drop s k hk
      have hpre := prefix2 (s[k]'hlt) ((bs s).drop (k + 1))
      rw [← hx, ← hd] at hpre
      by_cases c1 : isB (s[k]'hlt) = true
      · have hn : Hid (k + 1 + sk ((bs s).drop (k + 1)) = G) := by
          have := hG.out
          rw [hx, sk_blank c1] at this
          exact (show k + 1 + _ = G by omega)
        clear hx hd hpre
        go_wp2_with (go_at_call 33; refine (isBlank_any _ _).mono ?_; rintro e w' ⟨rfl, rfl⟩)
        go_round
        case rel => exact ⟨k + 1, by omega, by go_num, hn⟩
        case measure => simp [intOf]; omega
      · have c1' : isB (s[k]'hlt) = false := by simpa using c1
        clear c1
        by_cases c2 : (s[k]'hlt).toNat = 47 ∧ (((bs s).drop (k + 1)).head?.map (·.toNat)) = some 47
        · rw [decide_eq_true c2] at hpre
          obtain ⟨m, hm0, hm1, hL, hn⟩ : ∃ m : Nat, 0 < m ∧ k + m ≤ s.size ∧ Hid (k + ln ((bs s).drop k) = k + m) ∧ Hid (k + m + sk ((bs s).drop (k + m)) = G) := by
            have h0 := hG.out
            have hll := ln_le ((bs s).drop k)
            rw [List.length_drop, bs_length] at hll
            refine ⟨ln ((bs s).drop k), ?_, by omega, rfl, ?_⟩
            · rw [hx]; simp [ln, c2.1]
            · rw [hx] at h0
              generalize hr : (bs s).drop (k + 1) = r at c2 h0 hx
              rcases r with _ | ⟨d, r⟩
              · simp at c2
              · rw [sk_remark c2.1 (by simpa using c2.2), ← hx, List.drop_drop] at h0
                exact (show k + _ + _ = G by omega)
          clear hx hd c2 
          go_wp2_with (first | (go_at_call 33; refine (isBlank_any _ _).mono ?_; rintro e w' ⟨rfl, rfl⟩) | (go_at_call 34; refine (remark_is _ _ _ _ hpre).mono ?_; rintro e w' ⟨rfl, rfl⟩) | (go_at_call 35; refine (lineEnd_any _ _ _ hk hs).mono ?_; rintro e w' ⟨rfl, rfl⟩; rw [hL.out]))
          go_round
          case rel => exact ⟨k + m, by omega, by go_num, hn⟩
          case measure => simp [intOf]; omega
        · rw [decide_eq_false c2] at hpre
          have hn : Hid (k = G) := by
            have := hG.out
            rw [hx, sk_stop c1' c2] at this
            exact this
          clear hx hd c2
          go_wp2_with (first | (go_at_call 33; refine (isBlank_any _ _).mono ?_; rintro e w' ⟨rfl, rfl⟩) | (go_at_call 34; refine (remark_is _ _ _ _ hpre).mono ?_; rintro e w' ⟨rfl, rfl⟩))
          go_ret
          exact ⟨by rw [← hn.out]; rfl, rfl⟩
    · have hn : Hid (k = G) := by
        have := hG.out
        rw [drop_all s k (by omega)] at this
        exact this
      go_wp2
      go_ret
      exact ⟨by rw [← hn.out]; rfl, rfl⟩

set_option maxHeartbeats 1000000 in
theorem isLongSign_any (s : ByteArray) (w : World) :
    Calls Try.prog 45 #[.string s] w fun e w' => e = .returned (.bool (decide (bs s ∈ twos))) ∧ w' = w := by
  by_cases h : bs s ∈ twos
  · rw [decide_eq_true h]
    have hs := tx_bs s
    simp only [twos, List.mem_cons, List.not_mem_nil, or_false] at h
    rcases h with h | h | h | h | h | h | h <;>
    · rw [h] at hs
      subst hs
      go_enter Try.func45, Try.ntmps45
      simp only [tx]
      go_wp2
      go_ret
      exact ⟨rfl, rfl⟩
  · rw [decide_eq_false h]
    have hne : ∀ x : List UInt8, x ∈ twos → (s.toList == x) = false := fun x hx => by
      rw [eqT, decide_eq_false]; intro e; exact h (by rw [e]; exact hx)
    have h1 := hne [61, 61] (by decide)
    have h2 := hne [33, 61] (by decide)
    have h3 := hne [60, 61] (by decide)
    have h4 := hne [62, 61] (by decide)
    have h5 := hne [38, 38] (by decide)
    have h6 := hne [124, 124] (by decide)
    have h7 := hne [61, 62] (by decide)
    clear h hne
    go_enter Try.func45, Try.ntmps45
    go_wp2
    go_ret
    exact ⟨rfl, rfl⟩
end Lex
end Go.Proofs.Ytdlkjafdnaadgaa
