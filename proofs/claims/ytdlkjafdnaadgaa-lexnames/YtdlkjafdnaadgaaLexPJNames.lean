/- The document's names, and the walk of LexNames. No statement of the seat is proved here. -/
import Derived.Test.YtdlkjafdnaadgaaLexOJNames
namespace Go.Proofs.Ytdlkjafdnaadgaa
open Go.RowKit
set_option linter.unusedVariables false
set_option linter.unusedSimpArgs false
namespace Lex
open Euf (OL App Stop wpList_push)

theorem all_of {s : ByteArray} (h : ∀ j (hj : j < s.size), isLD (s[j]'hj) = true) : (bs s).all isLD = true := by
  rw [List.all_eq_true]
  intro x hx
  obtain ⟨j, hj, rfl⟩ := List.mem_iff_getElem.1 hx
  rw [bs_length] at hj
  have := bs_get s j hj
  rw [List.getElem?_eq_getElem (by rw [bs_length]; exact hj)] at this
  injection this with this
  rw [this]; exact h j hj
theorem all_at {s : ByteArray} (h : (bs s).all isLD = true) (j : Nat) (hj : j < s.size) : isLD (s[j]'hj) = true := by
  rw [List.all_eq_true] at h
  exact h _ (List.mem_of_getElem? (bs_get s j hj))
set_option maxHeartbeats 2000000 in
theorem rIsName_any (s : ByteArray) (w : World) (hs : s.size ≤ 9223372036854775807) :
    Calls Try.prog 16 #[.string s] w fun e w' => e = .returned (.bool (decide (IsNm (bs s)))) ∧ Below w.heap.size w w' := by
  obtain ⟨B, hB⟩ : ∃ B : Bool, Hid (decide (IsNm (bs s)) = B) := ⟨_, rfl⟩
  have hB' := hB.out
  rw [hB']
  clear hB'
  by_cases h0 : 0 < s.size
  · have h0I : ((s.size : Int) == 0) = false := by rw [beq_eq_false_iff_ne]; omega
    have hx := bs_drop s 0 h0
    rw [List.drop_zero] at hx
    have hne : bs s ≠ [] := by rw [hx]; simp
    have hhd : hdL (bs s) = isL (s[0]'h0) := by rw [hx]; rfl
    by_cases h40 : 40 < s.size
    · have h40I : (40 : Int) < (s.size : Int) := by omega
      have hb : Hid (false = B) := by rw [← hB.out]; exact (decide_eq_false (fun q => by have := q.2.1; rw [bs_length] at this; omega)).symm
      clear hx hne hhd hB
      go_enter Try.func16, Try.ntmps16
      go_wp2
      go_ret
      exact ⟨by rw [← hb.out]; rfl, Below.refl _ _⟩
    · have h40I : ¬ (40 : Int) < (s.size : Int) := by omega
      by_cases c1 : isL (s[0]'h0) = true
      · have hk := kd1 c1
        by_cases c2 : bs s ∈ words
        · have hb : Hid (false = B) := by rw [← hB.out]; exact (decide_eq_false (fun q => q.2.2.2.2 c2)).symm
          have HW := hide <| fun w => rIsWord_any s w
          rw [decide_eq_true c2] at HW
          clear hx hne hhd hB
          go_enter Try.func16, Try.ntmps16
          go_wp2_with (first | (go_at_call 22; refine (kind_any _ _).mono ?_; rintro e w' ⟨rfl, rfl⟩; rw [hk]) | (go_at_call 14; refine (HW.out _).mono ?_; rintro e w1 ⟨rfl, hb1⟩))
          go_ret
          exact ⟨by rw [← hb.out]; rfl, hb1⟩
        · have HW := hide <| fun w => rIsWord_any s w
          rw [decide_eq_false c2] at HW
          have HB2 : Hid (((bs s).all isLD) = B) := by
            rw [← hB.out]
            by_cases k : (bs s).all isLD = true
            · rw [k]; exact (decide_eq_true ⟨hne, by rw [bs_length]; omega, by rw [hhd, c1], k, c2⟩).symm
            · rw [show (bs s).all isLD = false by simpa using k]; exact (decide_eq_false (fun q => k q.2.2.2.1)).symm
          clear hx hne hhd hB
          go_enter Try.func16, Try.ntmps16
          go_wp2_with (first | (go_at_call 22; refine (kind_any _ _).mono ?_; rintro e w' ⟨rfl, rfl⟩; rw [hk]) | (go_at_call 14; refine (HW.out _).mono ?_; rintro e w1 ⟨rfl, hb1⟩))
          go_loop [3] (fun i => ∃ k : Nat, k ≤ s.size ∧ i = .int .i64 k ∧ Hid (∀ j, j < k → ∀ hj : j < s.size, isLD (s[j]'hj) = true)) (fun i => s.size - (intOf i).toNat)
          case atStart => exact ⟨0, Nat.zero_le _, rfl, fun j hj => absurd hj (Nat.not_lt_zero _)⟩
          case round =>
            obtain ⟨k, hk, rfl, hN⟩ := hrel
            by_cases hlt : k < s.size
            · have hltI : (k : Int) < (s.size : Int) := by omega
              by_cases c3 : isLD (s[k]'hlt) = true
              · have hN2 : Hid (∀ j, j < k + 1 → ∀ hj : j < s.size, isLD (s[j]'hj) = true) := fun j hj hj2 => by
                  by_cases e : j = k
                  · subst e; exact c3
                  · exact hN.out j (by omega) hj2
                have c4 : kd (s[k]'hlt) = 1 ∨ kd (s[k]'hlt) = 2 := by
                  simp only [isLD, Bool.or_eq_true] at c3
                  rcases c3 with c3 | c3
                  · exact Or.inl (kd1 c3)
                  · exact Or.inr (kd2 c3)
                clear c3
                rcases c4 with c4 | c4
                all_goals
                  go_wp2_with (go_at_call 22; refine (kind_any _ _).mono ?_; rintro e w' ⟨rfl, rfl⟩; rw [c4])
                  go_round
                  case rel => exact ⟨k + 1, by omega, by go_num, hN2⟩
                  case measure => simp [intOf]; omega
              · have hb : Hid (false = B) := by rw [← HB2.out]; exact (Bool.eq_false_iff.2 fun q => c3 (all_at q k hlt)).symm
                have c4 : isL (s[k]'hlt) = false ∧ isD (s[k]'hlt) = false := by simpa [isLD] using c3
                have hk2 : kd (s[k]'hlt) = 3 ∨ kd (s[k]'hlt) = 0 := by
                  unfold kd
                  rw [c4.1, c4.2]
                  cases isB (s[k]'hlt) <;> simp
                clear c3 c4
                rcases hk2 with hk2 | hk2
                all_goals
                  go_wp2_with (go_at_call 22; refine (kind_any _ _).mono ?_; rintro e w' ⟨rfl, rfl⟩; rw [hk2])
                  go_ret
                  exact ⟨by rw [← hb.out]; rfl, hb1⟩
            · have hltI : ¬ (k : Int) < (s.size : Int) := by omega
              have hb : Hid (true = B) := by rw [← HB2.out]; exact (all_of fun j hj => hN.out j (by omega) hj).symm
              go_wp2
              go_ret
              exact ⟨by rw [← hb.out]; rfl, hb1⟩
      · have c1' : isL (s[0]'h0) = false := by simpa using c1
        have hk : kd (s[0]'h0) = 2 ∨ kd (s[0]'h0) = 3 ∨ kd (s[0]'h0) = 0 := by
          unfold kd; rw [c1']
          cases isD (s[0]'h0) <;> cases isB (s[0]'h0) <;> simp
        have hb : Hid (false = B) := by rw [← hB.out]; exact (decide_eq_false (fun q => by have := q.2.2.1; rw [hhd, c1'] at this; cases this)).symm
        clear hx hne hhd c1 hB
        rcases hk with hk | hk | hk
        all_goals
          go_enter Try.func16, Try.ntmps16
          go_wp2_with (go_at_call 22; refine (kind_any _ _).mono ?_; rintro e w' ⟨rfl, rfl⟩; rw [hk])
          go_ret
          exact ⟨by rw [← hb.out]; rfl, Below.refl _ _⟩
  · have he : bs s = [] := by apply List.eq_nil_of_length_eq_zero; rw [bs_length]; omega
    have h0I : ((s.size : Int) == 0) = true := by rw [beq_iff_eq]; omega
    have hb : Hid (false = B) := by rw [← hB.out]; exact (decide_eq_false (fun q => q.1 he)).symm
    clear he hB
    go_enter Try.func16, Try.ntmps16
    go_wp2
    go_ret
    exact ⟨by rw [← hb.out]; rfl, Below.refl _ _⟩
theorem words_ok : ∀ x ∈ words, x.length ≤ 40 ∧ hdL x = true ∧ x.all isLD = true := by decide
/-- A word alone is one token. -/
theorem one_word {s : List UInt8} (h1 : s.length ≤ 40) (h2 : hdL s = true) (h3 : s.all isLD = true) : Lx s 0 [⟨1, s, 0⟩] 0 0 := by
  rcases s with _ | ⟨c, r⟩
  · cases h2
  have hc : isL c = true := h2
  have hk : sk (c :: r) = 0 := sk_stop (not_both hc).2 (by
    rintro ⟨k, -⟩
    have : isL c = false := by unfold isL; simp; omega
    rw [this] at hc; cases hc)
  have hn := (spW_all (c :: r)).2 h3
  have ht : tk (c :: r) = .ok 1 (c :: r).length := by
    simp only [tk, hc, if_true, hn, if_neg (show ¬ 40 < (c :: r).length by omega)]
  have := Lx.tok (l := c :: r) (p := 0) (k := 1) (n := (c :: r).length) (ts := []) (c := 0) (a := 0) (by rw [hk]; simp) (by rw [hk, List.drop_zero]; exact ht) (.done (by rw [List.length_drop]; omega))
  rwa [hk, List.drop_zero, List.take_length] at this
theorem out_word {s : List UInt8} {ts : List T} {c a : Nat} (h : Out s ts c a) (hw : s ∈ words ∨ IsNm s) : ts = [⟨1, s, 0⟩] ∧ c = 0 ∧ a = 0 := by
  have h3 : s.length ≤ 40 ∧ hdL s = true ∧ s.all isLD = true := by
    rcases hw with hw | hw
    · exact words_ok s hw
    · exact ⟨hw.2.1, hw.2.2.1, hw.2.2.2.1⟩
  exact h.det (Or.inr ⟨by omega, _, one_word h3.1 h3.2.1 h3.2.2, rfl⟩)
set_option maxHeartbeats 4000000 in
theorem lexNames_any (s : ByteArray) (w : World) (hl : s.size ≤ maxLen) :
    Calls Try.prog 4 #[.string s] w fun e w' => e = .returned (.bool true) ∧ Below w.heap.size w w' := by
  have hs : s.size ≤ 9223372036854775807 := by unfold maxLen at hl; omega
  clear hl
  obtain ⟨b1, hb1⟩ : ∃ b : Bool, decide (bs s ∈ words) = b := ⟨_, rfl⟩
  obtain ⟨b2, hb2⟩ : ∃ b : Bool, decide (IsNm (bs s)) = b := ⟨_, rfl⟩
  have HW := hide <| isWord_any s
  have HN := hide <| fun w => isName_any s w hs
  have HRW := hide <| rIsWord_any s
  have HRN := hide <| fun w => rIsName_any s w hs
  rw [hb1] at HW HRW
  rw [hb2] at HN HRN
  have HC : Hid (∀ ts c a, Out (bs s) ts c a → (b1 = true ∨ b2 = true) → ts = [⟨1, bs s, 0⟩] ∧ c = 0 ∧ a = 0) := fun ts c a h k => out_word h (by
    rcases k with k | k
    · exact Or.inl (of_decide_eq_true (hb1.trans k))
    · exact Or.inr (of_decide_eq_true (hb2.trans k)))
  clear hb1 hb2
  go_enter Try.func4, Try.ntmps4
  go_wp2_with fail
  refine (awake_any w).mono ?_
  rintro e w1 ⟨rfl, hb1⟩
  have HB1 := hide hb1
  clear hb1
  go_wp2_with fail
  refine (HW.out _).mono ?_
  rintro e w' ⟨rfl, rfl⟩
  go_wp2_with fail
  refine (HRW.out _).mono ?_
  rintro e w3 ⟨rfl, hb3⟩
  have HB3 := hide (HB1.out.step hb3 (Nat.le_refl _))
  clear HB1 hb3
  go_wp2_with fail
  refine (HN.out _).mono ?_
  rintro e w' ⟨rfl, rfl⟩
  go_wp2_with fail
  refine (HRN.out _).mono ?_
  rintro e w4 ⟨rfl, hb4⟩
  have HB4 := hide (HB3.out.step hb4 (Nat.le_refl _))
  clear HB3 hb4
  go_wp2_with fail
  refine (tokens_any s _ hs).mono ?_
  rintro e w5 ⟨v, ts, c, a, rfl, hO, hL, -, hb5⟩
  obtain ⟨a1, c1, hv, -, -, -, -⟩ := hL.shape
  subst hv
  have HB5 := hide (HB4.out.step hb5 (Nat.le_refl _))
  have HB6 := hide (HB5.out.step (show Below w5.heap.size w5 (w5.alloc (.cells #[.int .i64 (c : Int), .int .i64 (a : Int)] 26 (0, 0))) by go_grown) (Nat.le_refl _))
  have hcnt := hO.count
  clear HB4 hb5
  by_cases k : b1 = true ∨ b2 = true
  · obtain ⟨rfl, rfl, rfl⟩ := HC.out _ _ _ hO k
    obtain ⟨g, cap, hv, hc1, hc2⟩ := OL.open hL 0 (by simp)
    simp only [Value.slice.injEq] at hv
    obtain ⟨rfl, -, rfl⟩ := hv
    obtain ⟨x0, x1, x2⟩ := hL.at 0 _ rfl
    rw [tx_bs] at x1
    have hgl := OL.lt hL (b := g) rfl
    simp only [FV, List.length_cons, List.length_nil, Nat.zero_mul, Nat.zero_add] at *
    clear hL hO HC
    cases b1 <;> cases b2
    · simp at k
    all_goals
      go_wp2_with (first | (go_at_call 15; refine (HN.out _).mono ?_; rintro e w' ⟨rfl, rfl⟩) | (go_at_call 13; refine (HW.out _).mono ?_; rintro e w' ⟨rfl, rfl⟩))
      go_ret
      exact ⟨by simp, HB6.out⟩
  · obtain rfl : b1 = false := by cases b1 <;> simp_all
    obtain rfl : b2 = false := by cases b2 <;> simp_all
    clear HC hO k
    simp only [FV]
    by_cases k1 : c = 0
    · subst k1
      by_cases k2 : ts.length = 1
      · obtain ⟨t, rfl⟩ : ∃ t, ts = [t] := by
          rcases ts with _ | ⟨t, _ | ⟨u, r⟩⟩
          · simp at k2
          · exact ⟨t, rfl⟩
          · simp at k2
        obtain ⟨g, cap, hv, hc1, hc2⟩ := OL.open hL 0 (by simp)
        simp only [Value.slice.injEq] at hv
        obtain ⟨rfl, -, rfl⟩ := hv
        obtain ⟨x0, x1, x2⟩ := hL.at 0 _ rfl
        have hgl := OL.lt hL (b := g) rfl
        simp only [List.length_cons, List.length_nil, Nat.zero_mul, Nat.zero_add] at *
        clear hL k2
        go_wp2_with (first | (go_at_call 15; refine (HN.out _).mono ?_; rintro e w' ⟨rfl, rfl⟩) | (go_at_call 13; refine (HW.out _).mono ?_; rintro e w' ⟨rfl, rfl⟩))
        all_goals
          go_ret
          exact ⟨rfl, HB6.out⟩
      · have k2I : ((ts.length : Int) == 1) = false := by rw [beq_eq_false_iff_ne]; omega
        clear hL k2
        go_wp2_with (first | (go_at_call 15; refine (HN.out _).mono ?_; rintro e w' ⟨rfl, rfl⟩) | (go_at_call 13; refine (HW.out _).mono ?_; rintro e w' ⟨rfl, rfl⟩))
        go_ret
        exact ⟨rfl, HB6.out⟩
    · have k1I : ((c : Int) == 0) = false := by rw [beq_eq_false_iff_ne]; omega
      clear hL k1
      go_wp2_with (first | (go_at_call 15; refine (HN.out _).mono ?_; rintro e w' ⟨rfl, rfl⟩) | (go_at_call 13; refine (HW.out _).mono ?_; rintro e w' ⟨rfl, rfl⟩))
      go_ret
      exact ⟨rfl, HB6.out⟩
end Lex
end Go.Proofs.Ytdlkjafdnaadgaa
