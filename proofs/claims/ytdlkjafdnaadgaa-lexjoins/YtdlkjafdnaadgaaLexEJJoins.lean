/- Signs and one token. No statement of the seat is proved here. -/
import Derived.Test.YtdlkjafdnaadgaaLexDJJoins
import Derived.Test.YtdlkjafdnaadgaaBaseJJoins
namespace Go.Proofs.Ytdlkjafdnaadgaa
open Go.RowKit
set_option linter.unusedVariables false
set_option linter.unusedSimpArgs false
namespace Lex

theorem hide {p : Prop} (h : p) : Hid p := h

theorem index_mem (c : UInt8) : ∀ l : List UInt8, (c ∈ l → 0 ≤ Lib.indexByte l c) ∧ (c ∉ l → Lib.indexByte l c = -1)
  | [] => by simp [Lib.indexByte]
  | d :: r => by
    obtain ⟨i1, i2⟩ := index_mem c r
    by_cases h : d = c
    · subst h; simp [Lib.indexByte]
    · have h' : ¬ c = d := fun k => h k.symm
      simp only [Lib.indexByte, beq_iff_eq, h, if_false, List.mem_cons, h', false_or]
      refine ⟨fun k => ?_, fun k => ?_⟩
      · have := i1 k
        rw [if_neg (by omega)]; omega
      · rw [if_pos (i2 k)]
theorem oneSign (c : UInt8) (w : World) :
    Calls Try.prog 44 #[.string ⟨#[40, 41, 123, 125, 91, 93, 44, 59, 58, 46, 61, 60, 62, 43, 45, 42, 47, 37, 33, 124, 63]⟩, .int .u8 (c.toNat : Int)] w
      fun e w' => ∃ z : Int, e = .returned (.int .i64 z) ∧ (c ∈ ones → 0 ≤ z) ∧ (c ∉ ones → z = -1) ∧ w' = w := by
  refine (Try.strings_IndexByte _ _ w).mono ?_
  rintro e w' ⟨rfl, rfl⟩
  have e1 : ((c.toNat : Int)).toNat.toUInt8 = c := by simp
  rw [e1]
  exact ⟨_, rfl, (index_mem c ones).1, (index_mem c ones).2, rfl⟩
theorem sgn_cons (c : UInt8) (r : List UInt8) : sgn (c :: r) = if (c :: r).take 2 ∈ twos then 2 else if c ∈ ones then 1 else 0 := by
  unfold sgn
  by_cases h : (c :: r).take 2 ∈ twos
  · rw [if_pos h, if_pos h]
  · rw [if_neg h, if_neg h]
    by_cases h2 : c ∈ ones
    · rw [if_pos ⟨c, rfl, h2⟩, if_pos h2]
    · rw [if_neg (by simpa using h2), if_neg h2]
theorem take2_short {s : ByteArray} (h : s.size < 2) : ¬ (bs s).take 2 ∈ twos := by
  intro k
  have h1 : ((bs s).take 2).length < 2 := by rw [List.length_take, bs_length]; omega
  generalize (bs s).take 2 = u at k h1
  simp only [twos, List.mem_cons, List.not_mem_nil, or_false] at k
  rcases k with rfl | rfl | rfl | rfl | rfl | rfl | rfl <;> simp at h1
theorem sgn_at (s : ByteArray) (h : 0 < s.size) : sgn (bs s) = if (bs s).take 2 ∈ twos then 2 else if (s[0]'h) ∈ ones then 1 else 0 := by
  have := bs_drop s 0 h
  rw [List.drop_zero] at this
  rw [this]; exact sgn_cons _ _

set_option maxHeartbeats 1000000 in
theorem signSize_any (s : ByteArray) (w : World) (h : 0 < s.size) (hs : s.size ≤ 9223372036854775807) :
    Calls Try.prog 40 #[.string s] w fun e w' => e = .returned (.int .i64 (sgn (bs s) : Int)) ∧ w' = w := by
  have hx : bs (s.extract 0 2) = (bs s).take 2 := by rw [bs_extract s 0 2 (by omega)]; simp
  rw [sgn_at s h]
  by_cases h2 : 2 ≤ s.size
  · by_cases c1 : (bs s).take 2 ∈ twos
    · rw [if_pos c1]
      rw [← hx] at c1
      have hb := decide_eq_true c1
      clear c1 hx
      go_enter Try.func40, Try.ntmps40
      go_wp2_with (go_at_call 45; refine (isLongSign_any _ _).mono ?_; rintro e w' ⟨rfl, rfl⟩; rw [hb])
      go_ret
      exact ⟨rfl, rfl⟩
    · rw [if_neg c1]
      rw [← hx] at c1
      have hb := decide_eq_false c1
      clear c1 hx
      by_cases c2 : (s[0]'h) ∈ ones
      · rw [if_pos c2]
        go_enter Try.func40, Try.ntmps40
        go_wp2_with (first | (go_at_call 45; refine (isLongSign_any _ _).mono ?_; rintro e w' ⟨rfl, rfl⟩; rw [hb]) | (go_at_call 44; refine (oneSign _ _).mono ?_; rintro e w' ⟨z, rfl, hz, -, rfl⟩; have hz0 := hz c2; clear hz))
        go_ret
        exact ⟨rfl, rfl⟩
      · rw [if_neg c2]
        go_enter Try.func40, Try.ntmps40
        go_wp2_with (first | (go_at_call 45; refine (isLongSign_any _ _).mono ?_; rintro e w' ⟨rfl, rfl⟩; rw [hb]) | (go_at_call 44; refine (oneSign _ _).mono ?_; rintro e w' ⟨z, rfl, -, hz, rfl⟩; obtain rfl := hz c2; clear hz))
        go_ret
        exact ⟨rfl, rfl⟩
  · rw [if_neg (take2_short (by omega))]
    by_cases c2 : (s[0]'h) ∈ ones
    · rw [if_pos c2]
      go_enter Try.func40, Try.ntmps40
      go_wp2_with (go_at_call 44; refine (oneSign _ _).mono ?_; rintro e w' ⟨z, rfl, hz, -, rfl⟩; have hz0 := hz c2; clear hz)
      go_ret
      exact ⟨rfl, rfl⟩
    · rw [if_neg c2]
      go_enter Try.func40, Try.ntmps40
      go_wp2_with (go_at_call 44; refine (oneSign _ _).mono ?_; rintro e w' ⟨z, rfl, -, hz, rfl⟩; obtain rfl := hz c2; clear hz)
      go_ret
      exact ⟨rfl, rfl⟩

/-- What scan answers. -/
def ScEnd (r : R) (p : Nat) (e : Ending) : Prop := match r with
  | .ok k n => e = .returned (.tuple #[.int .i64 (k : Int), .int .i64 ((p + n : Nat) : Int), FV 0 0])
  | .bad c a => ∃ x y : Int, e = .returned (.tuple #[.int .i64 x, .int .i64 y, FV c (p + a)])
set_option maxHeartbeats 2000000 in
theorem scan_any (s : ByteArray) (p : Nat) (w : World) (hp : p < s.size) (hs : s.size ≤ 9223372036854775807) :
    Calls Try.prog 19 #[.string s, .int .i64 (p : Int)] w fun e w' => ScEnd (tk ((bs s).drop p)) p e ∧ Below w.heap.size w w' := by
  have hx := bs_drop s p hp
  have hp' : p ≤ s.size := by omega
  have hW := tw_le isLD ((bs s).drop p)
  have hN := tw_le isD ((bs s).drop p)
  change spW _ ≤ _ at hW; change spN _ ≤ _ at hN
  rw [List.length_drop, bs_length] at hW hN
  by_cases c1 : isL (s[p]'hp) = true
  · have hK : tk ((bs s).drop p) = if 40 < spW ((bs s).drop p) then .bad 2 0 else .ok 1 (spW ((bs s).drop p)) := by
      rw [hx]; simp [tk, c1]
    rw [hK]
    have HW := hide <| wordEnd_any s p
    generalize spW ((bs s).drop p) = n at hW HW ⊢
    clear hK hx hN
    have HF : Hid (∀ w : World, Calls Try.prog 36 #[.int .i64 (p : Int), .int .i64 ((p + n : Nat) : Int)] w fun e w' => e = .returned (if 40 < n then FV 2 p else FV 0 0) ∧ Below w.heap.size w w') := by
      intro w
      have := wordFault_any p (p + n) w (by omega) (by omega)
      rwa [show p + n - p = n by omega] at this
    by_cases h40 : 40 < n
    · rw [if_pos h40] at HF ⊢
      go_enter Try.func19, Try.ntmps19
      go_wp2_with (first | (go_at_call 27; refine (isLetter_any _ _).mono ?_; rintro e w' ⟨rfl, rfl⟩; rw [c1]) | (go_at_call 28; refine (HW.out _ hp' hs).mono ?_; rintro e w' ⟨rfl, rfl⟩) | (go_at_call 36; refine (HF.out _).mono ?_; rintro e w1 ⟨rfl, hb⟩; have hb0 := (show Below w.heap.size w (w.alloc (.cells #[.int .i64 0, .int .i64 0] 26 (0, 0))) by go_grown).step hb (by simp); obtain ⟨r0, r1, q0, q1⟩ := ((Blk.new w 26 #[.int .i64 0, .int .i64 0]).stay hb).two; clear hb; simp only [FV]))
      refine bodyPost_ret (v := .tuple #[.int .i64 1, .int .i64 ((p + n : Nat) : Int), FV 2 p]) (by simp [results, Try.results19, go_sem, FV, r0, r1]) rfl ?_
      refine ⟨⟨_, _, rfl⟩, ?_⟩
      exact below_store2 hb0 (Nat.le_refl _) _ _
    · rw [if_neg h40] at HF ⊢
      go_enter Try.func19, Try.ntmps19
      go_wp2_with (first | (go_at_call 27; refine (isLetter_any _ _).mono ?_; rintro e w' ⟨rfl, rfl⟩; rw [c1]) | (go_at_call 28; refine (HW.out _ hp' hs).mono ?_; rintro e w' ⟨rfl, rfl⟩) | (go_at_call 36; refine (HF.out _).mono ?_; rintro e w1 ⟨rfl, hb⟩; have hb0 := (show Below w.heap.size w (w.alloc (.cells #[.int .i64 0, .int .i64 0] 26 (0, 0))) by go_grown).step hb (by simp); obtain ⟨r0, r1, q0, q1⟩ := ((Blk.new w 26 #[.int .i64 0, .int .i64 0]).stay hb).two; clear hb; simp only [FV]))
      refine bodyPost_ret (v := .tuple #[.int .i64 1, .int .i64 ((p + n : Nat) : Int), FV 0 0]) (by simp [results, Try.results19, go_sem, FV, r0, r1]) rfl ?_
      refine ⟨rfl, ?_⟩
      exact below_store2 hb0 (Nat.le_refl _) _ _
  · have c1' : isL (s[p]'hp) = false := by simpa using c1
    clear c1
    by_cases c2 : isD (s[p]'hp) = true
    · have hK : tk ((bs s).drop p) = if 300 < spN ((bs s).drop p) then .bad 2 0 else if (s[p]'hp).toNat = 48 ∧ 1 < spN ((bs s).drop p) then .bad 10 0 else if hdL (((bs s).drop p).drop (spN ((bs s).drop p))) then .bad 100 (spN ((bs s).drop p)) else .ok 2 (spN ((bs s).drop p)) := by
        rw [hx]; simp [tk, c1', c2]
      rw [hK, List.drop_drop]
      have HN := hide <| numberEnd_any s p
      generalize spN ((bs s).drop p) = n at hN HN ⊢
      clear hK hx hW
      have HF := hide <| fun w => numberFault_any s p n w hp (by omega) hs
      obtain ⟨r, hr⟩ : ∃ r : R, Hid ((if 300 < n then R.bad 2 0 else if (s[p]'hp).toNat = 48 ∧ 1 < n then .bad 10 0 else if hdL ((bs s).drop (p + n)) then .bad 100 n else .ok 2 n) = r) := ⟨_, rfl⟩
      have hr' := hr.out
      rw [hr']
      clear hr'
      obtain ⟨c, a, HF2, hE⟩ : ∃ c a : Nat, Hid (∀ w : World, Calls Try.prog 39 #[.string s, .int .i64 (p : Int), .int .i64 ((p + n : Nat) : Int)] w fun e w' => e = .returned (FV c a) ∧ Below w.heap.size w w') ∧ Hid (ScEnd r p (.returned (.tuple #[.int .i64 2, .int .i64 ((p + n : Nat) : Int), FV c a]))) := by
        have hF := HF.out
        have h0 := hr.out
        by_cases h1 : 300 < n
        · rw [if_pos h1] at h0; simp only [if_pos h1] at hF
          exact ⟨2, p, hF, by subst h0; exact ⟨_, _, rfl⟩⟩
        · rw [if_neg h1] at h0; simp only [if_neg h1] at hF
          by_cases h2 : (s[p]'hp).toNat = 48 ∧ 1 < n
          · rw [if_pos h2] at h0; simp only [if_pos h2] at hF
            exact ⟨10, p, hF, by subst h0; exact ⟨_, _, rfl⟩⟩
          · rw [if_neg h2] at h0; simp only [if_neg h2] at hF
            by_cases h3 : hdL ((bs s).drop (p + n)) = true
            · rw [if_pos h3] at h0; simp only [if_pos h3] at hF
              exact ⟨100, p + n, hF, by subst h0; exact ⟨_, _, rfl⟩⟩
            · rw [if_neg h3] at h0; simp only [if_neg h3] at hF
              exact ⟨0, 0, hF, by subst h0; exact (rfl : _ = _)⟩
      clear HF hr
      go_enter Try.func19, Try.ntmps19
      go_wp2_with (first | (go_at_call 27; refine (isLetter_any _ _).mono ?_; rintro e w' ⟨rfl, rfl⟩; rw [c1']) | (go_at_call 37; refine (isDigit_any _ _).mono ?_; rintro e w' ⟨rfl, rfl⟩; rw [c2]) | (go_at_call 38; refine (HN.out _ hp' hs).mono ?_; rintro e w' ⟨rfl, rfl⟩) | (go_at_call 39; refine (HF2.out _).mono ?_; rintro e w1 ⟨rfl, hb⟩; have hb0 := (show Below w.heap.size w (w.alloc (.cells #[.int .i64 0, .int .i64 0] 26 (0, 0))) by go_grown).step hb (by simp); obtain ⟨r0, r1, q0, q1⟩ := ((Blk.new w 26 #[.int .i64 0, .int .i64 0]).stay hb).two; clear hb; simp only [FV]))
      refine bodyPost_ret (v := .tuple #[.int .i64 2, .int .i64 ((p + n : Nat) : Int), FV c a]) (by simp [results, Try.results19, go_sem, FV, r0, r1]) rfl ?_
      refine ⟨hE.out, ?_⟩
      exact below_store2 hb0 (Nat.le_refl _) _ _
    · have c2' : isD (s[p]'hp) = false := by simpa using c2
      clear c2
      have hK : tk ((bs s).drop p) = if sgn ((bs s).drop p) = 0 then .bad 100 0 else .ok 3 (sgn ((bs s).drop p)) := by
        rw [hx]; simp [tk, c1', c2']
      have hG := sgn_le ((bs s).drop p)
      rw [List.length_drop, bs_length] at hG
      have hd : bs (s.extract p s.size) = (bs s).drop p := ext_drop s p hp'
      have hz : (s.extract p s.size).size = s.size - p := by rw [← bs_length, hd, List.length_drop, bs_length]
      have HS := hide <| fun w => signSize_any (s.extract p s.size) w (by rw [hz]; omega) (by rw [hz]; omega)
      rw [hd] at HS
      rw [hK]
      generalize sgn ((bs s).drop p) = n at hG HS ⊢
      clear hK hx hW hN hd hz
      by_cases h0 : n = 0
      · subst h0
        rw [if_pos rfl]
        go_enter Try.func19, Try.ntmps19
        go_wp2_with (first | (go_at_call 27; refine (isLetter_any _ _).mono ?_; rintro e w' ⟨rfl, rfl⟩; rw [c1']) | (go_at_call 37; refine (isDigit_any _ _).mono ?_; rintro e w' ⟨rfl, rfl⟩; rw [c2']) | (go_at_call 40; refine (HS.out _).mono ?_; rintro e w' ⟨rfl, rfl⟩))
        refine bodyPost_ret (v := .tuple #[.int .i64 0, .int .i64 0, FV 100 p]) (by simp [results, Try.results19, go_sem, FV]) rfl ?_
        refine ⟨⟨_, _, rfl⟩, ?_⟩
        go_grown
      · rw [if_neg h0]
        have h0' : ((n : Int) == 0) = false := by rw [beq_eq_false_iff_ne]; omega
        clear h0
        go_enter Try.func19, Try.ntmps19
        go_wp2_with (first | (go_at_call 27; refine (isLetter_any _ _).mono ?_; rintro e w' ⟨rfl, rfl⟩; rw [c1']) | (go_at_call 37; refine (isDigit_any _ _).mono ?_; rintro e w' ⟨rfl, rfl⟩; rw [c2']) | (go_at_call 40; refine (HS.out _).mono ?_; rintro e w' ⟨rfl, rfl⟩))
        refine bodyPost_ret (v := .tuple #[.int .i64 3, .int .i64 ((p + n : Nat) : Int), FV 0 0]) (by simp [results, Try.results19, go_sem, FV]) rfl ?_
        refine ⟨rfl, ?_⟩
        go_grown
end Lex
end Go.Proofs.Ytdlkjafdnaadgaa
