/- Words with a meaning of their own, the document's signs, names. No statement of the seat is proved here. -/
import Derived.Test.YtdlkjafdnaadgaaLexHJLong
namespace Go.Proofs.Ytdlkjafdnaadgaa
open Go.RowKit
set_option linter.unusedVariables false
set_option linter.unusedSimpArgs false
namespace Lex
open Euf (OL App Stop wpList_push)

def words : List (List UInt8) := [[99, 108, 97, 115, 115],
  [105, 110, 116, 101, 114, 102, 97, 99, 101],
  [101, 120, 116, 101, 110, 100, 115],
  [105, 109, 112, 108, 101, 109, 101, 110, 116, 115],
  [102, 105, 110, 97, 108],
  [118, 97, 114],
  [105, 110, 118, 97, 114, 105, 97, 110, 116],
  [110, 101, 119],
  [115, 117, 112, 101, 114],
  [100, 101, 102],
  [118, 111, 105, 100],
  [105, 110, 116],
  [98, 111, 111, 108],
  [108, 101, 116],
  [105, 102],
  [101, 108, 115, 101],
  [119, 104, 105, 108, 101],
  [114, 101, 116, 117, 114, 110],
  [97, 115, 115, 101, 114, 116],
  [112, 114, 105, 110, 116],
  [116, 114, 117, 101],
  [102, 97, 108, 115, 101],
  [110, 117, 108, 108],
  [116, 104, 105, 115],
  [108, 105, 115, 116],
  [108, 101, 110],
  [114, 101, 97, 100],
  [109, 97, 105, 110]]
set_option maxHeartbeats 4000000 in
theorem isWord_any (s : ByteArray) (w : World) :
    Calls Try.prog 13 #[.string s] w fun e w' => e = .returned (.bool (decide (bs s ∈ words))) ∧ w' = w := by
  by_cases h : bs s ∈ words
  · rw [decide_eq_true h]
    have hs := tx_bs s
    simp only [words, List.mem_cons, List.not_mem_nil, or_false] at h
    rcases h with h | h | h | h | h | h | h | h | h | h | h | h | h | h | h | h | h | h | h | h | h | h | h | h | h | h | h | h <;>
    · rw [h] at hs
      subst hs
      go_enter Try.func13, Try.ntmps13
      simp only [tx]
      go_wp2
      go_ret
      exact ⟨rfl, rfl⟩
  · rw [decide_eq_false h]
    have hne : ∀ x : List UInt8, x ∈ words → (s.toList == x) = false := fun x hx => by
      rw [eqT, decide_eq_false]; intro e; exact h (by rw [e]; exact hx)
    have h0 := hne [99, 108, 97, 115, 115] (by decide)
    have h1 := hne [105, 110, 116, 101, 114, 102, 97, 99, 101] (by decide)
    have h2 := hne [101, 120, 116, 101, 110, 100, 115] (by decide)
    have h3 := hne [105, 109, 112, 108, 101, 109, 101, 110, 116, 115] (by decide)
    have h4 := hne [102, 105, 110, 97, 108] (by decide)
    have h5 := hne [118, 97, 114] (by decide)
    have h6 := hne [105, 110, 118, 97, 114, 105, 97, 110, 116] (by decide)
    have h7 := hne [110, 101, 119] (by decide)
    have h8 := hne [115, 117, 112, 101, 114] (by decide)
    have h9 := hne [100, 101, 102] (by decide)
    have h10 := hne [118, 111, 105, 100] (by decide)
    have h11 := hne [105, 110, 116] (by decide)
    have h12 := hne [98, 111, 111, 108] (by decide)
    have h13 := hne [108, 101, 116] (by decide)
    have h14 := hne [105, 102] (by decide)
    have h15 := hne [101, 108, 115, 101] (by decide)
    have h16 := hne [119, 104, 105, 108, 101] (by decide)
    have h17 := hne [114, 101, 116, 117, 114, 110] (by decide)
    have h18 := hne [97, 115, 115, 101, 114, 116] (by decide)
    have h19 := hne [112, 114, 105, 110, 116] (by decide)
    have h20 := hne [116, 114, 117, 101] (by decide)
    have h21 := hne [102, 97, 108, 115, 101] (by decide)
    have h22 := hne [110, 117, 108, 108] (by decide)
    have h23 := hne [116, 104, 105, 115] (by decide)
    have h24 := hne [108, 105, 115, 116] (by decide)
    have h25 := hne [108, 101, 110] (by decide)
    have h26 := hne [114, 101, 97, 100] (by decide)
    have h27 := hne [109, 97, 105, 110] (by decide)
    clear h hne
    go_enter Try.func13, Try.ntmps13
    go_wp2
    go_ret
    exact ⟨rfl, rfl⟩

def onesL : List (List UInt8) := ones.map fun c => [c]
theorem SL.stay {w w' : World} {v : Value} {xs : List (List UInt8)} (h : SL w v xs) (hb : Below w.heap.size w w') : SL w' v xs := OL.stay h fun b k => hb.block b (OL.lt h k)
theorem sgn_is (s : ByteArray) (p : Nat) (hp : p < s.size) : sgn ((bs s).drop p) = if p + 2 ≤ s.size ∧ bs (s.extract p (p + 2)) ∈ twos then 2 else if bs (s.extract p (p + 1)) ∈ onesL then 1 else 0 := by
  have e1 : bs (s.extract p (p + 1)) = [s[p]'hp] := by
    rw [bs_extract s p (p + 1) (by omega), bs_drop s p hp, show p + 1 - p = 1 by omega]; rfl
  have e2 : bs (s.extract p (p + 2)) = ((bs s).drop p).take 2 := by
    rw [bs_extract s p (p + 2) (by omega), show p + 2 - p = 2 by omega]
  rw [e1, e2]
  have e3 : ([s[p]'hp] ∈ onesL) ↔ (s[p]'hp) ∈ ones := by simp [onesL]
  have e4 : (p + 2 ≤ s.size ∧ ((bs s).drop p).take 2 ∈ twos) ↔ ((bs s).drop p).take 2 ∈ twos := by
    refine ⟨fun h => h.2, fun h => ⟨?_, h⟩⟩
    have h1 : (((bs s).drop p).take 2).length = 2 := by
      generalize ((bs s).drop p).take 2 = u at h
      simp only [twos, List.mem_cons, List.not_mem_nil, or_false] at h
      rcases h with rfl | rfl | rfl | rfl | rfl | rfl | rfl <;> rfl
    rw [List.length_take, List.length_drop, bs_length] at h1
    omega
  have h5 := bs_drop s p hp
  have h6 := sgn_cons (s[p]'hp) ((bs s).drop (p + 1))
  rw [← h5] at h6
  rw [h6]
  by_cases c1 : ((bs s).drop p).take 2 ∈ twos
  · rw [if_pos c1, if_pos (e4.2 c1)]
  · rw [if_neg c1, if_neg (show ¬ (p + 2 ≤ s.size ∧ ((bs s).drop p).take 2 ∈ twos) from fun k => c1 k.2)]
    by_cases c2 : (s[p]'hp) ∈ ones
    · rw [if_pos c2, if_pos (e3.2 c2)]
    · rw [if_neg c2, if_neg (fun k => c2 (e3.1 k))]
set_option maxHeartbeats 2000000 in
theorem sign_any (s : ByteArray) (p : Nat) (w : World) (hp : p < s.size) (hs : s.size ≤ 9223372036854770000) :
    Calls Try.prog 24 #[.string s, .int .i64 (p : Int)] w fun e w' => e = .returned (.int .i64 (sgn ((bs s).drop p) : Int)) ∧ Below w.heap.size w w' := by
  rw [sgn_is s p hp]
  have A1 := SL.new w twos (by decide)
  obtain ⟨w1, hw1⟩ : ∃ w1, w1 = w.alloc (.cells (twos.map fun x => Value.string (tx x)).toArray 9 (0, 0)) := ⟨_, rfl⟩
  have hb1 : Below w.heap.size w w1 := by rw [hw1]; go_grown
  have A2 := SL.new w1 onesL (by decide)
  obtain ⟨w2, hw2⟩ : ∃ w2, w2 = w1.alloc (.cells (onesL.map fun x => Value.string (tx x)).toArray 9 (0, 0)) := ⟨_, rfl⟩
  have hb2 : Below w1.heap.size w1 w2 := by rw [hw2]; go_grown
  rw [← hw1] at A1
  rw [← hw2] at A2
  have B1 : Hid (∀ t : ByteArray, Calls Try.prog 25 #[.slice (some ⟨w.heap.size, 0, none⟩) 7 7, .string t] w2 fun e w' => e = .returned (.bool (decide (bs t ∈ twos))) ∧ w' = w2) := fun t => in_any _ twos t w2 (A1.stay hb2)
  have hsz : w1.heap.size = w.heap.size + 1 := by rw [hw1]; simp
  rw [hsz] at A2
  have B2 : Hid (∀ t : ByteArray, Calls Try.prog 25 #[.slice (some ⟨w.heap.size + 1, 0, none⟩) 21 21, .string t] w2 fun e w' => e = .returned (.bool (decide (bs t ∈ onesL))) ∧ w' = w2) := fun t => in_any _ onesL t w2 A2
  have HB := hide (hb1.step hb2 (Nat.le_refl _))
  clear A1 A2 hb1 hb2
  have hwx : ((w.alloc (.cells (twos.map fun x => Value.string (tx x)).toArray 9 (0, 0))).alloc (.cells (onesL.map fun x => Value.string (tx x)).toArray 9 (0, 0))) = w2 := by rw [hw2, hw1]
  clear hw1 hw2 hsz
  simp only [twos, onesL, ones, List.map_cons, List.map_nil, tx] at hwx
  by_cases c0 : p + 2 ≤ s.size
  · have c0I : (p : Int) + 2 ≤ (s.size : Int) := by omega
    by_cases c1 : bs (s.extract p (p + 2)) ∈ twos
    · rw [if_pos ⟨c0, c1⟩]
      have hb := decide_eq_true c1
      clear c1
      go_enter Try.func24, Try.ntmps24
      go_wp2_with fail
      refine (B1.out _).mono ?_
      rintro e w' ⟨rfl, rfl⟩
      rw [hb]
      go_wp2
      go_ret
      exact ⟨rfl, HB.out⟩
    · rw [if_neg (show ¬ (p + 2 ≤ s.size ∧ bs (s.extract p (p + 2)) ∈ twos) from fun k => c1 k.2)]
      have hb := decide_eq_false c1
      clear c1
      by_cases c2 : bs (s.extract p (p + 1)) ∈ onesL
      · rw [if_pos c2]
        have hb2 := decide_eq_true c2
        clear c2
        go_enter Try.func24, Try.ntmps24
        go_wp2_with fail
        refine (B1.out _).mono ?_
        rintro e w' ⟨rfl, rfl⟩
        rw [hb]
        go_wp2_with fail
        refine (B2.out _).mono ?_
        rintro e w' ⟨rfl, rfl⟩
        rw [hb2]
        go_wp2
        go_ret
        exact ⟨rfl, HB.out⟩
      · rw [if_neg c2]
        have hb2 := decide_eq_false c2
        clear c2
        go_enter Try.func24, Try.ntmps24
        go_wp2_with fail
        refine (B1.out _).mono ?_
        rintro e w' ⟨rfl, rfl⟩
        rw [hb]
        go_wp2_with fail
        refine (B2.out _).mono ?_
        rintro e w' ⟨rfl, rfl⟩
        rw [hb2]
        go_wp2
        go_ret
        exact ⟨rfl, HB.out⟩
  · have c0I : ¬ ((p : Int) + 2 ≤ (s.size : Int)) := by omega
    rw [if_neg (show ¬ (p + 2 ≤ s.size ∧ bs (s.extract p (p + 2)) ∈ twos) from fun k => c0 k.1)]
    by_cases c2 : bs (s.extract p (p + 1)) ∈ onesL
    · rw [if_pos c2]
      have hb2 := decide_eq_true c2
      clear c2
      go_enter Try.func24, Try.ntmps24
      go_wp2_with fail
      refine (B2.out _).mono ?_
      rintro e w' ⟨rfl, rfl⟩
      rw [hb2]
      go_wp2
      go_ret
      exact ⟨rfl, HB.out⟩
    · rw [if_neg c2]
      have hb2 := decide_eq_false c2
      clear c2
      go_enter Try.func24, Try.ntmps24
      go_wp2_with fail
      refine (B2.out _).mono ?_
      rintro e w' ⟨rfl, rfl⟩
      rw [hb2]
      go_wp2
      go_ret
      exact ⟨rfl, HB.out⟩

/-- A name. -/
def IsNm (s : List UInt8) : Prop := s ≠ [] ∧ s.length ≤ 40 ∧ hdL s = true ∧ s.all isLD = true ∧ s ∉ words
instance (s : List UInt8) : Decidable (IsNm s) := by unfold IsNm; exact inferInstance
theorem spW_all (l : List UInt8) : spW l = l.length ↔ l.all isLD = true := by
  induction l with
  | nil => simp [spW]
  | cons c r ih =>
    by_cases h : isLD c = true
    · rw [spW_cons h, List.length_cons, List.all_cons, h, Bool.true_and, ← ih]; omega
    · rw [spW_stop (by simpa using h)]; simp [h]
set_option maxHeartbeats 2000000 in
theorem isName_any (s : ByteArray) (w : World) (hs : s.size ≤ 9223372036854775807) :
    Calls Try.prog 15 #[.string s] w fun e w' => e = .returned (.bool (decide (IsNm (bs s)))) ∧ w' = w := by
  obtain ⟨B, hB⟩ : ∃ B : Bool, Hid (decide (IsNm (bs s)) = B) := ⟨_, rfl⟩
  have hB' := hB.out
  rw [hB']
  clear hB'
  have hq := eqT s []
  by_cases h0 : 0 < s.size
  · have hx := bs_drop s 0 h0
    rw [List.drop_zero] at hx
    have hne : bs s ≠ [] := by rw [hx]; simp
    rw [decide_eq_false hne] at hq
    have hhd : hdL (bs s) = isL (s[0]'h0) := by rw [hx]; rfl
    by_cases c1 : isL (s[0]'h0) = true
    · have HW := hide <| fun w => wordEnd_any s 0 w (Nat.zero_le _) hs
      rw [List.drop_zero, Nat.zero_add] at HW
      have hspl := spW_all (bs s)
      rw [bs_length] at hspl
      by_cases c2 : spW (bs s) = s.size
      · have hall := hspl.1 c2
        rw [c2] at HW
        by_cases c3 : s.size ≤ 40
        · have hwd : (!decide (bs s ∈ words)) = B := by
            rw [← hB.out]
            by_cases k : bs s ∈ words
            · rw [decide_eq_true k, decide_eq_false (fun q => q.2.2.2.2 k)]; rfl
            · rw [decide_eq_false k, decide_eq_true ⟨hne, by rw [bs_length]; exact c3, by rw [hhd, c1], hall, k⟩]; rfl
          have HD := hide hwd
          clear hwd hall hspl hx hne hhd c2 hB
          go_enter Try.func15, Try.ntmps15
          go_wp2_with (first | (go_at_call 27; refine (isLetter_any _ _).mono ?_; rintro e w' ⟨rfl, rfl⟩; rw [c1]) | (go_at_call 28; refine (HW.out _).mono ?_; rintro e w' ⟨rfl, rfl⟩) | (go_at_call 13; refine (isWord_any _ _).mono ?_; rintro e w' ⟨rfl, rfl⟩))
          go_ret
          exact ⟨by rw [← HD.out]; rfl, rfl⟩
        · have hb : Hid (false = B) := by rw [← hB.out]; exact (decide_eq_false (fun q => c3 (by have := q.2.1; rwa [bs_length] at this))).symm
          clear hall hspl hx hne hhd c2 hB
          go_enter Try.func15, Try.ntmps15
          go_wp2_with (first | (go_at_call 27; refine (isLetter_any _ _).mono ?_; rintro e w' ⟨rfl, rfl⟩; rw [c1]) | (go_at_call 28; refine (HW.out _).mono ?_; rintro e w' ⟨rfl, rfl⟩) | (go_at_call 13; refine (isWord_any _ _).mono ?_; rintro e w' ⟨rfl, rfl⟩))
          go_ret
          exact ⟨by rw [← hb.out]; rfl, rfl⟩
      · have hb : Hid (false = B) := by rw [← hB.out]; exact (decide_eq_false (fun q => c2 (hspl.2 q.2.2.2.1))).symm
        have c2' : (((spW (bs s) : Nat) : Int) == (s.size : Int)) = false := by rw [beq_eq_false_iff_ne]; omega
        generalize spW (bs s) = n at HW c2'
        clear hspl hx hne hhd c2 hB
        go_enter Try.func15, Try.ntmps15
        go_wp2_with (first | (go_at_call 27; refine (isLetter_any _ _).mono ?_; rintro e w' ⟨rfl, rfl⟩; rw [c1]) | (go_at_call 28; refine (HW.out _).mono ?_; rintro e w' ⟨rfl, rfl⟩) | (go_at_call 13; refine (isWord_any _ _).mono ?_; rintro e w' ⟨rfl, rfl⟩))
        go_ret
        exact ⟨by rw [← hb.out]; rfl, rfl⟩
    · have c1' : isL (s[0]'h0) = false := by simpa using c1
      have hb : Hid (false = B) := by rw [← hB.out]; exact (decide_eq_false (fun q => by have := q.2.2.1; rw [hhd, c1'] at this; cases this)).symm
      clear hx hne hhd c1 hB
      go_enter Try.func15, Try.ntmps15
      go_wp2_with (go_at_call 27; refine (isLetter_any _ _).mono ?_; rintro e w' ⟨rfl, rfl⟩; rw [c1'])
      go_ret
      exact ⟨by rw [← hb.out]; rfl, rfl⟩
  · have he : bs s = [] := by apply List.eq_nil_of_length_eq_zero; rw [bs_length]; omega
    rw [decide_eq_true he] at hq
    have hb : Hid (false = B) := by rw [← hB.out]; exact (decide_eq_false (fun q => q.1 he)).symm
    clear he hB
    go_enter Try.func15, Try.ntmps15
    go_wp2
    go_ret
    exact ⟨by rw [← hb.out]; rfl, rfl⟩
end Lex
end Go.Proofs.Ytdlkjafdnaadgaa
