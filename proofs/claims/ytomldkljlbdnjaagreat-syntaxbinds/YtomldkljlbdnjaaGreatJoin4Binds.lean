/- Joined: LexG, LexH, LexI, SatH: words and contracts; no statement of the seat is proved here. -/
import Derived.Test.YtomldkljlbdnjaaGreatJoin3Binds
import Derived.Test.YtomldkljlbdnjaaGreatChecked
/- The document's small functions: a list of texts, spans, what is passed over, signs. No statement of the seat is proved here. -/
namespace Go.Proofs.YtomldkljlbdnjaaGreat
open Go.RowKit
set_option linter.unusedVariables false
set_option linter.unusedSimpArgs false
namespace Lex
open Euf (OL App Stop wpList_push)

theorem kd1 {c : UInt8} (h : isL c = true) : kd c = 1 := by simp [kd, h]
/-- A list of texts. -/
def sC (xs : List (List UInt8)) (i : Nat) : List Value := [.string (tx (xs.getD i []))]
end Lex
end Go.Proofs.YtomldkljlbdnjaaGreat
/- The document's skip, words, signs, names; and names in lex. No statement of the seat is proved here. -/
namespace Go.Proofs.YtomldkljlbdnjaaGreat
open Go.RowKit
set_option linter.unusedVariables false
set_option linter.unusedSimpArgs false
namespace Lex
open Euf (OL App Stop wpList_push)

end Lex
end Go.Proofs.YtomldkljlbdnjaaGreat
/- Words with a meaning of their own, the document's signs, names. No statement of the seat is proved here. -/
namespace Go.Proofs.YtomldkljlbdnjaaGreat
open Go.RowKit
set_option linter.unusedVariables false
set_option linter.unusedSimpArgs false
namespace Lex
open Euf (OL App Stop wpList_push)

def words : List (List UInt8) := [[99, 108, 97, 115, 115],
  [105, 110, 116, 101, 114, 102, 97, 99, 101],
  [101, 120, 116, 101, 110, 100, 115],
  [105, 109, 112, 108, 101, 109, 101, 110, 116, 115],
  [102, 105, 110, 97, 108],
  [118, 97, 114],
  [105, 110, 118, 97, 114, 105, 97, 110, 116],
  [110, 101, 119],
  [115, 117, 112, 101, 114],
  [100, 101, 102],
  [118, 111, 105, 100],
  [105, 110, 116],
  [98, 111, 111, 108],
  [108, 101, 116],
  [105, 102],
  [101, 108, 115, 101],
  [119, 104, 105, 108, 101],
  [114, 101, 116, 117, 114, 110],
  [97, 115, 115, 101, 114, 116],
  [112, 114, 105, 110, 116],
  [116, 114, 117, 101],
  [102, 97, 108, 115, 101],
  [110, 117, 108, 108],
  [116, 104, 105, 115],
  [108, 105, 115, 116],
  [108, 101, 110],
  [114, 101, 97, 100],
  [109, 97, 105, 110]]
set_option maxHeartbeats 4000000 in
theorem isWord_any (s : ByteArray) (w : World) :
    Calls Tryz.prog 54 #[.string s] w fun e w' => e = .returned (.bool (decide (bs s ∈ words))) ∧ w' = w := by
  by_cases h : bs s ∈ words
  · rw [decide_eq_true h]
    have hs := tx_bs s
    simp only [words, List.mem_cons, List.not_mem_nil, or_false] at h
    rcases h with h | h | h | h | h | h | h | h | h | h | h | h | h | h | h | h | h | h | h | h | h | h | h | h | h | h | h | h <;>
    · rw [h] at hs
      subst hs
      go_enter Tryz.func54, Tryz.ntmps54
      simp only [tx]
      go_wp2
      go_ret
      exact ⟨rfl, rfl⟩
  · rw [decide_eq_false h]
    have hne : ∀ x : List UInt8, x ∈ words → (s.toList == x) = false := fun x hx => by
      rw [eqT, decide_eq_false]; intro e; exact h (by rw [e]; exact hx)
    have h0 := hne [99, 108, 97, 115, 115] (by decide)
    have h1 := hne [105, 110, 116, 101, 114, 102, 97, 99, 101] (by decide)
    have h2 := hne [101, 120, 116, 101, 110, 100, 115] (by decide)
    have h3 := hne [105, 109, 112, 108, 101, 109, 101, 110, 116, 115] (by decide)
    have h4 := hne [102, 105, 110, 97, 108] (by decide)
    have h5 := hne [118, 97, 114] (by decide)
    have h6 := hne [105, 110, 118, 97, 114, 105, 97, 110, 116] (by decide)
    have h7 := hne [110, 101, 119] (by decide)
    have h8 := hne [115, 117, 112, 101, 114] (by decide)
    have h9 := hne [100, 101, 102] (by decide)
    have h10 := hne [118, 111, 105, 100] (by decide)
    have h11 := hne [105, 110, 116] (by decide)
    have h12 := hne [98, 111, 111, 108] (by decide)
    have h13 := hne [108, 101, 116] (by decide)
    have h14 := hne [105, 102] (by decide)
    have h15 := hne [101, 108, 115, 101] (by decide)
    have h16 := hne [119, 104, 105, 108, 101] (by decide)
    have h17 := hne [114, 101, 116, 117, 114, 110] (by decide)
    have h18 := hne [97, 115, 115, 101, 114, 116] (by decide)
    have h19 := hne [112, 114, 105, 110, 116] (by decide)
    have h20 := hne [116, 114, 117, 101] (by decide)
    have h21 := hne [102, 97, 108, 115, 101] (by decide)
    have h22 := hne [110, 117, 108, 108] (by decide)
    have h23 := hne [116, 104, 105, 115] (by decide)
    have h24 := hne [108, 105, 115, 116] (by decide)
    have h25 := hne [108, 101, 110] (by decide)
    have h26 := hne [114, 101, 97, 100] (by decide)
    have h27 := hne [109, 97, 105, 110] (by decide)
    clear h hne
    go_enter Tryz.func54, Tryz.ntmps54
    go_wp2
    go_ret
    exact ⟨rfl, rfl⟩

/-- A name. -/
def IsNm (s : List UInt8) : Prop := s ≠ [] ∧ s.length ≤ 40 ∧ hdL s = true ∧ s.all isLD = true ∧ s ∉ words
instance (s : List UInt8) : Decidable (IsNm s) := by unfold IsNm; exact inferInstance
theorem spW_all (l : List UInt8) : spW l = l.length ↔ l.all isLD = true := by
  induction l with
  | nil => simp [spW]
  | cons c r ih =>
    by_cases h : isLD c = true
    · rw [spW_cons h, List.length_cons, List.all_cons, h, Bool.true_and, ← ih]; omega
    · rw [spW_stop (by simpa using h)]; simp [h]
set_option maxHeartbeats 2000000 in
theorem isName_any (s : ByteArray) (w : World) (hs : s.size ≤ 9223372036854775807) :
    Calls Tryz.prog 24 #[.string s] w fun e w' => e = .returned (.bool (decide (IsNm (bs s)))) ∧ w' = w := by
  obtain ⟨B, hB⟩ : ∃ B : Bool, Hid (decide (IsNm (bs s)) = B) := ⟨_, rfl⟩
  have hB' := hB.out
  rw [hB']
  clear hB'
  have hq := eqT s []
  by_cases h0 : 0 < s.size
  · have hx := bs_drop s 0 h0
    rw [List.drop_zero] at hx
    have hne : bs s ≠ [] := by rw [hx]; simp
    rw [decide_eq_false hne] at hq
    have hhd : hdL (bs s) = isL (s[0]'h0) := by rw [hx]; rfl
    by_cases c1 : isL (s[0]'h0) = true
    · have HW := hide <| fun w => wordEnd_any s 0 w (Nat.zero_le _) hs
      rw [List.drop_zero, Nat.zero_add] at HW
      have hspl := spW_all (bs s)
      rw [bs_length] at hspl
      by_cases c2 : spW (bs s) = s.size
      · have hall := hspl.1 c2
        rw [c2] at HW
        by_cases c3 : s.size ≤ 40
        · have hwd : (!decide (bs s ∈ words)) = B := by
            rw [← hB.out]
            by_cases k : bs s ∈ words
            · rw [decide_eq_true k, decide_eq_false (fun q => q.2.2.2.2 k)]; rfl
            · rw [decide_eq_false k, decide_eq_true ⟨hne, by rw [bs_length]; exact c3, by rw [hhd, c1], hall, k⟩]; rfl
          have HD := hide hwd
          clear hwd hall hspl hx hne hhd c2 hB
          go_enter Tryz.func24, Tryz.ntmps24
          go_wp2_with (first | (go_at_call 52; refine (isLetter_any _ _).mono ?_; rintro e w' ⟨rfl, rfl⟩; rw [c1]) | (go_at_call 53; refine (HW.out _).mono ?_; rintro e w' ⟨rfl, rfl⟩) | (go_at_call 54; refine (isWord_any _ _).mono ?_; rintro e w' ⟨rfl, rfl⟩))
          go_ret
          exact ⟨by rw [← HD.out]; rfl, rfl⟩
        · have hb : Hid (false = B) := by rw [← hB.out]; exact (decide_eq_false (fun q => c3 (by have := q.2.1; rwa [bs_length] at this))).symm
          clear hall hspl hx hne hhd c2 hB
          go_enter Tryz.func24, Tryz.ntmps24
          go_wp2_with (first | (go_at_call 52; refine (isLetter_any _ _).mono ?_; rintro e w' ⟨rfl, rfl⟩; rw [c1]) | (go_at_call 53; refine (HW.out _).mono ?_; rintro e w' ⟨rfl, rfl⟩) | (go_at_call 54; refine (isWord_any _ _).mono ?_; rintro e w' ⟨rfl, rfl⟩))
          go_ret
          exact ⟨by rw [← hb.out]; rfl, rfl⟩
      · have hb : Hid (false = B) := by rw [← hB.out]; exact (decide_eq_false (fun q => c2 (hspl.2 q.2.2.2.1))).symm
        have c2' : (((spW (bs s) : Nat) : Int) == (s.size : Int)) = false := by rw [beq_eq_false_iff_ne]; omega
        generalize spW (bs s) = n at HW c2'
        clear hspl hx hne hhd c2 hB
        go_enter Tryz.func24, Tryz.ntmps24
        go_wp2_with (first | (go_at_call 52; refine (isLetter_any _ _).mono ?_; rintro e w' ⟨rfl, rfl⟩; rw [c1]) | (go_at_call 53; refine (HW.out _).mono ?_; rintro e w' ⟨rfl, rfl⟩) | (go_at_call 54; refine (isWord_any _ _).mono ?_; rintro e w' ⟨rfl, rfl⟩))
        go_ret
        exact ⟨by rw [← hb.out]; rfl, rfl⟩
    · have c1' : isL (s[0]'h0) = false := by simpa using c1
      have hb : Hid (false = B) := by rw [← hB.out]; exact (decide_eq_false (fun q => by have := q.2.2.1; rw [hhd, c1'] at this; cases this)).symm
      clear hx hne hhd c1 hB
      go_enter Tryz.func24, Tryz.ntmps24
      go_wp2_with (go_at_call 52; refine (isLetter_any _ _).mono ?_; rintro e w' ⟨rfl, rfl⟩; rw [c1'])
      go_ret
      exact ⟨by rw [← hb.out]; rfl, rfl⟩
  · have he : bs s = [] := by apply List.eq_nil_of_length_eq_zero; rw [bs_length]; omega
    rw [decide_eq_true he] at hq
    have hb : Hid (false = B) := by rw [← hB.out]; exact (decide_eq_false (fun q => q.1 he)).symm
    clear he hB
    go_enter Tryz.func24, Tryz.ntmps24
    go_wp2
    go_ret
    exact ⟨by rw [← hb.out]; rfl, rfl⟩
end Lex
end Go.Proofs.YtomldkljlbdnjaaGreat
/- Rows that are owned, by keys; no statement of the seat is proved here. -/
namespace Go.Proofs.YtomldkljlbdnjaaGreat
open Go.RowKit
set_option linter.unusedVariables false
namespace Euf
end Euf
namespace Sat
open Euf (OL App)
theorem hide {p : Prop} (h : p) : Hid p := h
/-- All but some blocks is as it was. -/
structure Mv (F : Nat → Prop) (w w' : World) : Prop where
  os : w'.os = w.os
  tape : w'.tape = w.tape
  output : w'.output = w.output
  size : w.heap.size ≤ w'.heap.size
  other : ∀ b, b < w.heap.size → ¬ F b → w'.heap[b]? = w.heap[b]?
section
variable {F G : Nat → Prop} {w w' w'' : World}
theorem Mv.refl (F : Nat → Prop) (w : World) : Mv F w w := ⟨rfl, rfl, rfl, Nat.le_refl _, fun _ _ _ => rfl⟩
theorem Mv.trans (h : Mv F w w') (k : Mv G w' w'') (hs : ∀ b, G b → F b ∨ w.heap.size ≤ b) : Mv F w w'' :=
  ⟨k.os.trans h.os, k.tape.trans h.tape, k.output.trans h.output, Nat.le_trans h.size k.size, fun b hb hn => (k.other b (Nat.lt_of_lt_of_le hb h.size) (fun hg => by
    rcases hs b hg with h1 | h1
    · exact hn h1
    · omega)).trans (h.other b hb hn)⟩
theorem Mv.below (h : Below w.heap.size w w') : Mv F w w' := ⟨h.os, h.tape, h.output, h.size, fun b hb _ => h.block b hb⟩
theorem Mv.drew (h : Mv F w w') : Mv F w w'.drew := ⟨h.os, h.tape, h.output, h.size, h.other⟩
theorem Mv.drewN (h : Mv F w w') (n : Nat) : Mv F w (w'.drewN n) := ⟨h.os, h.tape, h.output, h.size, h.other⟩
theorem Mv.set (h : Mv F w w') {a : Addr} (ha : F a.block ∨ w.heap.size ≤ a.block) (v : Value) : Mv F w (w'.setCell a v) :=
  ⟨h.os, h.tape, h.output, by simp; exact h.size, fun b hb hn => (heap_setCell_other w' a b v (fun e => by
    rcases ha with h1 | h1
    · exact hn (e ▸ h1)
    · omega)).trans (h.other b hb hn)⟩
theorem Mv.alloc (h : Mv F w w') (o : Obj) : Mv F w (w'.alloc o) :=
  ⟨h.os, h.tape, h.output, by simp; exact Nat.le_succ_of_le h.size, fun b hb hn => (Below.heap_alloc w' o b (Nat.lt_of_lt_of_le hb h.size)).trans (h.other b hb hn)⟩
theorem Mv.app {v v' : Value} (h : Mv F w w') (k : App v v' w' w'') (hv : ∀ b, v.ownBlock = some b → F b ∨ w.heap.size ≤ b) : Mv F w w'' :=
  ⟨k.os.trans h.os, k.tape.trans h.tape, k.output.trans h.output, Nat.le_trans h.size k.size, fun b hb hn => (k.other b (Nat.lt_of_lt_of_le hb h.size) (fun e => by
    rcases hv b e with h1 | h1
    · exact hn h1
    · omega)).trans (h.other b hb hn)⟩
theorem Mv.toBelow (h : Mv F w w') {n : Nat} (hn : n ≤ w.heap.size) (hF : ∀ b, F b → n ≤ b) : Below n w w' :=
  ⟨h.os, h.tape, h.output, h.size, fun b hb => h.other b (by omega) (fun hf => by have := hF b hf; omega)⟩
end
end Sat
end Go.Proofs.YtomldkljlbdnjaaGreat
