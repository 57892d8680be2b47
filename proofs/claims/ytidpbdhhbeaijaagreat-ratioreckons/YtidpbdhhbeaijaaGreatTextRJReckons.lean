/- A rational's text is the text that it was read of; no statement of the seat is proved here. -/
import Derived.Test.YtidpbdhhbeaijaaGreatQ5JReckons
import Derived.Test.YtidpbdhhbeaijaaGreatQ6JReckons
namespace Go.Proofs.YtidpbdhhbeaijaaGreat
open Go.RowKit

theorem byt_digs (l : List Nat) (h : ∀ x, x ∈ l → 48 ≤ x) : (byt (digs l)).reverse = l := by
  unfold byt digs
  rw [List.map_map, ← List.map_reverse, List.reverse_reverse]
  have e : ∀ x, x ∈ l → ((fun d => 48 + d) ∘ fun c => c - 48) x = x := by
    intro x hx
    have := h x hx
    simp; omega
  rw [List.map_congr_left e]
  simp

theorem Plain.mem {l : List Nat} (h : Plain l) : ∀ x, x ∈ l → 48 ≤ x ∧ x ≤ 57 := by
  intro x hx
  obtain ⟨i, hi, rfl⟩ := List.mem_iff_getElem.1 hx
  have := h.2.2 i hi
  rw [List.getD_eq_getElem?_getD, List.getElem?_eq_getElem hi] at this
  exact this

theorem bs_sign (s : ByteArray) : bs s = (if pneg (bs s) = true then [45] else []) ++ pbody (bs s) := by
  unfold pbody
  by_cases h : pneg (bs s) = true
  · rw [if_pos h, if_pos h]
    have h1 : (bs s).getD 0 0 = 45 := by unfold pneg at h; simpa using h
    cases e : bs s with
    | nil => rw [e] at h1; simp at h1
    | cons x r => rw [e] at h1; simp at h1; simp [h1]
  · rw [if_neg h, if_neg h]; rfl

/-- A number's text is the text that it was read of. -/
theorem text_read {s : ByteArray} (hg : Good (bs s)) : TextOf s (pval (bs s)) := by
  obtain ⟨hp, hz⟩ := hg
  have hs := bs_sign s
  have hm := hp.mem
  by_cases h0 : pbody (bs s) = [48]
  · have hneg : pneg (bs s) = false := by
      cases h : pneg (bs s) with
      | false => rfl
      | true => exact absurd ⟨h, h0⟩ hz
    refine ⟨false, [], Norm.nil, Digs.nil _, fun _ => rfl, ?_, ?_⟩
    · rw [pval, hneg, h0]; rfl
    · rw [hs, hneg, h0]; rfl
  · have hne : (digs (pbody (bs s))).length ≠ 0 := by rw [digs_length]; have := hp.1; omega
    refine ⟨pneg (bs s), digs (pbody (bs s)), ?_, digs_digs _ (fun x hx => (hm x hx).2), fun h => absurd h hne, ?_, ?_⟩
    · generalize pbody (bs s) = l at *
      cases l with
      | nil => simp [Plain] at hp
      | cons x r =>
        rw [digs_cons]
        unfold Norm
        apply trimZ_snoc_ne
        have h1 := hm x (List.mem_cons_self ..)
        intro e
        have hx : x = 48 := by omega
        subst hx
        by_cases hr : r.length = 0
        · exact h0 (by rw [List.eq_nil_of_length_eq_zero hr])
        · exact hp.2.1 ⟨by simp, by simp; omega⟩
    · rw [pval, dec_val]
    · rw [showB, if_neg hne, byt_digs _ (fun x hx => (hm x hx).1), ← hs]

theorem bs_append (a b : ByteArray) : bs (a ++ b) = bs a ++ bs b := by
  simp [bs, ByteArray.data_append]
theorem bs_slash : bs ⟨#[47]⟩ = [47] := by decide
theorem cut_back {s : ByteArray} {k : Nat} (h : Sl s k) : s = s.extract 0 k ++ ⟨#[47]⟩ ++ s.extract (k + 1) s.size := by
  apply bs_inj
  rw [bs_append, bs_append, bs_slash, bs_extract, List.drop_zero, bs_extract_from]
  have hk : k < (bs s).length := by rw [bs_length]; exact h.1
  have e : (bs s)[k] = 47 := by
    have := h.2.1
    rw [List.getD_eq_getElem?_getD, List.getElem?_eq_getElem hk] at this
    exact this
  rw [List.append_assoc, ← e, List.singleton_append, ← List.drop_eq_getElem_cons hk, List.take_append_drop]
theorem textq_read {s : ByteArray} {c : Int} {q : Rat} (h : PQ s c q) (hc : c = 0) : TextQ s q := by
  rcases h with ⟨_, z, hp, rfl⟩ | ⟨k, hk, c1, z1, c2, z2, p1, p2, p3⟩
  · obtain ⟨hg, rfl⟩ := hp.zero hc
    exact Or.inl ⟨rfl, text_read hg⟩
  · rcases p3 with ⟨_, b, _⟩ | ⟨_, _, b, _⟩ | ⟨_, _, _, b, _⟩ | ⟨a, a2, a3, _, _, d, d2⟩
    · rw [hc] at b; cases b
    · rw [hc] at b; cases b
    · rw [hc] at b; cases b
    · obtain ⟨g1, e1⟩ := p1.zero a
      obtain ⟨g2, e2⟩ := p2.zero a2
      refine Or.inr ⟨by omega, _, _, ?_, ?_, cut_back hk⟩
      · rw [d, e1]; exact text_read g1
      · rw [d2, e2]; exact text_read g2
theorem QP.lt {w : World} {x : Bool} {a : Option Addr} {n c : Nat} {y : Bool} {e : Option Addr} {m f : Nat} {q : Rat} (h : QP w x a n c y e m f q) : q.num.natAbs < lim ∧ (q.den : Int).natAbs < lim := by
  refine ⟨h.1.lt, ?_⟩
  have k := h.2.lt
  unfold dz at k
  split at k
  · rename_i e; have := word_lim; omega
  · exact k
end Go.Proofs.YtidpbdhhbeaijaaGreat
