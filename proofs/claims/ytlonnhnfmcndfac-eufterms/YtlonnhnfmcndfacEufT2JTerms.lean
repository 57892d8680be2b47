/- A second graph beside the first, and the document's lists; no statement of the seat is proved here. -/
import Derived.Test.YtlonnhnfmcndfacEufGrJTerms
namespace Go.Proofs.Ytlonnhnfmcndfac
open Go.RowKit
set_option linter.unusedVariables false
namespace Euf
theorem TOk.Ninj {f : Fx} {t : Tx} {ex : Option Lab} (h : TOk f t ex) {a b : Nat} (ha : a < t.nn) (hb : b < t.nn) (e : t.N a = t.N b) : a = b := by
  refine h.Winj ha hb (h.inj _ _ (h.whole a ha).1 (h.whole b hb).1 ?_)
  rw [(h.whole a ha).2.1, (h.whole b hb).2.1, e]
/-- What is in a played script was in the script. -/
theorem playK_mem (ops : List OpS) : ∀ (k : Nat) (x : ByteArray × List Nat), x ∈ (playK ops k).1 → ∃ i, (ops.getD i noOp).zs.length ≤ 20 ∧ x.1 = (ops.getD i noOp).fn
  | 0, x, h => by cases h
  | k + 1, x, h => by
    unfold playK at h
    split at h
    · rename_i h20
      generalize ho : ops.getD k noOp = o at h h20
      unfold stepA at h
      have ih := playK_mem ops k x
      split at h
      · split at h
        · split at h
          · exact ih h
          · simp only [List.mem_append, List.mem_singleton] at h
            rcases h with h | h
            · exact ih h
            · exact ⟨k, by rw [ho]; exact h20, by rw [ho, h]⟩
        · exact ih h
      · split at h
        · split at h
          · exact ih h
          · exact ih h
        · split at h
          · split at h
            · exact ih h
            · exact ih h
          · exact ih h
    · exact playK_mem ops k x h
theorem Scr.fn {w : World} {aS : Option Addr} {ops : List OpS} (h : Scr w aS ops) (i : Nat) (h20 : (ops.getD i noOp).zs.length ≤ 20) : (ops.getD i noOp).fn.size ≤ maxLen := by
  by_cases hi : i < ops.length
  · obtain ⟨b, off, aZ, cZ, -, -, -, -, -, -, -, hok⟩ := h.at_ i hi
    exact (hok h20).fn
  · have : ops.getD i noOp = noOp := by rw [List.getD_eq_getElem?_getD, List.getElem?_eq_none (by omega)]; rfl
    rw [this]
    exact Nat.zero_le _
theorem Abs.fn {w : World} {aS : Option Addr} {ops : List OpS} (h : Scr w aS ops) {d : Gd} (hA : Abs d (playA ops)) {i : Nat} (hi : i < d.t.nn) : (d.t.N i).1.size ≤ maxLen := by
  have hm : d.t.N i ∈ (playA ops).1 := (hA.mem _).2 ⟨i, hi, rfl⟩
  obtain ⟨j, h1, h2⟩ := playK_mem ops _ _ hm
  rw [h2]
  exact h.fn j h1
theorem OL.seg {w : World} {ao : Option Addr} {cap : Nat} {l : List Nat} (h : OL 1 3 w (.slice ao l.length cap) l.length (natC l)) : Seg .i64 w ao l := by
  rcases Nat.eq_zero_or_pos l.length with e | e
  · exact Or.inl (List.eq_nil_of_length_eq_zero e)
  · obtain ⟨g, c, hv, -, -⟩ := h.open 0 e
    injection hv with h1 h2 h3
    subst h1 h3
    refine Or.inr ⟨g, 0, rfl, fun i hi => ?_⟩
    have := h.cell (i := i) hi (j := 0) (by omega)
    simp only [Nat.mul_one, Nat.add_zero] at this
    rw [Nat.zero_add, this]
    rfl
/-- Blocks of others are written. -/
theorem Lw.away {w0 wr : World} {g : Nat} {d d0 : Gd} {vN vE : Value} {rg : Nat → Value} {bW : Nat} {vL : Value} {k : Nat} {lf : Nat → Nat} (h : Lw w0 wr g d d0 vN vE rg bW vL k lf) {w' : World} {F : Nat → Prop} (hM : Mv F wr w') (hF : ∀ b, F b → ¬ Fh g d b ∧ b ≠ bW ∧ ¬ Fz vN vE rg d0.t.nn b ∧ vL.ownBlock ≠ some b ∧ w0.heap.size ≤ b) : Lw w0 w' g d d0 vN vE rg bW vL k lf :=
  { h with gw := h.gw.keep (fun b hb => hM.other b (h.gw.hlt hb) (fun hf => (hF b hf).1 hb)), r := h.r.keep (fun b hb => hM.other b (h.r.lt hb) (fun hf => (hF b hf).2.2.1 hb)), bw := blk_mv h.bw hM (fun hf => (hF _ hf).2.1 rfl), list := h.list.stay (fun b hb => hM.other b (h.list.lt hb) (fun hf => (hF b hf).2.2.2.1 hb)), bel := h.bel.trans (hM.toBelow h.bel.size (fun b hb => (hF b hb).2.2.2.2)) }
section
variable {w0 wr w' : World} {g : Nat} {d d' : Gd} {q : Nat} {dh dh' d0 : Gd} {vN vE : Value} {rg : Nat → Value} {bW : Nat}
end
end Euf
end Go.Proofs.Ytlonnhnfmcndfac
