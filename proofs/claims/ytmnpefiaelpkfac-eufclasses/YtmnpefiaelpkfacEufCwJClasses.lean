/- The lists that EufClasses wants; no statement of the seat is proved here. -/
import Derived.Test.YtmnpefiaelpkfacEufCnJClasses
import Derived.Test.YtmnpefiaelpkfacEufSfJClasses
namespace Go.Proofs.Ytmnpefiaelpkfac
open Go.RowKit
set_option linter.unusedVariables false
namespace Euf
theorem rpsL_congr {c c' : Nat → Nat} {n : Nat} (h : ∀ i, i < n → c i = c' i) : rpsL c n = rpsL c' n := by
  unfold rpsL
  refine List.filter_congr (fun i hi => ?_)
  rw [h i (List.mem_range.1 hi)]
theorem memb_congr {c c' : Nat → Nat} {n : Nat} (h : ∀ i, i < n → c i = c' i) (r : Nat) : memb c n r = memb c' n r := by
  unfold memb
  refine List.filter_congr (fun i hi => ?_)
  rw [h i (List.mem_range.1 hi)]
theorem clsL_congr {c c' : Nat → Nat} {n : Nat} (h : ∀ i, i < n → c i = c' i) (k : Nat) : clsL c n k = clsL c' n k := by
  unfold clsL
  rw [rpsL_congr h, memb_congr h]
theorem clsL_pos {c : Nat → Nat} {n k : Nat} (hk : k < (rpsL c n).length) : 0 < (clsL c n k).length := by
  obtain ⟨h1, h2⟩ := rpsL_mem hk
  have : (rpsL c n).getD k 0 ∈ clsL c n k := by
    unfold clsL memb
    rw [List.mem_filter]
    exact ⟨List.mem_range.2 h1, by simpa using h2⟩
  exact List.length_pos_of_mem this
/-- Of the classes whose least is below i, all nodes. -/
def wntL (c : Nat → Nat) (nn i k : Nat) : List Nat := memb c nn ((rpsL c i).getD k 0)
theorem wntL_yes {c : Nat → Nat} {nn i : Nat} (h : c i = i) : ∀ k, k < (rpsL c (i + 1)).length → wntL c nn (i + 1) k = upd (wntL c nn i) (rpsL c i).length (memb c nn i) k := by
  intro k hk
  unfold wntL
  rw [rpsL_yes h] at hk ⊢
  simp only [List.length_append, List.length_singleton] at hk
  by_cases e : k = (rpsL c i).length
  · subst e; rw [upd_same]; simp
  · rw [upd_other _ _ e, List.getD_eq_getElem?_getD, List.getElem?_append_left (by omega), ← List.getD_eq_getElem?_getD]
/-- What is there while the lists are made: all below the box is as it was. -/
structure WS (wB W : World) (b9 : Nat) (c : Nat → Nat) (nn i : Nat) (vW : Value) (vi : Nat → Value) : Prop where
  mv : Mv (OneB b9) wB W
  box : Blk 33 W b9 #[vW]
  ll : LL W vW (rpsL c i).length vi (wntL c nn i)
  bl : ∀ b, FL vW (rpsL c i).length vi b → wB.heap.size ≤ b
  lt : b9 < wB.heap.size
section
variable {wB W W' : World} {b9 : Nat} {c : Nat → Nat} {nn i : Nat} {vW : Value} {vi : Nat → Value}
theorem WS.below (h : WS wB W b9 c nn i vW vi) (hb : Below W.heap.size W W') : WS wB W' b9 c nn i vW vi :=
  { h with mv := h.mv.trans (Mv.below (F := fun _ => False) hb) (fun b hf => hf.elim), box := h.box.stay hb, ll := h.ll.below hb }
theorem WS.no (h : WS wB W b9 c nn i vW vi) (hc : c i ≠ i) : WS wB W b9 c nn (i + 1) vW vi := by
  have e : wntL c nn (i + 1) = wntL c nn i := by funext k; unfold wntL; rw [rpsL_no hc]
  refine { mv := h.mv, box := h.box, ll := ?_, bl := ?_, lt := h.lt }
  · rw [rpsL_no hc, e]; exact h.ll
  · rw [rpsL_no hc]; exact h.bl
theorem WS.yes (h : WS wB W b9 c nn i vW vi) (hc : c i = i) {v' v : Value} {w9 : World} (hap : App vW v' W w9) (hv : OL 1 3 W v (memb c nn i).length (natC (memb c nn i))) (hvb : ∀ b, v.ownBlock = some b → wB.heap.size ≤ b ∧ ∀ k, k < (rpsL c i).length → (vi k).ownBlock ≠ some b) (hol : OL 1 31 w9 v' ((rpsL c i).length + 1) (fun k => [upd vi (rpsL c i).length v k])) :
    WS wB (w9.setCell ⟨b9, 0, none⟩ v') b9 c nn (i + 1) v' (upd vi (rpsL c i).length v) := by
  have hlen : (rpsL c (i + 1)).length = (rpsL c i).length + 1 := by rw [rpsL_yes hc]; simp
  have hsz := h.mv.size
  have hO : ∀ b, vW.ownBlock = some b → wB.heap.size ≤ b := fun b hb => h.bl b (Or.inl hb)
  have g9 : Blk 33 w9 b9 #[vW] := (hap.other b9 h.box.lt (fun e => by have := hO b9 e; have := h.lt; omega)).trans h.box
  have hll := h.ll.push hap hv (fun b k e hk => (hvb b e).2 k hk) hol
  have bl9 : ∀ b, FL v' ((rpsL c i).length + 1) (upd vi (rpsL c i).length v) b → wB.heap.size ≤ b := by
    rintro b (hb | ⟨j, hj, hb⟩)
    · rcases hap.at_ with e | ⟨b', e3, e4⟩
      · exact hO b (e ▸ hb)
      · rw [e3] at hb; injection hb with hb; omega
    · by_cases e : j = (rpsL c i).length
      · subst e; rw [upd_same] at hb; exact (hvb b hb).1
      · rw [upd_other _ _ e] at hb; exact h.bl b (Or.inr ⟨j, by omega, hb⟩)
  have oth : ∀ b, b ≠ b9 → (w9.setCell ⟨b9, 0, none⟩ v').heap[b]? = w9.heap[b]? := fun b hb => heap_setCell_other w9 ⟨b9, 0, none⟩ b v' hb
  refine { mv := ?_, box := ?_, ll := ?_, bl := by rw [hlen]; exact bl9, lt := h.lt }
  · refine ⟨hap.os.trans h.mv.os, hap.tape.trans h.mv.tape, hap.output.trans h.mv.output, ?_, fun b hb hn => ?_⟩
    · simp; exact Nat.le_trans hsz hap.size
    · have hne : b ≠ b9 := hn
      rw [oth b hne, hap.other b (by omega) (fun e => by have := hO b e; omega)]
      exact h.mv.other b hb hn
  · have := Blk.set g9 0 v'
    simpa using this
  · rw [hlen]
    refine (hll.keep (fun b hb => oth b (fun e => ?_))).congr (fun k hk => wntL_yes hc k (by omega))
    have := bl9 b hb; have := h.lt; omega
end
end Euf
end Go.Proofs.Ytmnpefiaelpkfac
