/- Lists of lists, and the classes as lists; no statement of the seat is proved here. -/
import Derived.Test.YtmnpefiaelpkfacEufCdJClasses
namespace Go.Proofs.Ytmnpefiaelpkfac
open Go.RowKit
set_option linter.unusedVariables false
namespace Euf
/-- The nodes below n that stand for their classes; those below n of the class of r. -/
def rpsL (c : Nat → Nat) (n : Nat) : List Nat := (List.range n).filter (fun i => decide (c i = i))
def memb (c : Nat → Nat) (n r : Nat) : List Nat := (List.range n).filter (fun j => decide (c j = r))
theorem rpsL_yes {c : Nat → Nat} {n : Nat} (h : c n = n) : rpsL c (n + 1) = rpsL c n ++ [n] := by
  unfold rpsL; rw [List.range_succ, List.filter_append]; simp [h]
theorem rpsL_no {c : Nat → Nat} {n : Nat} (h : c n ≠ n) : rpsL c (n + 1) = rpsL c n := by
  unfold rpsL; rw [List.range_succ, List.filter_append]; simp [h]
theorem memb_yes {c : Nat → Nat} {n r : Nat} (h : c n = r) : memb c (n + 1) r = memb c n r ++ [n] := by
  unfold memb; rw [List.range_succ, List.filter_append]; simp [h]
theorem memb_no {c : Nat → Nat} {n r : Nat} (h : c n ≠ r) : memb c (n + 1) r = memb c n r := by
  unfold memb; rw [List.range_succ, List.filter_append]; simp [h]
theorem memb_new {c : Nat → Nat} {n : Nat} (h : ∀ j, j < n → c j ≤ j) : memb c n n = [] := by
  unfold memb
  rw [List.filter_eq_nil_iff]
  intro j hj
  have := List.mem_range.1 hj
  have := h j this
  simp; omega
theorem memb_len (c : Nat → Nat) (n r : Nat) : (memb c n r).length ≤ n := by
  have := List.length_filter_le (fun j => decide (c j = r)) (List.range n)
  simpa [memb] using this
theorem rpsL_len (c : Nat → Nat) (n : Nat) : (rpsL c n).length ≤ n := by
  have := List.length_filter_le (fun j => decide (c j = j)) (List.range n)
  simpa [rpsL] using this
theorem rpsL_split (c : Nat → Nat) (r : Nat) (hr : c r = r) : ∀ d, ∃ t, rpsL c (r + 1 + d) = rpsL c r ++ r :: t
  | 0 => ⟨[], by rw [Nat.add_zero, rpsL_yes hr]⟩
  | d + 1 => by
    obtain ⟨t, ht⟩ := rpsL_split c r hr d
    by_cases h : c (r + 1 + d) = r + 1 + d
    · exact ⟨t ++ [r + 1 + d], by rw [← Nat.add_assoc, rpsL_yes h, ht]; simp⟩
    · exact ⟨t, by rw [← Nat.add_assoc, rpsL_no h, ht]⟩
/-- Where a node that stands for its class lies. -/
theorem rpsL_at {c : Nat → Nat} {n r : Nat} (hr : c r = r) (hn : r < n) : (rpsL c r).length < (rpsL c n).length ∧ (rpsL c n).getD (rpsL c r).length 0 = r := by
  obtain ⟨t, ht⟩ := rpsL_split c r hr (n - (r + 1))
  rw [show r + 1 + (n - (r + 1)) = n from by omega] at ht
  rw [ht]
  simp
theorem rpsL_mem {c : Nat → Nat} {n k : Nat} (hk : k < (rpsL c n).length) : (rpsL c n).getD k 0 < n ∧ c ((rpsL c n).getD k 0) = (rpsL c n).getD k 0 := by
  have hm : (rpsL c n).getD k 0 ∈ rpsL c n := by rw [List.getD_eq_getElem?_getD, List.getElem?_eq_getElem hk]; exact List.getElem_mem hk
  unfold rpsL at hm ⊢
  rw [List.mem_filter] at hm
  exact ⟨List.mem_range.1 hm.1, by simpa using hm.2⟩
theorem rpsL_nodup (c : Nat → Nat) (n : Nat) : (rpsL c n).Nodup := List.nodup_range.filter _
theorem rpsL_one {c : Nat → Nat} {n j k : Nat} (hj : j < (rpsL c n).length) (hk : k < (rpsL c n).length) (e : (rpsL c n).getD j 0 = (rpsL c n).getD k 0) : j = k := by
  rw [List.getD_eq_getElem?_getD, List.getElem?_eq_getElem hj, List.getD_eq_getElem?_getD, List.getElem?_eq_getElem hk] at e
  exact (List.getElem_inj (rpsL_nodup c n)).1 (by simpa using e)
/-- The classes below n at the places of those that stand for them. -/
def clsL (c : Nat → Nat) (n k : Nat) : List Nat := memb c n ((rpsL c n).getD k 0)
theorem clsL_new {c : Nat → Nat} {n : Nat} (hle : ∀ j, j < n + 1 → c j ≤ j) (h : c n = n) : ∀ k, k < (rpsL c (n + 1)).length → clsL c (n + 1) k = if k = (rpsL c n).length then [n] else clsL c n k := by
  intro k hk
  unfold clsL
  rw [rpsL_yes h] at hk ⊢
  simp only [List.length_append, List.length_singleton] at hk
  by_cases e : k = (rpsL c n).length
  · rw [if_pos e]
    subst e
    have : (rpsL c n ++ [n]).getD (rpsL c n).length 0 = n := by simp
    rw [this, memb_yes h, memb_new (fun j hj => hle j (by omega))]
    rfl
  · rw [if_neg e]
    have h1 : (rpsL c n ++ [n]).getD k 0 = (rpsL c n).getD k 0 := by rw [List.getD_eq_getElem?_getD, List.getElem?_append_left (by omega), List.getD_eq_getElem?_getD]
    rw [h1]
    have := (rpsL_mem (c := c) (n := n) (k := k) (by omega)).1
    exact memb_no (by omega)
theorem clsL_old {c : Nat → Nat} {n : Nat} (h : c n ≠ n) (hr : c (c n) = c n) (hlt : c n < n) : ∀ k, k < (rpsL c (n + 1)).length → clsL c (n + 1) k = if k = (rpsL c (c n)).length then clsL c n k ++ [n] else clsL c n k := by
  intro k hk
  unfold clsL
  rw [rpsL_no h] at hk ⊢
  obtain ⟨h1, h2⟩ := rpsL_at hr hlt
  by_cases e : k = (rpsL c (c n)).length
  · rw [if_pos e]
    subst e
    rw [h2]
    exact memb_yes rfl
  · rw [if_neg e]
    refine memb_no (fun e2 => e ?_)
    exact rpsL_one hk h1 (by rw [h2, e2])
/-- A list of lists that lie by themselves. -/
structure LL (w : World) (vO : Value) (m : Nat) (vi : Nat → Value) (li : Nat → List Nat) : Prop where
  out : OL 1 31 w vO m (fun k => [vi k])
  inn : ∀ k, k < m → OL 1 3 w (vi k) (li k).length (natC (li k))
  dis : ∀ j k b, j < m → k < m → (vi j).ownBlock = some b → (vi k).ownBlock = some b → j = k
def FL (vO : Value) (m : Nat) (vi : Nat → Value) (b : Nat) : Prop := vO.ownBlock = some b ∨ ∃ k, k < m ∧ (vi k).ownBlock = some b
section
variable {w w' w1 : World} {vO v' : Value} {m : Nat} {vi : Nat → Value} {li : Nat → List Nat}
theorem LL.nil (w : World) (vi : Nat → Value) (li : Nat → List Nat) : LL w (.slice none 0 0) 0 vi li := ⟨OL.nil _ _ _ _, fun k hk => absurd hk (Nat.not_lt_zero _), fun j k b hj => absurd hj (Nat.not_lt_zero _)⟩
theorem LL.lt (h : LL w vO m vi li) {b : Nat} (hb : FL vO m vi b) : b < w.heap.size := by
  rcases hb with hb | ⟨k, hk, hb⟩
  · exact h.out.lt hb
  · exact (h.inn k hk).lt hb
theorem LL.keep (h : LL w vO m vi li) (hb : ∀ b, FL vO m vi b → w'.heap[b]? = w.heap[b]?) : LL w' vO m vi li :=
  ⟨h.out.stay (fun b e => hb b (Or.inl e)), fun k hk => (h.inn k hk).stay (fun b e => hb b (Or.inr ⟨k, hk, e⟩)), h.dis⟩
theorem LL.below (h : LL w vO m vi li) (hb : Below w.heap.size w w') : LL w' vO m vi li := h.keep (fun b hf => hb.block b (h.lt hf))
theorem LL.congr (h : LL w vO m vi li) {li' : Nat → List Nat} (hl : ∀ k, k < m → li' k = li k) : LL w vO m vi li' := ⟨h.out, fun k hk => by rw [hl k hk]; exact h.inn k hk, h.dis⟩
/-- One list more. -/
theorem LL.push (h : LL w vO m vi li) (hap : App vO v' w w') {v : Value} {l : List Nat} (hv : OL 1 3 w v l.length (natC l)) (hvb : ∀ b k, v.ownBlock = some b → k < m → (vi k).ownBlock ≠ some b) (hol : OL 1 31 w' v' (m + 1) (fun k => [upd vi m v k])) : LL w' v' (m + 1) (upd vi m v) (upd li m l) := by
  have oth : ∀ {u : Value} {n : Nat} {f : Nat → List Value}, OL 1 3 w u n f → OL 1 3 w' u n f := fun ho => ho.stay (fun b e => hap.other b (ho.lt e) (fun e2 => h.out.ne ho (by decide) e2 e))
  refine ⟨hol, fun k hk => ?_, fun j k b hj hk e1 e2 => ?_⟩
  · by_cases e : k = m
    · subst e; rw [upd_same, upd_same]; exact oth hv
    · rw [upd_other _ _ e, upd_other _ _ e]; exact oth (h.inn k (by omega))
  · by_cases ej : j = m
    · by_cases ek : k = m
      · omega
      · subst ej; rw [upd_same] at e1; rw [upd_other _ _ ek] at e2; exact absurd e2 (hvb b k e1 (by omega))
    · by_cases ek : k = m
      · subst ek; rw [upd_same] at e2; rw [upd_other _ _ ej] at e1; exact absurd e1 (hvb b j e2 (by omega))
      · rw [upd_other _ _ ej] at e1; rw [upd_other _ _ ek] at e2; exact h.dis j k b (by omega) (by omega) e1 e2
/-- One of the lists grows, and is put back. -/
theorem LL.grow {bO cap : Nat} (h : LL w (.slice (some ⟨bO, 0, none⟩) m cap) m vi li) {k : Nat} (hk : k < m) (hap : App (vi k) v' w w1) {l : List Nat} (hol : OL 1 3 w1 v' l.length (natC l)) : LL (w1.setCell ⟨bO, k, none⟩ v') (.slice (some ⟨bO, 0, none⟩) m cap) m (upd vi k v') (upd li k l) := by
  have hO : OL 1 31 w1 (.slice (some ⟨bO, 0, none⟩) m cap) m (fun j => [vi j]) := h.out.stay (fun b e => hap.other b (h.out.lt e) (fun e2 => (h.inn k hk).ne h.out (by decide) e2 e))
  have oth : ∀ b, b ≠ bO → (w1.setCell ⟨bO, k, none⟩ v').heap[b]? = w1.heap[b]? := fun b hb => heap_setCell_other w1 ⟨bO, k, none⟩ b v' hb
  have nb : ∀ {u : Value} {n : Nat} {f : Nat → List Value} {b : Nat}, OL 1 3 w1 u n f → u.ownBlock = some b → b ≠ bO := fun ho e e2 => hO.ne ho (by decide) (b := bO) rfl (by rw [e, e2])
  refine ⟨?_, fun j hj => ?_, fun i j b hi hj e1 e2 => ?_⟩
  · have := hO.set (i := k) (j := 0) hk (by omega) v' (f' := fun j => [upd vi k v' j]) (fun _ _ => rfl) (by rw [upd_same]; rfl) (fun j _ hj => by rw [upd_other _ _ hj])
    simpa using this
  · by_cases e : j = k
    · subst e; rw [upd_same, upd_same]
      exact hol.stay (fun b hb => oth b (nb hol hb))
    · rw [upd_other _ _ e, upd_other _ _ e]
      have h1 : OL 1 3 w1 (vi j) (li j).length (natC (li j)) := (h.inn j hj).stay (fun b hb => hap.other b ((h.inn j hj).lt hb) (fun e2 => e (h.dis j k b hj hk hb e2)))
      exact h1.stay (fun b hb => oth b (nb h1 hb))
  · have old : ∀ b, v'.ownBlock = some b → (vi k).ownBlock = some b ∨ w.heap.size ≤ b := fun b hb => by
      rcases hap.at_ with e | ⟨b', e3, e4⟩
      · exact Or.inl (e ▸ hb)
      · rw [e3] at hb; injection hb with hb; exact Or.inr (by omega)
    by_cases ei : i = k
    · by_cases ej : j = k
      · omega
      · subst ei; rw [upd_same] at e1; rw [upd_other _ _ ej] at e2
        rcases old b e1 with h9 | h9
        · exact h.dis i j b hi hj h9 e2
        · have := (h.inn j hj).lt e2; omega
    · by_cases ej : j = k
      · subst ej; rw [upd_same] at e2; rw [upd_other _ _ ei] at e1
        rcases old b e2 with h9 | h9
        · exact h.dis i j b hi hj e1 h9
        · have := (h.inn i hi).lt e1; omega
      · rw [upd_other _ _ ei] at e1; rw [upd_other _ _ ej] at e2; exact h.dis i j b hi hj e1 e2
end
end Euf
end Go.Proofs.Ytmnpefiaelpkfac
