/- Words for slices that a call makes by append: what they hold, and the law of one append; no statement of the seat is proved here. -/
import Derived.Test.YtlonnhnfmcndfadBaseJGcd
import Derived.Test.YtlonnhnfmcndfadPlainJGcd
import Derived.WalkSmall
import Derived.Deep.LoopGhost
import Derived.Laws.AppendOwnNone
namespace Go.Proofs.Ytlonnhnfmcndfad
open Go.RowKit

/-- The slice value v is the call's own and holds the numbers zs. -/
def Own (k : IntKind) (e : TypeId) (base : Nat) (w : World) (v : Value) (zs : List Nat) : Prop :=
  w.ownsRow base e 1 v zs.length (zs.map fun z => Value.int k ((z : Nat) : Int))

section
variable {k : IntKind} {e : TypeId} {base : Nat} {w w' : World} {v : Value} {zs : List Nat}

theorem Own.nil (k : IntKind) (e : TypeId) (base : Nat) (w : World) : Own k e base w (.slice none 0 0) [] := World.ownsRow_nil _ _ _ _

theorem Own.lt (h : Own k e base w v zs) : ∀ b, v.ownBlock = some b → base ≤ b ∧ b < w.heap.size := World.ownsRow.lt h

/-- It stays while its block stays. -/
theorem Own.stay (h : Own k e base w v zs) (hb : ∀ b, v.ownBlock = some b → w'.heap[b]? = w.heap[b]?) : Own k e base w' v zs := by
  refine ⟨h.1, ?_⟩
  rcases h.2 with hn | ⟨g, cap, cur, rfl, hbg, hg, r⟩
  · exact Or.inl hn
  · exact Or.inr ⟨g, cap, cur, rfl, hbg, (hb g rfl).trans hg, r⟩

theorem Own.mono (h : Own k e base w v zs) {base' : Nat} (hb : base' ≤ base) : Own k e base' w v zs := by
  refine ⟨h.1, ?_⟩
  rcases h.2 with hn | ⟨g, cap, cur, rfl, hbg, r⟩
  · exact Or.inl hn
  · exact Or.inr ⟨g, cap, cur, rfl, Nat.le_trans hb hbg, r⟩

theorem Own.only (h : Own k e base w v zs) {g : Nat} (ho : Only g w w') (hg : g < base) : Own k e base w' v zs := h.stay fun b hv => ho.block b (by have := (h.lt b hv).1; omega)

/-- Its shape, and its cells. -/
theorem Own.open (h : Own k e base w v zs) : ∃ ao cap, v = .slice ao zs.length cap ∧ zs.length ≤ cap ∧ cap ≤ maxLen ∧ Seg k w ao zs ∧ (∀ a, ao = some a → base ≤ a.block ∧ a.off = 0 ∧ a.block < w.heap.size) := by
  rcases h.2 with ⟨rfl, hn⟩ | ⟨g, cap, cur, rfl, hbg, hg, h1, h2, h3, h4⟩
  · have : zs = [] := List.eq_nil_of_length_eq_zero hn
    subst this
    exact ⟨none, 0, rfl, Nat.le_refl _, Nat.zero_le _, Seg.nil _ _ _, fun a ha => by cases ha⟩
  · refine ⟨some ⟨g, 0, none⟩, cap, rfl, h1, h2, Or.inr ⟨g, 0, rfl, fun i hi => ?_⟩, fun a ha => ?_⟩
    · rw [Nat.zero_add, cell_of_row w g i cur e (0, 0) hg]
      have h5 := congrArg (fun l => l[i]?) h4
      simp only [Nat.mul_one, List.getElem?_take, if_pos hi, List.getElem?_map, List.getElem?_eq_getElem hi, Option.map_some] at h5
      rw [← Array.getElem?_toList, h5, List.getD_eq_getElem?_getD, List.getElem?_eq_getElem hi]
      rfl
    · cases ha
      exact ⟨hbg, rfl, (Array.getElem?_eq_some_iff.1 hg).1⟩

/-- The first of them. -/
theorem Own.take {ao : Option Addr} {n cap : Nat} (h : Own k e base w (.slice ao n cap) zs) (m : Nat) (hm : m ≤ zs.length) (hne : ao ≠ none) : Own k e base w (.slice ao m cap) (zs.take m) := by
  rcases h.2 with ⟨h1, _⟩ | ⟨g, cap', cur, h1, hbg, hg, h2, h3, h4, h5⟩
  · cases h1; exact absurd rfl hne
  · cases h1
    refine ⟨by simp, Or.inr ⟨g, cap, cur, ?_, hbg, hg, ?_, h3, h4, ?_⟩⟩
    · rw [List.length_take, Nat.min_eq_left hm]
    · rw [List.length_take]; omega
    · rw [List.map_take, ← h5]
      simp only [Nat.mul_one, List.length_take, List.take_take]
theorem Own.set {g n cap : Nat} (h : Own k e base w (.slice (some ⟨g, 0, none⟩) n cap) zs) (j : Nat) (X : Int) (x : Nat) (hX : X = (x : Int)) :
    Own k e base (w.setCell ⟨g, j, none⟩ (.int k X)) (.slice (some ⟨g, 0, none⟩) n cap) (zs.set j x) := by
  subst hX
  have hn : n = zs.length := by
    rcases h.2 with ⟨h1, _⟩ | ⟨g', cap', cur, h1, _⟩
    · cases h1
    · cases h1; rfl
  subst hn
  have h1 := (World.ownsRow.stored h j (.int k (x : Int))).1
  unfold Own
  rw [List.length_set, List.map_set]
  exact h1

theorem Own.frozen {g n cap : Nat} (h : Own k e base w (.slice (some ⟨g, 0, none⟩) n cap) zs) (j : Nat) : w.frozen? ⟨g, j, none⟩ = false := by
  rcases h.2 with ⟨h1, _⟩ | ⟨g', cap', cur, h1, _, hg, _⟩
  · cases h1
  · cases h1; exact frozen_of_row w g j cur e hg

theorem Own.cell {g n cap : Nat} (h : Own k e base w (.slice (some ⟨g, 0, none⟩) n cap) zs) (i : Nat) (hi : i < zs.length) : w.cell? ⟨g, i, none⟩ = some (.int k (zs.getD i 0 : Nat)) := by
  obtain ⟨ao, cap', e1, _, _, hs, _⟩ := h.open
  cases e1
  obtain ⟨b, off, e2, hc⟩ := hs.open i hi
  cases e2
  simpa using hc i hi

theorem Own.shape (h : Own k e base w v zs) (hp : 0 < zs.length) : ∃ g cap, v = .slice (some ⟨g, 0, none⟩) zs.length cap ∧ base ≤ g ∧ g < w.heap.size := by
  rcases h.2 with ⟨rfl, hn⟩ | ⟨g, cap, cur, rfl, hbg, hg, _⟩
  · omega
  · exact ⟨g, cap, rfl, hbg, (Array.getElem?_eq_some_iff.1 hg).1⟩

theorem Own.drew (h : Own k e base w v zs) : Own k e base w.drew v zs := h
theorem Only.drew {g : Nat} (h : Only g w w') : Only g w w'.drew := ⟨h.os, h.tape, h.output, h.size, h.block⟩

theorem Own.empty {ao : Option Addr} {n cap : Nat} (h : Own k e base w (.slice ao n cap) zs) : Own k e base w (.slice ao 0 cap) [] := by
  cases ao with
  | none =>
    rcases h.2 with ⟨h1, _⟩ | ⟨g, cap', cur, h1, _⟩
    · cases h1; exact Own.nil _ _ _ _
    · cases h1
  | some a => exact (by simpa using h.take 0 (Nat.zero_le _) (by simp))
end

theorem getD_set (l : List Nat) (i a p : Nat) (hi : i < l.length) : (l.set i a).getD p 0 = if p = i then a else l.getD p 0 := by
  rw [List.getD_eq_getElem?_getD, List.getElem?_set]
  by_cases h : p = i
  · subst h; simp [hi]
  · rw [if_neg (fun e => h e.symm), if_neg h, List.getD_eq_getElem?_getD]

theorem ext_getD {a b : List Nat} (hl : a.length = b.length) (h : ∀ p, p < a.length → a.getD p 0 = b.getD p 0) : a = b := by
  apply List.ext_getElem hl
  intro i h1 h2
  have := h i h1
  rw [List.getD_eq_getElem?_getD, List.getD_eq_getElem?_getD, List.getElem?_eq_getElem h1, List.getElem?_eq_getElem h2] at this
  exact this

theorem getD_reverse (l : List Nat) (p : Nat) (hp : p < l.length) : l.reverse.getD p 0 = l.getD (l.length - 1 - p) 0 := by
  rw [List.getD_eq_getElem?_getD, List.getElem?_reverse hp, ← List.getD_eq_getElem?_getD]

/-- 'append(out, x)', out the call's own. -/
theorem wpList_append_num {P : Program} {W : World} {ops : Array Oper} {rest : List Oper} {o : Oper} {a : Act} {Q : Exit → Act → World → Prop} (hgd : o.guard = none) (s x : Operand) (t : TypeId)
    (ho : o.op = .call { callee := .builtin .append, args := #[s, x], argTypes := #[t, t] })
    (base : Nat) (e : TypeId) (k : IntKind) (bytes : Nat) (h1 : P.underlying t = some (.slice e)) (h2 : (P.info? e).map (fun i => (i.zero, i.size, i.bytes)) = some (some (.int k 0), 1, bytes)) (hby : bytes ≤ 64)
    (v : Value) (zs : List Nat) (hs : a.eval s = v) (hown : Own k e base W v zs) (X : Int) (y : Nat) (hX : X = (y : Int)) (hx : a.eval x = .slice (some ⟨W.heap.size, 0, none⟩) 1 1)
    (hlen : zs.length ≤ 100000) (hbase : base ≤ W.heap.size)
    (h : ∀ v' w', Own k e base w' v' (zs ++ [y]) → (∀ b, b < W.heap.size → v.ownBlock ≠ some b → w'.heap[b]? = W.heap[b]?) → Below base W w' → wpList P ops Q rest (a.put o.dst v') w') :
    wpList P ops Q (o :: rest) a (W.alloc (.cells #[.int k X] e (0, 0))) := by
  subst hX
  obtain ⟨i, hi, hz0, hz1, hz2⟩ := info_parts h2
  have hb : (zs.length + 1) * bytes ≤ 100001 * 64 := Nat.mul_le_mul (by omega) hby
  refine wpList_append_own (W.alloc (.cells #[.int k (y : Int)] e (0, 0))) hgd s x t ho base e i (.int k 0) 1 bytes h1 hi hz0 hz1 hz2 rfl (by decide) v zs.length _ hs (World.ownsRow.alloc hown _) ⟨W.heap.size, 0, none⟩ 1 1 [.int k (y : Int)] hx rfl ?_ ?_ ?_ ?_ ?_ ?_
  · intro j u hj
    match j, hj with
    | 0, hj => simp at hj; subst hj; simp [Addr.add]
  · intro u hu; simp at hu; subst hu; rfl
  · unfold maxLen; omega
  · omega
  · simp; omega
  · intro v' w' hown' hgrow _
    have hblk : ∀ b, b < W.heap.size → v.ownBlock ≠ some b → w'.heap[b]? = W.heap[b]? := by
      intro b hb1 hb2
      rw [hgrow.block b (by simp; omega) (fun e => hb2 e.symm), Below.heap_alloc W _ b hb1]
    refine h v' w' ?_ hblk ?_
    · unfold Own
      simpa using hown'
    · refine ⟨hgrow.os, hgrow.tape, hgrow.output, by have := hgrow.size; simp at this; omega, fun b hb1 => hblk b (by omega) (fun e => ?_)⟩
      have := (Own.lt hown b e).1
      omega

end Go.Proofs.Ytlonnhnfmcndfad
