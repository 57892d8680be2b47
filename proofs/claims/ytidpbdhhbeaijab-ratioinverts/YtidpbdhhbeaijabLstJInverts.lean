/- Words for slices of structs of a sign and a slice: what they hold, and the law of one append; no statement of the seat is proved here. -/
import Derived.Test.YtidpbdhhbeaijabJoin0Inverts
import Derived.Test.YtidpbdhhbeaijabVarsJInverts
namespace Go.Proofs.Ytidpbdhhbeaijab
open Go.RowKit

/-- All cells that hold machine numbers hold them still. -/
def KeepI (w w' : World) : Prop := ∀ p k x, w.cell? p = some (.int k x) → w'.cell? p = some (.int k x)
theorem KeepI.trans {a b c : World} (h : KeepI a b) (k : KeepI b c) : KeepI a c := fun p q x hp => k p q x (h p q x hp)
theorem KeepI.below {w w' : World} (h : Below w.heap.size w w') : KeepI w w' := fun p _ _ hp => (h.cell (p := p) (World.block_lt_of_cell? w p hp)).trans hp
theorem Seg.keepI {k : IntKind} {w w' : World} {ao : Option Addr} {xs : List Nat} (h : Seg k w ao xs) (hk : KeepI w w') : Seg k w' ao xs := by
  rcases h with h | ⟨b, off, rfl, hc⟩
  · exact Or.inl h
  · exact Or.inr ⟨b, off, rfl, fun i hi => hk _ _ _ (hc i hi)⟩
theorem AInt.keepI {w w' : World} {v : Value} {z : Int} (h : AInt w v z) (hk : KeepI w w') : AInt w' v z := by
  obtain ⟨neg, xs, ⟨ao, cap, h1, h2, h3, h4, h5⟩, h6⟩ := h
  exact ⟨neg, xs, ⟨ao, cap, h1, h2, h3, h4.keepI hk, h5⟩, h6⟩
theorem RNum.keepI {w w' : World} {v : Value} {z : Int} {L : Nat} (h : RNum w v z L) (hk : KeepI w w') : RNum w' v z L := by
  obtain ⟨neg, xs, ⟨ao, cap, h1, h2, h3, h4, h5⟩, h6⟩ := h
  exact ⟨neg, xs, ⟨ao, cap, h1, h2, h3, h4, h5.1.keepI hk, h5.2⟩, h6⟩

/-- No machine number. -/
def NoI (u : Value) : Prop := ∀ k x, u ≠ .int k x
/-- A slice of n structs of two cells each, the call's own; no cell of its block is a machine number. -/
def Lst (e : TypeId) (base : Nat) (w : World) (v : Value) (n : Nat) (xs : List Value) : Prop :=
  xs.length = n * 2 ∧ ((v = .slice none 0 0 ∧ n = 0) ∨
    ∃ g cap cur, v = .slice (some ⟨g, 0, none⟩) n cap ∧ base ≤ g ∧ w.heap[g]? = some (.cells cur e (0, 0)) ∧ n ≤ cap ∧ cap ≤ maxLen ∧ cur.size = cap * 2 ∧ cur.toList.take (n * 2) = xs ∧ ∀ u ∈ cur.toList, NoI u)

section
variable {e : TypeId} {base : Nat} {w w' : World} {v : Value} {n : Nat} {xs : List Value}
theorem Lst.nil (e : TypeId) (base : Nat) (w : World) : Lst e base w (.slice none 0 0) 0 [] := ⟨by simp, Or.inl ⟨rfl, rfl⟩⟩
theorem Lst.owns (h : Lst e base w v n xs) : w.ownsRow base e 2 v n xs := by
  refine ⟨h.1, ?_⟩
  rcases h.2 with h | ⟨g, cap, cur, h1, h2, h3, h4, h5, h6, h7, _⟩
  · exact Or.inl h
  · exact Or.inr ⟨g, cap, cur, h1, h2, h3, h4, h5, h6, h7⟩
theorem Lst.lt (h : Lst e base w v n xs) : ∀ b, v.ownBlock = some b → base ≤ b ∧ b < w.heap.size := World.ownsRow.lt h.owns
theorem Lst.stay (h : Lst e base w v n xs) (hb : ∀ b, v.ownBlock = some b → w'.heap[b]? = w.heap[b]?) : Lst e base w' v n xs := by
  refine ⟨h.1, ?_⟩
  rcases h.2 with hn | ⟨g, cap, cur, rfl, hbg, hg, r⟩
  · exact Or.inl hn
  · exact Or.inr ⟨g, cap, cur, rfl, hbg, (hb g rfl).trans hg, r⟩
theorem Lst.below (h : Lst e base w v n xs) (hb : Below w.heap.size w w') : Lst e base w' v n xs := h.stay fun b hv => hb.block b (h.lt b hv).2
/-- A row of other structs is another block. -/
theorem Lst.apart {e' : TypeId} {v' : Value} {n' : Nat} {xs' : List Value} (h : Lst e base w v n xs) (h' : Lst e' base w v' n' xs') (he : e ≠ e') : ∀ b, v.ownBlock = some b → some b ≠ v'.ownBlock := by
  intro b hb hb'
  rcases h.2 with ⟨rfl, _⟩ | ⟨g, cap, cur, rfl, _, hg, _⟩
  · cases hb
  · rcases h'.2 with ⟨rfl, _⟩ | ⟨g', cap', cur', rfl, _, hg', _⟩
    · cases hb'
    · cases hb
      have e1 : g = g' := by simpa [Value.ownBlock] using hb'
      subst e1
      rw [hg] at hg'
      injection hg' with hg'
      injection hg' with _ h2
      exact he h2
theorem Lst.cells (h : Lst e base w v n xs) : n = 0 ∨ ∃ g cap, v = .slice (some ⟨g, 0, none⟩) n cap ∧ n ≤ cap ∧ cap ≤ maxLen ∧ base ≤ g ∧ g < w.heap.size ∧ ∀ j u, xs[j]? = some u → w.cell? ⟨g, j, none⟩ = some u := by
  rcases h.2 with ⟨_, h⟩ | ⟨g, cap, cur, h1, h2, h3, h4, h5, h6, h7, _⟩
  · exact Or.inl h
  · refine Or.inr ⟨g, cap, h1, h4, h5, h2, (Array.getElem?_eq_some_iff.1 h3).1, fun j u hj => ?_⟩
    rw [cell_of_row w g j cur e (0, 0) h3, ← Array.getElem?_toList]
    have h8 : j < n * 2 := by
      have := (List.getElem?_eq_some_iff.1 hj).1
      rw [h.1] at this
      exact this
    rw [← h7, List.getElem?_take, if_pos h8] at hj
    exact hj
end

theorem mem_zeroCells {z : Array Value} {n : Nat} {u : Value} (h : u ∈ (Builtin.zeroCells z n).toList) : u ∈ z.toList := by
  simp [Builtin.zeroCells] at h
  obtain ⟨a, ha, rfl⟩ := h
  have hz : 0 < z.size := by
    rcases Nat.eq_zero_or_pos z.size with k | k
    · rw [k, Nat.mul_zero] at ha; omega
    · exact k
  have hm := Nat.mod_lt a hz
  rw [getElem!_pos z (a % z.size) hm]
  simp
theorem keepI_setRow {w : World} {g : Nat} {cur cur' : Array Value} {e : TypeId} (hg : w.heap[g]? = some (.cells cur e (0, 0))) (hN : ∀ u ∈ cur.toList, NoI u) : KeepI w (w.setRow g cur') := by
  intro p k x hp
  by_cases h : p.block = g
  · exfalso
    subst h
    obtain ⟨b, o, m⟩ := p
    have h1 : m = none ∧ cur[o]? = some (Value.int k x) := by simpa [World.cell?, hg] using hp
    exact hN _ (by rw [Array.mem_toList_iff]; exact Array.mem_of_getElem? h1.2) k x rfl
  · have h1 := setRow_other w g p.block cur' h
    rw [World.cell?_of_block (w := w) h1]
    exact hp

/-- The law of one append. -/
theorem run_append_two {P : Program} (w : World) (base : Nat) (t ty e : TypeId) (i : TypeInfo) (z : Value) (ht : P.underlying t = some (.slice e)) (hi : P.info? e = some i) (hz : i.zero = some z) (hsize : i.size = 2) (hby : i.bytes ≤ 1000) (hzs : z.cells.size = 2) (hzN : ∀ u ∈ z.cells.toList, NoI u)
    (v : Value) (n : Nat) (xs : List Value) (hown : Lst e base w v n xs) (a : Addr) (c : Nat) (u0 u1 : Value) (h0 : w.cell? (a.add 0) = some u0) (h1 : w.cell? (a.add 1) = some u1) (o0 : u0.oneCell' = true) (o1 : u1.oneCell' = true) (m0 : NoI u0) (m1 : NoI u1) (hn : n ≤ 1000) (hbase : base ≤ w.heap.size) :
    ∃ v' w', (Builtin.append_ #[t, t] ty #[v, .slice (some a) 1 c]).run P w = .ok v' w' ∧ Lst e base w' v' (n + 1) (xs ++ [u0, u1]) ∧ w.grownBy w' v.ownBlock ∧ KeepI w w' ∧ Lst e base w' v n xs := by
  have hnews : ∀ j u, [u0, u1][j]? = some u → w.cell? (a.add j) = some u := by
    intro j u hj
    match j, hj with
    | 0, hj => simp at hj; subst hj; exact h0
    | 1, hj => simp at hj; subst hj; exact h1
    | j + 2, hj => simp at hj
  have ho : ∀ u ∈ [u0, u1], u.oneCell' = true := by intro u hu; simp at hu; rcases hu with rfl | rfl <;> assumption
  have hm : ∀ u ∈ [u0, u1], NoI u := by intro u hu; simp at hu; rcases hu with rfl | rfl <;> assumption
  have hl : [u0, u1].length = 1 * i.size := by rw [hsize]; rfl
  have hlen : (xs ++ [u0, u1]).length = (n + 1) * 2 := by rw [List.length_append, hown.1]; simp; omega
  have hmx : 1001 ≤ maxLen := by unfold maxLen; decide
  have grown : ∀ (old : Nat), old < n + 1 → (∀ u ∈ xs, NoI u) → ∀ (row : Option Nat),
      Lst e base (w.drew.alloc (.cells (xs.toArray ++ [u0, u1].toArray ++ Builtin.zeroCells z.cells (grownCap w (n + 1) old e - (n + 1))) e)) (.slice (some ⟨w.heap.size, 0, none⟩) (n + 1) (grownCap w (n + 1) old e)) (n + 1) (xs ++ [u0, u1]) ∧
      w.grownBy (w.drew.alloc (.cells (xs.toArray ++ [u0, u1].toArray ++ Builtin.zeroCells z.cells (grownCap w (n + 1) old e - (n + 1))) e)) row ∧
      KeepI w (w.drew.alloc (.cells (xs.toArray ++ [u0, u1].toArray ++ Builtin.zeroCells z.cells (grownCap w (n + 1) old e - (n + 1))) e)) := by
    intro old ho' hxs row
    have hge := grownCap_ge w (n + 1) old e
    have hcm : grownCap w (n + 1) old e ≤ maxLen := grownCap_le_maxLen w (n + 1) old e (by omega)
    refine ⟨⟨hlen, Or.inr ⟨w.heap.size, _, _, rfl, hbase, heap_alloc_new w.drew _, hge, hcm, ?_, ?_, ?_⟩⟩, ⟨rfl, rfl, rfl, by simp, fun k hk _ => Below.heap_alloc w.drew _ k hk⟩, ?_⟩
    · simp only [Array.size_append, List.size_toArray, size_zeroCells, hzs, hown.1, List.length_cons, List.length_nil]
      omega
    · simp only [Array.toList_append, List.append_assoc]
      rw [← List.append_assoc, ← hlen]
      exact List.take_left
    · intro u hu
      simp only [Array.toList_append, List.mem_append] at hu
      rcases hu with (hu | hu) | hu
      · exact hxs u hu
      · exact hm u hu
      · exact hzN u (mem_zeroCells hu)
    · exact KeepI.below ⟨rfl, rfl, rfl, by simp, fun k hk => Below.heap_alloc w.drew _ k hk⟩
  rcases hown.2 with ⟨rfl, rfl⟩ | ⟨g, cap, cur, rfl, hbg, hg, hnc, hcm, hcs, htake, hN⟩
  · have hx : xs = [] := List.eq_nil_of_length_eq_zero (by simpa using hown.1)
    subst hx
    have hr := run_append_nil (P := P) w t ty e i z ht hi hz a 1 c [u0, u1] hl hnews (by decide) (by decide) (by omega)
    have hgr := grown 0 (by omega) (by simp) (Value.ownBlock (.slice none 0 0))
    simp only [Nat.zero_add, List.nil_append, Array.empty_append] at hgr ⊢
    exact ⟨_, _, hr, hgr.1, hgr.2.1, hgr.2.2, Lst.nil _ _ _⟩
  · by_cases hroom : n + 1 ≤ cap
    · have hfit : n * i.size + [u0, u1].length ≤ cur.size := by rw [hsize, hcs]; simp; omega
      have hr := run_append_room (P := P) w t ty e i ht hi g n cap cur hg a 1 c [u0, u1] hl hnews ho hroom hfit
      rw [hsize] at hr
      have q1 : (cur.toList.take (n * 2) ++ [u0, u1] ++ cur.toList.drop (n * 2 + [u0, u1].length)).toArray.size = cap * 2 := by
        simp only [List.size_toArray, List.length_append, List.length_take, List.length_drop, Array.length_toList, List.length_cons, List.length_nil]
        omega
      have q2 : (cur.toList.take (n * 2) ++ [u0, u1] ++ cur.toList.drop (n * 2 + [u0, u1].length)).toArray.toList.take ((n + 1) * 2) = xs ++ [u0, u1] := by
        rw [htake, ← hlen]
        exact List.take_left
      have q3 : (cur.toList.take (n * 2) ++ [u0, u1] ++ cur.toList.drop (n * 2 + [u0, u1].length)).toArray.toList.take (n * 2) = xs := by
        rw [htake, ← hown.1]
        simp only [List.append_assoc]
        exact List.take_left
      have q4 : ∀ u ∈ (cur.toList.take (n * 2) ++ [u0, u1] ++ cur.toList.drop (n * 2 + [u0, u1].length)).toArray.toList, NoI u := by
        intro u hu
        simp only [List.mem_append] at hu
        rcases hu with (hu | hu) | hu
        · exact hN u (List.mem_of_mem_take hu)
        · exact hm u hu
        · exact hN u (List.mem_of_mem_drop hu)
      exact ⟨_, _, hr, ⟨hlen, Or.inr ⟨g, cap, _, rfl, hbg, setRow_heap w g cur _ e _ hg, hroom, hcm, q1, q2, q4⟩⟩, ⟨rfl, rfl, rfl, by simp, fun k _ hk => setRow_other w g k _ (fun e => hk (by simp [Value.ownBlock, e]))⟩, keepI_setRow hg hN, ⟨hown.1, Or.inr ⟨g, cap, _, rfl, hbg, setRow_heap w g cur _ e _ hg, hnc, hcm, q1, q3, q4⟩⟩⟩
    · have holds : ∀ j u, xs[j]? = some u → w.cell? ((⟨g, 0, none⟩ : Addr).add j) = some u := hown.owns.cells (g := g) rfl
      have hr := run_append_grow (P := P) w t ty e i z ht hi hz ⟨g, 0, none⟩ n cap xs (by rw [hsize]; exact hown.1) holds a 1 c [u0, u1] hl hnews (by omega) (by omega) (growslice_fits (by omega) (by have := Nat.mul_le_mul (show n + 1 ≤ 1001 by omega) hby; omega))
      have hgr := grown cap (by omega) (fun u hu => hN u (List.mem_of_mem_take (by rw [htake]; exact hu))) (Value.ownBlock (.slice (some ⟨g, 0, none⟩) n cap))
      exact ⟨_, _, hr, hgr.1, hgr.2.1, hgr.2.2, hown.below ⟨rfl, rfl, rfl, by simp, fun k hk => Below.heap_alloc w.drew _ k hk⟩⟩
end Go.Proofs.Ytidpbdhhbeaijab
