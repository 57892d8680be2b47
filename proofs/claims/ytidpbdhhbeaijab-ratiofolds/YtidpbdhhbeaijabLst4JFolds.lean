/- Words for slices of structs of four cells: what they hold, and the law of one append, in a region that draws its order too; no statement of the seat is proved here. -/
import Derived.Test.YtidpbdhhbeaijabR5JFolds
namespace Go.Proofs.Ytidpbdhhbeaijab
open Go.RowKit

/-- A slice of n structs of four cells each, the call's own; no cell of its block is a machine number. -/
def Lst4 (e : TypeId) (base : Nat) (w : World) (v : Value) (n : Nat) (xs : List Value) : Prop :=
  xs.length = n * 4 ∧ ((v = .slice none 0 0 ∧ n = 0) ∨
    ∃ g cap cur, v = .slice (some ⟨g, 0, none⟩) n cap ∧ base ≤ g ∧ w.heap[g]? = some (.cells cur e (0, 0)) ∧ n ≤ cap ∧ cap ≤ maxLen ∧ cur.size = cap * 4 ∧ cur.toList.take (n * 4) = xs ∧ ∀ u ∈ cur.toList, NoI u)

section
variable {e : TypeId} {base : Nat} {w w' : World} {v : Value} {n : Nat} {xs : List Value}
theorem Lst4.nil (e : TypeId) (base : Nat) (w : World) : Lst4 e base w (.slice none 0 0) 0 [] := ⟨by simp, Or.inl ⟨rfl, rfl⟩⟩
theorem Lst4.owns (h : Lst4 e base w v n xs) : w.ownsRow base e 4 v n xs := by
  refine ⟨h.1, ?_⟩
  rcases h.2 with h | ⟨g, cap, cur, h1, h2, h3, h4, h5, h6, h7, _⟩
  · exact Or.inl h
  · exact Or.inr ⟨g, cap, cur, h1, h2, h3, h4, h5, h6, h7⟩
theorem Lst4.lt (h : Lst4 e base w v n xs) : ∀ b, v.ownBlock = some b → base ≤ b ∧ b < w.heap.size := World.ownsRow.lt h.owns
theorem Lst4.stay (h : Lst4 e base w v n xs) (hb : ∀ b, v.ownBlock = some b → w'.heap[b]? = w.heap[b]?) : Lst4 e base w' v n xs := by
  refine ⟨h.1, ?_⟩
  rcases h.2 with hn | ⟨g, cap, cur, rfl, hbg, hg, r⟩
  · exact Or.inl hn
  · exact Or.inr ⟨g, cap, cur, rfl, hbg, (hb g rfl).trans hg, r⟩
theorem Lst4.below (h : Lst4 e base w v n xs) (hb : Below w.heap.size w w') : Lst4 e base w' v n xs := h.stay fun b hv => hb.block b (h.lt b hv).2
/-- A row of other structs is another block. -/
theorem Lst4.apart {e' : TypeId} {v' : Value} {n' : Nat} {xs' : List Value} (h : Lst4 e base w v n xs) (h' : Lst4 e' base w v' n' xs') (he : e ≠ e') : ∀ b, v.ownBlock = some b → some b ≠ v'.ownBlock := by
  intro b hb hb'
  rcases h.2 with ⟨rfl, _⟩ | ⟨g, cap, cur, rfl, _, hg, _⟩
  · cases hb
  · rcases h'.2 with ⟨rfl, _⟩ | ⟨g', cap', cur', rfl, _, hg', _⟩
    · cases hb'
    · cases hb
      have e1 : g = g' := by simpa [Value.ownBlock] using hb'
      subst e1
      rw [hg] at hg'
      injection hg' with hg'
      injection hg' with _ h2
      exact he h2
theorem Lst4.cells (h : Lst4 e base w v n xs) : n = 0 ∨ ∃ g cap, v = .slice (some ⟨g, 0, none⟩) n cap ∧ n ≤ cap ∧ cap ≤ maxLen ∧ base ≤ g ∧ g < w.heap.size ∧ ∀ j u, xs[j]? = some u → w.cell? ⟨g, j, none⟩ = some u := by
  rcases h.2 with ⟨_, h⟩ | ⟨g, cap, cur, h1, h2, h3, h4, h5, h6, h7, _⟩
  · exact Or.inl h
  · refine Or.inr ⟨g, cap, h1, h4, h5, h2, (Array.getElem?_eq_some_iff.1 h3).1, fun j u hj => ?_⟩
    rw [cell_of_row w g j cur e (0, 0) h3, ← Array.getElem?_toList]
    have h8 : j < n * 4 := by
      have := (List.getElem?_eq_some_iff.1 hj).1
      rw [h.1] at this
      exact this
    rw [← h7, List.getElem?_take, if_pos h8] at hj
    exact hj
end

/-- The law of one append. -/
theorem run_append_four {P : Program} (w : World) (base : Nat) (t ty e : TypeId) (i : TypeInfo) (z : Value) (ht : P.underlying t = some (.slice e)) (hi : P.info? e = some i) (hz : i.zero = some z) (hsize : i.size = 4) (hby : i.bytes ≤ 1000) (hzs : z.cells.size = 4) (hzN : ∀ u ∈ z.cells.toList, NoI u)
    (v : Value) (n : Nat) (xs : List Value) (hown : Lst4 e base w v n xs) (a : Addr) (c : Nat) (u0 u1 u2 u3 : Value) (h0 : w.cell? (a.add 0) = some u0) (h1 : w.cell? (a.add 1) = some u1) (h2 : w.cell? (a.add 2) = some u2) (h3 : w.cell? (a.add 3) = some u3) (o0 : u0.oneCell' = true) (o1 : u1.oneCell' = true) (o2 : u2.oneCell' = true) (o3 : u3.oneCell' = true) (m0 : NoI u0) (m1 : NoI u1) (m2 : NoI u2) (m3 : NoI u3) (hn : n ≤ 1000) (hbase : base ≤ w.heap.size) :
    ∃ v' w', (Builtin.append_ #[t, t] ty #[v, .slice (some a) 1 c]).run P w = .ok v' w' ∧ Lst4 e base w' v' (n + 1) (xs ++ [u0, u1, u2, u3]) ∧ w.grownBy w' v.ownBlock ∧ KeepI w w' ∧ Lst4 e base w' v n xs := by
  have hnews : ∀ j u, [u0, u1, u2, u3][j]? = some u → w.cell? (a.add j) = some u := by
    intro j u hj
    match j, hj with
    | 0, hj => simp at hj; subst hj; exact h0
    | 1, hj => simp at hj; subst hj; exact h1
    | 2, hj => simp at hj; subst hj; exact h2
    | 3, hj => simp at hj; subst hj; exact h3
    | j + 4, hj => simp at hj
  have ho : ∀ u ∈ [u0, u1, u2, u3], u.oneCell' = true := by intro u hu; simp at hu; rcases hu with rfl | rfl | rfl | rfl <;> assumption
  have hm : ∀ u ∈ [u0, u1, u2, u3], NoI u := by intro u hu; simp at hu; rcases hu with rfl | rfl | rfl | rfl <;> assumption
  have hl : [u0, u1, u2, u3].length = 1 * i.size := by rw [hsize]; rfl
  have hlen : (xs ++ [u0, u1, u2, u3]).length = (n + 1) * 4 := by rw [List.length_append, hown.1]; simp; omega
  have hmx : 1001 ≤ maxLen := by unfold maxLen; decide
  have grown : ∀ (old : Nat), old < n + 1 → (∀ u ∈ xs, NoI u) → ∀ (row : Option Nat),
      Lst4 e base (w.drew.alloc (.cells (xs.toArray ++ [u0, u1, u2, u3].toArray ++ Builtin.zeroCells z.cells (grownCap w (n + 1) old e - (n + 1))) e)) (.slice (some ⟨w.heap.size, 0, none⟩) (n + 1) (grownCap w (n + 1) old e)) (n + 1) (xs ++ [u0, u1, u2, u3]) ∧
      w.grownBy (w.drew.alloc (.cells (xs.toArray ++ [u0, u1, u2, u3].toArray ++ Builtin.zeroCells z.cells (grownCap w (n + 1) old e - (n + 1))) e)) row ∧
      KeepI w (w.drew.alloc (.cells (xs.toArray ++ [u0, u1, u2, u3].toArray ++ Builtin.zeroCells z.cells (grownCap w (n + 1) old e - (n + 1))) e)) := by
    intro old ho' hxs row
    have hge := grownCap_ge w (n + 1) old e
    have hcm : grownCap w (n + 1) old e ≤ maxLen := grownCap_le_maxLen w (n + 1) old e (by omega)
    refine ⟨⟨hlen, Or.inr ⟨w.heap.size, _, _, rfl, hbase, heap_alloc_new w.drew _, hge, hcm, ?_, ?_, ?_⟩⟩, ⟨rfl, rfl, rfl, by simp, fun k hk _ => Below.heap_alloc w.drew _ k hk⟩, ?_⟩
    · simp only [Array.size_append, List.size_toArray, size_zeroCells, hzs, hown.1, List.length_cons, List.length_nil]
      omega
    · simp only [Array.toList_append, List.append_assoc]
      rw [← List.append_assoc, ← hlen]
      exact List.take_left
    · intro u hu
      simp only [Array.toList_append, List.mem_append] at hu
      rcases hu with (hu | hu) | hu
      · exact hxs u hu
      · exact hm u hu
      · exact hzN u (mem_zeroCells hu)
    · exact KeepI.below ⟨rfl, rfl, rfl, by simp, fun k hk => Below.heap_alloc w.drew _ k hk⟩
  rcases hown.2 with ⟨rfl, rfl⟩ | ⟨g, cap, cur, rfl, hbg, hg, hnc, hcm, hcs, htake, hN⟩
  · have hx : xs = [] := List.eq_nil_of_length_eq_zero (by simpa using hown.1)
    subst hx
    have hr := run_append_nil (P := P) w t ty e i z ht hi hz a 1 c [u0, u1, u2, u3] hl hnews (by decide) (by decide) (by omega)
    have hgr := grown 0 (by omega) (by simp) (Value.ownBlock (.slice none 0 0))
    simp only [Nat.zero_add, List.nil_append, Array.empty_append] at hgr ⊢
    exact ⟨_, _, hr, hgr.1, hgr.2.1, hgr.2.2, Lst4.nil _ _ _⟩
  · by_cases hroom : n + 1 ≤ cap
    · have hfit : n * i.size + [u0, u1, u2, u3].length ≤ cur.size := by rw [hsize, hcs]; simp; omega
      have hr := run_append_room (P := P) w t ty e i ht hi g n cap cur hg a 1 c [u0, u1, u2, u3] hl hnews ho hroom hfit
      rw [hsize] at hr
      have q1 : (cur.toList.take (n * 4) ++ [u0, u1, u2, u3] ++ cur.toList.drop (n * 4 + [u0, u1, u2, u3].length)).toArray.size = cap * 4 := by
        simp only [List.size_toArray, List.length_append, List.length_take, List.length_drop, Array.length_toList, List.length_cons, List.length_nil]
        omega
      have q2 : (cur.toList.take (n * 4) ++ [u0, u1, u2, u3] ++ cur.toList.drop (n * 4 + [u0, u1, u2, u3].length)).toArray.toList.take ((n + 1) * 4) = xs ++ [u0, u1, u2, u3] := by
        rw [htake, ← hlen]
        exact List.take_left
      have q3 : (cur.toList.take (n * 4) ++ [u0, u1, u2, u3] ++ cur.toList.drop (n * 4 + [u0, u1, u2, u3].length)).toArray.toList.take (n * 4) = xs := by
        rw [htake, ← hown.1]
        simp only [List.append_assoc]
        exact List.take_left
      have q4 : ∀ u ∈ (cur.toList.take (n * 4) ++ [u0, u1, u2, u3] ++ cur.toList.drop (n * 4 + [u0, u1, u2, u3].length)).toArray.toList, NoI u := by
        intro u hu
        simp only [List.mem_append] at hu
        rcases hu with (hu | hu) | hu
        · exact hN u (List.mem_of_mem_take hu)
        · exact hm u hu
        · exact hN u (List.mem_of_mem_drop hu)
      exact ⟨_, _, hr, ⟨hlen, Or.inr ⟨g, cap, _, rfl, hbg, setRow_heap w g cur _ e _ hg, hroom, hcm, q1, q2, q4⟩⟩, ⟨rfl, rfl, rfl, by simp, fun k _ hk => setRow_other w g k _ (fun e => hk (by simp [Value.ownBlock, e]))⟩, keepI_setRow hg hN, ⟨hown.1, Or.inr ⟨g, cap, _, rfl, hbg, setRow_heap w g cur _ e _ hg, hnc, hcm, q1, q3, q4⟩⟩⟩
    · have holds : ∀ j u, xs[j]? = some u → w.cell? ((⟨g, 0, none⟩ : Addr).add j) = some u := hown.owns.cells (g := g) rfl
      have hr := run_append_grow (P := P) w t ty e i z ht hi hz ⟨g, 0, none⟩ n cap xs (by rw [hsize]; exact hown.1) holds a 1 c [u0, u1, u2, u3] hl hnews (by omega) (by omega) (growslice_fits (by omega) (by have := Nat.mul_le_mul (show n + 1 ≤ 1001 by omega) hby; omega))
      have hgr := grown cap (by omega) (fun u hu => hN u (List.mem_of_mem_take (by rw [htake]; exact hu))) (Value.ownBlock (.slice (some ⟨g, 0, none⟩) n cap))
      exact ⟨_, _, hr, hgr.1, hgr.2.1, hgr.2.2, hown.below ⟨rfl, rfl, rfl, by simp, fun k hk => Below.heap_alloc w.drew _ k hk⟩⟩
theorem Try.underlying43 : Try.prog.underlying 43 = some (.slice 27) := by kernel_rfl
theorem Try.info27 : (Try.prog.info? 27).map (fun i => (i.zero, i.size, i.bytes)) = some (some (.agg #[.bool false, .slice none 0 0, .bool false, .slice none 0 0]), 4, 64) := by kernel_rfl
theorem Try.info32 : (Try.prog.info? 32).map (fun i => (i.zero, i.size, i.bytes)) = some (some (.agg #[.bool false, .slice none 0 0, .bool false, .slice none 0 0]), 4, 64) := by kernel_rfl
/-- What an append to v leaves. -/
def AppK4 (e : TypeId) (base : Nat) (v : Value) (n : Nat) (xs : List Value) (w w' : World) : Prop :=
  (∀ b, b < w.heap.size → v.ownBlock ≠ some b → w'.heap[b]? = w.heap[b]?) ∧ KeepI w w' ∧ Below base w w' ∧ Lst4 e base w v n xs ∧ Lst4 e base w' v n xs

theorem step_append_four {P : Program} {w : World} {ops : Array Oper} {o : Oper} {a : Act} {K : Act → World → Prop} {Q : Exit → Act → World → Prop} {E : Prop} (hgd : o.guard = none) (s x : Operand) (t : TypeId)
    (ho : o.op = .call { callee := .builtin .append, args := #[s, x], argTypes := #[t, t] })
    (base : Nat) (e : TypeId) (bytes : Nat) (h1 : P.underlying t = some (.slice e)) (h2 : (P.info? e).map (fun i => (i.zero, i.size, i.bytes)) = some (some (.agg #[.bool false, .slice none 0 0, .bool false, .slice none 0 0]), 4, bytes)) (hby : bytes ≤ 128)
    (v : Value) (n : Nat) (xs : List Value) (hs : a.eval s = v) (hown : Lst4 e base w v n xs) (b0 : Bool) (a1 : Option Addr) (n1 c1 : Nat) (b2 : Bool) (a3 : Option Addr) (n3 c3 : Nat) (g : Nat) (hx : a.eval x = .slice (some ⟨g, 0, none⟩) 1 1)
    (hg : Blk e w g #[.bool b0, .slice a1 n1 c1, .bool b2, .slice a3 n3 c3]) (hn : n ≤ 1000) (hbase : base ≤ w.heap.size)
    (h : ∀ v' w', Lst4 e base w' v' (n + 1) (xs ++ [.bool b0, .slice a1 n1 c1, .bool b2, .slice a3 n3 c3]) → AppK4 e base v n xs w w' → K (a.put o.dst v') w') :
    if Region.wanted o (yielded ops a.tmps) = true then Oper.wp P o a w K Q else E := by
  have hw : Region.wanted o (yielded ops a.tmps) = true := by simp [Region.wanted, hgd]
  rw [if_pos hw]
  obtain ⟨i, hi, hz0, hz1, hz2⟩ := info_parts h2
  obtain ⟨c0, c1', c2', c3'⟩ := hg.four
  have N0 : ∀ b : Bool, NoI (.bool b) := fun _ _ _ hh => by cases hh
  have N1 : ∀ (p : Option Addr) (q r : Nat), NoI (.slice p q r) := fun _ _ _ _ _ hh => by cases hh
  obtain ⟨v', w', hr, k1, k2, k3, k4⟩ := run_append_four (P := P) w base t o.type e i _ h1 hi hz0 hz1 (by omega) rfl
    (by intro u hu; simp [Value.cells] at hu; rcases hu with rfl | rfl | rfl | rfl; exact N0 _; exact N1 _ _ _; exact N0 _; exact N1 _ _ _)
    v n xs hown ⟨g, 0, none⟩ 1 (.bool b0) (.slice a1 n1 c1) (.bool b2) (.slice a3 n3 c3) c0 c1' c2' c3' rfl rfl rfl rfl (N0 _) (N1 _ _ _) (N0 _) (N1 _ _ _) hn hbase
  have hblk : ∀ b, b < w.heap.size → v.ownBlock ≠ some b → w'.heap[b]? = w.heap[b]? := fun b hb1 hb2 => k2.block b hb1 (fun e => hb2 e.symm)
  unfold Oper.wp execOp
  simp only [ho, resolve, invoke, builtin, Sem.run_bind, Sem.run_pure, Result.andThen_ok, List.map_toArray, List.map_cons, List.map_nil, hs, hx, hr]
  refine h v' w' k1 ⟨hblk, k3, ?_, hown, k4⟩
  refine ⟨k2.os, k2.tape, k2.output, k2.size, fun b hb1 => hblk b (by omega) (fun e => ?_)⟩
  have := (hown.lt b e).1
  omega

theorem Lst4.blk {e t : TypeId} {base : Nat} {w : World} {v : Value} {n : Nat} {xs : List Value} (h : Lst4 e base w v n xs) {b : Nat} {cs : Array Value} (hb : Blk t w b cs) (he : e ≠ t) : v.ownBlock ≠ some b := by
  intro hv
  rcases h.2 with ⟨rfl, _⟩ | ⟨g, cap, cur, rfl, _, hg, _⟩
  · cases hv
  · have e1 : g = b := by simpa [Value.ownBlock] using hv
    subst e1
    have hb' : w.heap[g]? = some (.cells cs t (0, 0)) := hb
    rw [hg] at hb'
    injection hb' with hb'
    injection hb' with _ h2
    exact he h2
theorem Blk.app4 {e t : TypeId} {base : Nat} {v : Value} {n : Nat} {xs : List Value} {w w' : World} {b : Nat} {cs : Array Value} (hb : Blk t w b cs) (h : AppK4 e base v n xs w w') (hne : v.ownBlock ≠ some b) : Blk t w' b cs := (h.1 b hb.lt hne).trans hb
theorem Lst4.app {e t : TypeId} {base : Nat} {v v2 : Value} {n n2 : Nat} {xs xs2 : List Value} {w w' : World} (h2 : Lst4 t base w v2 n2 xs2) (h : AppK4 e base v n xs w w') (he : t ≠ e) : Lst4 t base w' v2 n2 xs2 :=
  h2.stay fun b hb => h.1 b (h2.lt b hb).2 (fun e' => h2.apart h.2.2.2.1 he b hb e'.symm)

/-- The cells xs are rationals' structs. -/
def Els4 (w : World) (xs : List Value) (zs : List Rat) : Prop :=
  ∀ i, i < zs.length → ∃ x a n c y e m f, xs[i * 4]? = some (.bool x) ∧ xs[i * 4 + 1]? = some (.slice a n c) ∧ xs[i * 4 + 2]? = some (.bool y) ∧ xs[i * 4 + 3]? = some (.slice e m f) ∧ QP w x a n c y e m f (zs.getD i 0)
theorem Els4.nil (w : World) : Els4 w [] [] := fun i hi => by simp at hi
theorem Els4.keep {w w' : World} {xs : List Value} {zs : List Rat} (h : Els4 w xs zs) (hk : KeepI w w') : Els4 w' xs zs := by
  intro i hi
  obtain ⟨x, a, n, c, y, e, m, f, h1, h2, h3, h4, h5⟩ := h i hi
  exact ⟨x, a, n, c, y, e, m, f, h1, h2, h3, h4, h5.keepI hk⟩
theorem Els4.push {w : World} {xs : List Value} {zs : List Rat} (h : Els4 w xs zs) (hl : xs.length = zs.length * 4) {x : Bool} {a : Option Addr} {n c : Nat} {y : Bool} {e : Option Addr} {m f : Nat} {z : Rat} (hz : QP w x a n c y e m f z) : Els4 w (xs ++ [.bool x, .slice a n c, .bool y, .slice e m f]) (zs ++ [z]) := by
  intro i hi
  rw [List.length_append, List.length_singleton] at hi
  rcases Nat.lt_or_ge i zs.length with k | k
  · obtain ⟨x', a', n', c', y', e', m', f', h1, h2, h3, h4, h5⟩ := h i k
    refine ⟨x', a', n', c', y', e', m', f', ?_, ?_, ?_, ?_, ?_⟩
    · rw [List.getElem?_append_left (by omega)]; exact h1
    · rw [List.getElem?_append_left (by omega)]; exact h2
    · rw [List.getElem?_append_left (by omega)]; exact h3
    · rw [List.getElem?_append_left (by omega)]; exact h4
    · rw [List.getD_eq_getElem?_getD, List.getElem?_append_left k, ← List.getD_eq_getElem?_getD]; exact h5
  · have e1 : i = zs.length := by omega
    subst e1
    refine ⟨x, a, n, c, y, e, m, f, ?_, ?_, ?_, ?_, ?_⟩
    · rw [List.getElem?_append_right (by omega), hl, Nat.sub_self]; rfl
    · rw [List.getElem?_append_right (by omega), hl, show zs.length * 4 + 1 - zs.length * 4 = 1 by omega]; rfl
    · rw [List.getElem?_append_right (by omega), hl, show zs.length * 4 + 2 - zs.length * 4 = 2 by omega]; rfl
    · rw [List.getElem?_append_right (by omega), hl, show zs.length * 4 + 3 - zs.length * 4 = 3 by omega]; rfl
    · rw [List.getD_eq_getElem?_getD, List.getElem?_append_right (Nat.le_refl _), Nat.sub_self]; exact hz
/-- The cells xs are rationals' structs. -/
def ElsR4 (w : World) (xs : List Value) (zs : List Rat) : Prop :=
  ∀ i, i < zs.length → ∃ x a n c y e m f, xs[i * 4]? = some (.bool x) ∧ xs[i * 4 + 1]? = some (.slice a n c) ∧ xs[i * 4 + 2]? = some (.bool y) ∧ xs[i * 4 + 3]? = some (.slice e m f) ∧ QRP w x a n c y e m f (zs.getD i 0) 400
theorem ElsR4.nil (w : World) : ElsR4 w [] [] := fun i hi => by simp at hi
theorem ElsR4.keep {w w' : World} {xs : List Value} {zs : List Rat} (h : ElsR4 w xs zs) (hk : KeepI w w') : ElsR4 w' xs zs := by
  intro i hi
  obtain ⟨x, a, n, c, y, e, m, f, h1, h2, h3, h4, h5⟩ := h i hi
  exact ⟨x, a, n, c, y, e, m, f, h1, h2, h3, h4, h5.keepI hk⟩
theorem ElsR4.push {w : World} {xs : List Value} {zs : List Rat} (h : ElsR4 w xs zs) (hl : xs.length = zs.length * 4) {x : Bool} {a : Option Addr} {n c : Nat} {y : Bool} {e : Option Addr} {m f : Nat} {z : Rat} (hz : QRP w x a n c y e m f z 400) : ElsR4 w (xs ++ [.bool x, .slice a n c, .bool y, .slice e m f]) (zs ++ [z]) := by
  intro i hi
  rw [List.length_append, List.length_singleton] at hi
  rcases Nat.lt_or_ge i zs.length with k | k
  · obtain ⟨x', a', n', c', y', e', m', f', h1, h2, h3, h4, h5⟩ := h i k
    refine ⟨x', a', n', c', y', e', m', f', ?_, ?_, ?_, ?_, ?_⟩
    · rw [List.getElem?_append_left (by omega)]; exact h1
    · rw [List.getElem?_append_left (by omega)]; exact h2
    · rw [List.getElem?_append_left (by omega)]; exact h3
    · rw [List.getElem?_append_left (by omega)]; exact h4
    · rw [List.getD_eq_getElem?_getD, List.getElem?_append_left k, ← List.getD_eq_getElem?_getD]; exact h5
  · have e1 : i = zs.length := by omega
    subst e1
    refine ⟨x, a, n, c, y, e, m, f, ?_, ?_, ?_, ?_, ?_⟩
    · rw [List.getElem?_append_right (by omega), hl, Nat.sub_self]; rfl
    · rw [List.getElem?_append_right (by omega), hl, show zs.length * 4 + 1 - zs.length * 4 = 1 by omega]; rfl
    · rw [List.getElem?_append_right (by omega), hl, show zs.length * 4 + 2 - zs.length * 4 = 2 by omega]; rfl
    · rw [List.getElem?_append_right (by omega), hl, show zs.length * 4 + 3 - zs.length * 4 = 3 by omega]; rfl
    · rw [List.getD_eq_getElem?_getD, List.getElem?_append_right (Nat.le_refl _), Nat.sub_self]; exact hz
theorem Lst4.arrQ {e : TypeId} {base : Nat} {w : World} {v : Value} {n : Nat} {xs : List Value} {zs : List Rat} (h : Lst4 e base w v n xs) (he : Els4 w xs zs) (hl : zs.length = n) : ∃ ao cap, v = .slice ao n cap ∧ ArrQ w ao zs := by
  rcases h.2 with ⟨rfl, h0⟩ | ⟨g, cap, cur, rfl, h3, h4, h5, h6, _⟩
  · exact ⟨none, 0, by rw [h0], Or.inl (List.eq_nil_of_length_eq_zero (hl.trans h0))⟩
  · refine ⟨_, cap, rfl, ?_⟩
    rcases h.cells with k | ⟨g', cap', e1, _, _, _, _, h7⟩
    · exact Or.inl (List.eq_nil_of_length_eq_zero (hl.trans k))
    · cases e1
      refine Or.inr ⟨g, 0, rfl, fun i hi => ?_⟩
      obtain ⟨x, a, m, c, y, e2, m2, f, k1, k2, k3, k4, k5⟩ := he i hi
      exact ⟨x, a, m, c, y, e2, m2, f, by rw [Nat.zero_add]; exact h7 _ _ k1, by rw [Nat.zero_add]; exact h7 _ _ k2, by rw [Nat.zero_add]; exact h7 _ _ k3, by rw [Nat.zero_add]; exact h7 _ _ k4, k5⟩
theorem Lst4.arrR {e : TypeId} {base : Nat} {w : World} {v : Value} {n : Nat} {xs : List Value} {zs : List Rat} (h : Lst4 e base w v n xs) (he : ElsR4 w xs zs) (hl : zs.length = n) : ∃ ao cap, v = .slice ao n cap ∧ ArrQR w ao zs := by
  rcases h.2 with ⟨rfl, h0⟩ | ⟨g, cap, cur, rfl, h3, h4, h5, h6, _⟩
  · exact ⟨none, 0, by rw [h0], Or.inl (List.eq_nil_of_length_eq_zero (hl.trans h0))⟩
  · refine ⟨_, cap, rfl, ?_⟩
    rcases h.cells with k | ⟨g', cap', e1, _, _, _, _, h7⟩
    · exact Or.inl (List.eq_nil_of_length_eq_zero (hl.trans k))
    · cases e1
      refine Or.inr ⟨g, 0, rfl, fun i hi => ?_⟩
      obtain ⟨x, a, m, c, y, e2, m2, f, k1, k2, k3, k4, k5⟩ := he i hi
      exact ⟨x, a, m, c, y, e2, m2, f, ⟨by rw [Nat.zero_add]; exact h7 _ _ k1, by rw [Nat.zero_add]; exact h7 _ _ k2, by rw [Nat.zero_add]; exact h7 _ _ k3, by rw [Nat.zero_add]; exact h7 _ _ k4⟩, k5⟩
/-- What stands while the two lists grow. -/
structure SumS4 (w1 : World) (k : Nat) (vA vX : Value) (xsA xsX : List Value) (zs : List Rat) (z : Rat) (b6 b7 : Nat) (x : Bool) (a : Option Addr) (m c : Nat) (x' : Bool) (a' : Option Addr) (m' c' : Nat) (y : Bool) (d : Option Addr) (l f : Nat) (y' : Bool) (d' : Option Addr) (l' f' : Nat) (w' : World) : Prop where
  blkA : Blk 27 w' b6 #[.bool x, .slice a m c, .bool x', .slice a' m' c']
  blkX : Blk 32 w' b7 #[.bool y, .slice d l f, .bool y', .slice d' l' f']
  lstA : Lst4 27 w1.heap.size w' vA k xsA
  lstX : Lst4 32 w1.heap.size w' vX k xsX
  els : Els4 w' xsA zs
  elsR : ElsR4 w' xsX zs
  numA : QP w' x a m c x' a' m' c' z
  numX : QRP w' y d l f y' d' l' f' z 400
  bel : Below w1.heap.size w1 w'
  neA : vA.ownBlock ≠ some b6
  neX : vX.ownBlock ≠ some b7
section
variable {w1 : World} {k : Nat} {vA vX : Value} {xsA xsX : List Value} {zs : List Rat} {z : Rat} {b6 b7 : Nat} {x : Bool} {a : Option Addr} {m c : Nat} {x' : Bool} {a' : Option Addr} {m' c' : Nat} {y : Bool} {d : Option Addr} {l f : Nat} {y' : Bool} {d' : Option Addr} {l' f' : Nat} {w w' : World}
theorem SumS4.below (h : SumS4 w1 k vA vX xsA xsX zs z b6 b7 x a m c x' a' m' c' y d l f y' d' l' f' w) (hb : Below w.heap.size w w') : SumS4 w1 k vA vX xsA xsX zs z b6 b7 x a m c x' a' m' c' y d l f y' d' l' f' w' :=
  ⟨h.blkA.stay hb, h.blkX.stay hb, h.lstA.below hb, h.lstX.below hb, h.els.keep (KeepI.below hb), h.elsR.keep (KeepI.below hb), h.numA.below hb, h.numX.below hb, h.bel.step hb (Nat.le_refl _), h.neA, h.neX⟩
theorem SumS4.alloc (h : SumS4 w1 k vA vX xsA xsX zs z b6 b7 x a m c x' a' m' c' y d l f y' d' l' f' w) (o : Obj) : SumS4 w1 k vA vX xsA xsX zs z b6 b7 x a m c x' a' m' c' y d l f y' d' l' f' (w.alloc o) := h.below (below_new w o)
theorem SumS4.drew (h : SumS4 w1 k vA vX xsA xsX zs z b6 b7 x a m c x' a' m' c' y d l f y' d' l' f' w) : SumS4 w1 k vA vX xsA xsX zs z b6 b7 x a m c x' a' m' c' y d l f y' d' l' f' w.drew := h.below (Below.refl _ _).drew
theorem SumS4.appA (h : SumS4 w1 k vA vX xsA xsX zs z b6 b7 x a m c x' a' m' c' y d l f y' d' l' f' w) (hk : AppK4 27 w1.heap.size vA k xsA w w') : SumS4 w1 k vA vX xsA xsX zs z b6 b7 x a m c x' a' m' c' y d l f y' d' l' f' w' :=
  ⟨h.blkA.app4 hk h.neA, h.blkX.app4 hk (h.lstA.blk h.blkX (by decide)), hk.2.2.2.2, h.lstX.app hk (by decide), h.els.keep hk.2.1, h.elsR.keep hk.2.1, h.numA.keepI hk.2.1, h.numX.keepI hk.2.1, h.bel.trans hk.2.2.1, h.neA, h.neX⟩
theorem SumS4.appX (h : SumS4 w1 k vA vX xsA xsX zs z b6 b7 x a m c x' a' m' c' y d l f y' d' l' f' w) (hk : AppK4 32 w1.heap.size vX k xsX w w') : SumS4 w1 k vA vX xsA xsX zs z b6 b7 x a m c x' a' m' c' y d l f y' d' l' f' w' :=
  ⟨h.blkA.app4 hk (h.lstX.blk h.blkA (by decide)), h.blkX.app4 hk h.neX, h.lstA.app hk (by decide), hk.2.2.2.2, h.els.keep hk.2.1, h.elsR.keep hk.2.1, h.numA.keepI hk.2.1, h.numX.keepI hk.2.1, h.bel.trans hk.2.2.1, h.neA, h.neX⟩
theorem SumS4.all (h : SumS4 w1 k vA vX xsA xsX zs z b6 b7 x a m c x' a' m' c' y d l f y' d' l' f' w) :
    (w.cell? ⟨b6, 0, none⟩ = some (.bool x) ∧ w.cell? ⟨b6, 1, none⟩ = some (.slice a m c) ∧ w.cell? ⟨b6, 2, none⟩ = some (.bool x') ∧ w.cell? ⟨b6, 3, none⟩ = some (.slice a' m' c') ∧ w.cell? ⟨b7, 0, none⟩ = some (.bool y) ∧ w.cell? ⟨b7, 1, none⟩ = some (.slice d l f) ∧ w.cell? ⟨b7, 2, none⟩ = some (.bool y') ∧ w.cell? ⟨b7, 3, none⟩ = some (.slice d' l' f')) ∧ SumS4 w1 k vA vX xsA xsX zs z b6 b7 x a m c x' a' m' c' y d l f y' d' l' f' w :=
  ⟨⟨h.blkA.four.1, h.blkA.four.2.1, h.blkA.four.2.2.1, h.blkA.four.2.2.2, h.blkX.four.1, h.blkX.four.2.1, h.blkX.four.2.2.1, h.blkX.four.2.2.2⟩, h⟩
end
theorem ArrQR.below {w w' : World} {ao : Option Addr} {zs : List Rat} (h : ArrQR w ao zs) (hb : Below w.heap.size w w') : ArrQR w' ao zs := by
  rcases h with h | ⟨g, o, rfl, hc⟩
  · exact Or.inl h
  · refine Or.inr ⟨g, o, rfl, fun i hi => ?_⟩
    obtain ⟨x, a, n, c, y, e, m, f, ⟨h0, h1, h2, h3⟩, h4⟩ := hc i hi
    exact ⟨x, a, n, c, y, e, m, f, ⟨(hb.cell (p := ⟨g, o + i * 4, none⟩) (World.block_lt_of_cell? w _ h0)).trans h0, (hb.cell (p := ⟨g, o + i * 4 + 1, none⟩) (World.block_lt_of_cell? w _ h1)).trans h1, (hb.cell (p := ⟨g, o + i * 4 + 2, none⟩) (World.block_lt_of_cell? w _ h2)).trans h2, (hb.cell (p := ⟨g, o + i * 4 + 3, none⟩) (World.block_lt_of_cell? w _ h3)).trans h3⟩, h4.below hb⟩
end Go.Proofs.Ytidpbdhhbeaijab
