/- Joined: LinL, RegP, LinS, LinC: words and contracts; no statement of the seat is proved here. -/
import Derived.Test.YteefniagebcagaaGreatDoorJoin13Tells
import Derived.Lib.SliceRun
/- Lists of structs that a call makes by append: what they hold, and the law of one append, in a region that draws its order too; no statement of the seat is proved here. -/
namespace Go.Proofs.YteefniagebcagaaGreatDoor
open Go.RowKit
set_option linter.unusedVariables false

/-- A slice of n structs of sz cells each, the call's own; no cell of its block is a limb. -/
def LstG (sz : Nat) (e : TypeId) (base : Nat) (w : World) (v : Value) (n : Nat) (xs : List Value) : Prop :=
  xs.length = n * sz ∧ ((v = .slice none 0 0 ∧ n = 0) ∨
    ∃ g cap cur, v = .slice (some ⟨g, 0, none⟩) n cap ∧ base ≤ g ∧ w.heap[g]? = some (.cells cur e (0, 0)) ∧ n ≤ cap ∧ cap ≤ maxLen ∧ cur.size = cap * sz ∧ cur.toList.take (n * sz) = xs ∧ ∀ u ∈ cur.toList, NoU u)
section
variable {sz : Nat} {e : TypeId} {base : Nat} {w w' : World} {v : Value} {n : Nat} {xs : List Value}
theorem LstG.nil (sz : Nat) (e : TypeId) (base : Nat) (w : World) : LstG sz e base w (.slice none 0 0) 0 [] := ⟨by simp, Or.inl ⟨rfl, rfl⟩⟩
theorem LstG.owns (h : LstG sz e base w v n xs) : w.ownsRow base e sz v n xs := by
  refine ⟨h.1, ?_⟩
  rcases h.2 with h | ⟨g, cap, cur, h1, h2, h3, h4, h5, h6, h7, _⟩
  · exact Or.inl h
  · exact Or.inr ⟨g, cap, cur, h1, h2, h3, h4, h5, h6, h7⟩
theorem LstG.lt (h : LstG sz e base w v n xs) : ∀ b, v.ownBlock = some b → base ≤ b ∧ b < w.heap.size := World.ownsRow.lt h.owns
theorem LstG.stay (h : LstG sz e base w v n xs) (hb : ∀ b, v.ownBlock = some b → w'.heap[b]? = w.heap[b]?) : LstG sz e base w' v n xs := by
  refine ⟨h.1, ?_⟩
  rcases h.2 with hn | ⟨g, cap, cur, rfl, hbg, hg, r⟩
  · exact Or.inl hn
  · exact Or.inr ⟨g, cap, cur, rfl, hbg, (hb g rfl).trans hg, r⟩
theorem LstG.below (h : LstG sz e base w v n xs) (hb : Below w.heap.size w w') : LstG sz e base w' v n xs := h.stay fun b hv => hb.block b (h.lt b hv).2
theorem LstG.blk {t : TypeId} (h : LstG sz e base w v n xs) {b : Nat} {cs : Array Value} (hb : Blk t w b cs) (he : e ≠ t) : v.ownBlock ≠ some b := by
  intro hv
  rcases h.2 with ⟨rfl, _⟩ | ⟨g, cap, cur, rfl, _, hg, _⟩
  · cases hv
  · have e1 : g = b := by simpa [Value.ownBlock] using hv
    subst e1
    have hb' : w.heap[g]? = some (.cells cs t (0, 0)) := hb
    rw [hg] at hb'
    injection hb' with hb'
    injection hb' with _ h2
    exact he h2
theorem LstG.mono (h : LstG sz e base w v n xs) {base' : Nat} (hb : base' ≤ base) : LstG sz e base' w v n xs := by
  refine ⟨h.1, ?_⟩
  rcases h.2 with hn | ⟨g, cap, cur, rfl, hbg, r⟩
  · exact Or.inl hn
  · exact Or.inr ⟨g, cap, cur, rfl, Nat.le_trans hb hbg, r⟩
end
/-- What an append to v leaves. -/
structure AppG (sz : Nat) (e : TypeId) (base : Nat) (v : Value) (n : Nat) (xs : List Value) (w w' : World) : Prop where
  other : ∀ b, b < w.heap.size → v.ownBlock ≠ some b → w'.heap[b]? = w.heap[b]?
  keep : KeepN w w'
  bel : Below base w w'
  ahead : LstG sz e base w v n xs
  old : LstG sz e base w' v n xs
  size : w.heap.size ≤ w'.heap.size
theorem keepN_setRow {w : World} {g : Nat} {cur cur' : Array Value} {e : TypeId} (he : e ≠ 3) (hg : w.heap[g]? = some (.cells cur e (0, 0))) (hN : ∀ u ∈ cur.toList, NoU u) : KeepN w (w.setRow g cur') := by
  refine ⟨?_, fun b cs hb => ?_⟩
  · intro p x hp
    by_cases h : p.block = g
    · exfalso
      subst h
      obtain ⟨b, o, m⟩ := p
      have h1 : m = none ∧ cur[o]? = some (Value.int .u32 x) := by simpa [World.cell?, hg] using hp
      exact hN _ (by rw [Array.mem_toList_iff]; exact Array.mem_of_getElem? h1.2) x rfl
    · rw [World.cell?_of_block (w := w) (setRow_other w g p.block cur' h)]
      exact hp
  · by_cases h : b = g
    · subst h
      rw [hg] at hb
      injection hb with hb
      injection hb with _ h2
      exact absurd h2 he
    · exact (setRow_other w g b cur' h).trans hb
/-- The law of one append. -/
theorem run_append_g {P : Program} (w : World) (sz base : Nat) (t ty e : TypeId) (i : TypeInfo) (z : Value) (ht : P.underlying t = some (.slice e)) (hi : P.info? e = some i) (hz : i.zero = some z) (hsize : i.size = sz) (hby : i.bytes ≤ 1000) (hzs : z.cells.size = sz) (hsz : 0 < sz) (hzN : ∀ u ∈ z.cells.toList, NoU u) (hei : e ≠ 3)
    (v : Value) (n : Nat) (xs : List Value) (hown : LstG sz e base w v n xs) (a : Addr) (m c : Nat) (news : List Value) (hl : news.length = m * sz) (hnews : ∀ j u, news[j]? = some u → w.cell? (a.add j) = some u) (ho : ∀ u ∈ news, u.oneCell' = true) (hm : ∀ u ∈ news, NoU u) (hm0 : 0 < m ∨ v ≠ .slice none 0 0) (hn : n + m ≤ 100000) (hbase : base ≤ w.heap.size) :
    ∃ v' w', (Builtin.append_ #[t, t] ty #[v, .slice (some a) m c]).run P w = .ok v' w' ∧ LstG sz e base w' v' (n + m) (xs ++ news) ∧ AppG sz e base v n xs w w' ∧ v' ≠ .slice none 0 0 := by
  have hl' : news.length = m * i.size := by rw [hsize]; exact hl
  have hlen : (xs ++ news).length = (n + m) * sz := by rw [List.length_append, hown.1, hl, Nat.add_mul]
  have hmx : 200000 ≤ maxLen := by unfold maxLen; decide
  have hbytes : (n + m) * i.bytes ≤ 100000 * 1000 := Nat.mul_le_mul hn hby
  have belg : ∀ w', w.grownBy w' v.ownBlock → Below base w w' := fun w' k2 => ⟨k2.os, k2.tape, k2.output, k2.size, fun b hb1 => k2.block b (by omega) (fun e => by have := (hown.lt b e.symm).1; omega)⟩
  have grown : ∀ (old : Nat), old < n + m → (∀ u ∈ xs, NoU u) →
      LstG sz e base (w.drew.alloc (.cells (xs.toArray ++ news.toArray ++ Builtin.zeroCells z.cells (grownCap w (n + m) old e - (n + m))) e)) (.slice (some ⟨w.heap.size, 0, none⟩) (n + m) (grownCap w (n + m) old e)) (n + m) (xs ++ news) ∧
      w.grownBy (w.drew.alloc (.cells (xs.toArray ++ news.toArray ++ Builtin.zeroCells z.cells (grownCap w (n + m) old e - (n + m))) e)) v.ownBlock ∧
      Below w.heap.size w (w.drew.alloc (.cells (xs.toArray ++ news.toArray ++ Builtin.zeroCells z.cells (grownCap w (n + m) old e - (n + m))) e)) := by
    intro old ho' hxs
    have hge := grownCap_ge w (n + m) old e
    have hcm : grownCap w (n + m) old e ≤ maxLen := grownCap_le_maxLen w (n + m) old e (by omega)
    refine ⟨⟨hlen, Or.inr ⟨w.heap.size, _, _, rfl, hbase, heap_alloc_new w.drew _, hge, hcm, ?_, ?_, ?_⟩⟩, ⟨rfl, rfl, rfl, by simp, fun k hk _ => Below.heap_alloc w.drew _ k hk⟩, ⟨rfl, rfl, rfl, by simp, fun k hk => Below.heap_alloc w.drew _ k hk⟩⟩
    · simp only [Array.size_append, List.size_toArray, size_zeroCells, hzs, hown.1, hl]
      rw [← Nat.add_mul, ← Nat.add_mul]
      congr 1
      omega
    · simp only [Array.toList_append, List.append_assoc]
      rw [← List.append_assoc, ← hlen]
      exact List.take_left
    · intro u hu
      simp only [Array.toList_append, List.mem_append] at hu
      rcases hu with (hu | hu) | hu
      · exact hxs u hu
      · exact hm u hu
      · exact hzN u (mem_zeroCells hu)
  rcases hown.2 with ⟨rfl, rfl⟩ | ⟨g, cap, cur, rfl, hbg, hg, hnc, hcm, hcs, htake, hN⟩
  · have hx : xs = [] := List.eq_nil_of_length_eq_zero (by simpa using hown.1)
    subst hx
    have hm1 : 0 < m := by
      rcases hm0 with k | k
      · exact k
      · exact absurd rfl k
    have hr := run_append_nil (P := P) w t ty e i z ht hi hz a m c news hl' hnews hm1 (by omega) (by rw [Nat.zero_add] at hbytes; omega)
    have hgr := grown 0 (by omega) (by simp)
    simp only [Nat.zero_add, List.nil_append, Array.empty_append] at hgr ⊢
    exact ⟨_, _, hr, hgr.1, ⟨fun b h1 h2 => hgr.2.1.block b h1 (fun e => h2 e.symm), KeepN.below hgr.2.2, belg _ hgr.2.1, hown, hown.below hgr.2.2, hgr.2.1.size⟩, (fun h => by cases h)⟩
  · by_cases hroom : n + m ≤ cap
    · have hfit : n * i.size + news.length ≤ cur.size := by rw [hsize, hcs, hl, ← Nat.add_mul]; exact Nat.mul_le_mul_right _ hroom
      have hr := run_append_room (P := P) w t ty e i ht hi g n cap cur hg a m c news hl' hnews ho hroom hfit
      rw [hsize] at hr hfit
      have ln : n * sz ≤ cur.size := by rw [hcs]; exact Nat.mul_le_mul_right _ hnc
      have q1 : (cur.toList.take (n * sz) ++ news ++ cur.toList.drop (n * sz + news.length)).toArray.size = cap * sz := by
        simp only [List.size_toArray, List.length_append, List.length_take, List.length_drop, Array.length_toList]
        omega
      have q2 : (cur.toList.take (n * sz) ++ news ++ cur.toList.drop (n * sz + news.length)).toArray.toList.take ((n + m) * sz) = xs ++ news := by
        rw [htake, ← hlen]
        exact List.take_left
      have q3 : (cur.toList.take (n * sz) ++ news ++ cur.toList.drop (n * sz + news.length)).toArray.toList.take (n * sz) = xs := by
        rw [htake, ← hown.1]
        simp only [List.append_assoc]
        exact List.take_left
      have q4 : ∀ u ∈ (cur.toList.take (n * sz) ++ news ++ cur.toList.drop (n * sz + news.length)).toArray.toList, NoU u := by
        intro u hu
        simp only [List.mem_append] at hu
        rcases hu with (hu | hu) | hu
        · exact hN u (List.mem_of_mem_take hu)
        · exact hm u hu
        · exact hN u (List.mem_of_mem_drop hu)
      have hgb : w.grownBy (w.setRow g (cur.toList.take (n * sz) ++ news ++ cur.toList.drop (n * sz + news.length)).toArray) (Value.ownBlock (.slice (some ⟨g, 0, none⟩) n cap)) :=
        ⟨rfl, rfl, rfl, by simp, fun k _ hk => setRow_other w g k _ (fun e => hk (by simp [Value.ownBlock, e]))⟩
      exact ⟨_, _, hr, ⟨hlen, Or.inr ⟨g, cap, _, rfl, hbg, setRow_heap w g cur _ e _ hg, hroom, hcm, q1, q2, q4⟩⟩, ⟨fun b h1 h2 => hgb.block b h1 (fun e => h2 e.symm), keepN_setRow hei hg hN, belg _ hgb, hown, ⟨hown.1, Or.inr ⟨g, cap, _, rfl, hbg, setRow_heap w g cur _ e _ hg, hnc, hcm, q1, q3, q4⟩⟩, hgb.size⟩, (fun h => by cases h)⟩
    · have holds : ∀ j u, xs[j]? = some u → w.cell? ((⟨g, 0, none⟩ : Addr).add j) = some u := hown.owns.cells (g := g) rfl
      have hr := run_append_grow (P := P) w t ty e i z ht hi hz ⟨g, 0, none⟩ n cap xs (by rw [hsize]; exact hown.1) holds a m c news hl' hnews (by omega) (by omega) (growslice_fits (by omega) (by omega))
      have hgr := grown cap (by omega) (fun u hu => hN u (List.mem_of_mem_take (by rw [htake]; exact hu)))
      exact ⟨_, _, hr, hgr.1, ⟨fun b h1 h2 => hgr.2.1.block b h1 (fun e => h2 e.symm), KeepN.below hgr.2.2, belg _ hgr.2.1, hown, hown.below hgr.2.2, hgr.2.1.size⟩, (fun h => by cases h)⟩
/-- An append in a row of operations. -/
theorem wp_append_g {P : Program} {w : World} {o : Oper} {a : Act} {K : Act → World → Prop} {Q : Exit → Act → World → Prop} (s x : Operand) (t : TypeId)
    (ho : o.op = .call { callee := .builtin .append, args := #[s, x], argTypes := #[t, t] })
    (sz base : Nat) (e : TypeId) (z : Value) (bytes : Nat) (h1 : P.underlying t = some (.slice e)) (h2 : (P.info? e).map (fun i => (i.zero, i.size, i.bytes)) = some (some z, sz, bytes)) (hby : bytes ≤ 1000) (hzs : z.cells.size = sz) (hsz : 0 < sz) (hzN : ∀ u ∈ z.cells.toList, NoU u) (hei : e ≠ 3)
    (v : Value) (n : Nat) (xs : List Value) (hs : a.eval s = v) (hown : LstG sz e base w v n xs) (ad : Addr) (m c : Nat) (news : List Value) (hx : a.eval x = .slice (some ad) m c) (hl : news.length = m * sz) (hnews : ∀ j u, news[j]? = some u → w.cell? (ad.add j) = some u) (hoc : ∀ u ∈ news, u.oneCell' = true) (hm : ∀ u ∈ news, NoU u) (hm0 : 0 < m ∨ v ≠ .slice none 0 0) (hn : n + m ≤ 100000) (hbase : base ≤ w.heap.size)
    (h : ∀ v' w', LstG sz e base w' v' (n + m) (xs ++ news) → AppG sz e base v n xs w w' → v' ≠ .slice none 0 0 → K (a.put o.dst v') w') : Oper.wp P o a w K Q := by
  obtain ⟨i, hi, hz0, hz1, hz2⟩ := info_parts h2
  obtain ⟨v', w', hr, k1, k2, k3⟩ := run_append_g (P := P) w sz base t o.type e i z h1 hi hz0 hz1 (by omega) hzs hsz hzN hei v n xs hown ad m c news hl hnews hoc hm hm0 hn hbase
  unfold Oper.wp execOp
  simp only [ho, resolve, invoke, builtin, Sem.run_bind, Sem.run_pure, Result.andThen_ok, List.map_toArray, List.map_cons, List.map_nil, hs, hx, hr]
  exact h v' w' k1 k2 k3
theorem wpList_append_g {P : Program} {w : World} {ops : Array Oper} {rest : List Oper} {o : Oper} {a : Act} {Q : Exit → Act → World → Prop} (hgd : o.guard = none) (s x : Operand) (t : TypeId)
    (ho : o.op = .call { callee := .builtin .append, args := #[s, x], argTypes := #[t, t] })
    (sz base : Nat) (e : TypeId) (z : Value) (bytes : Nat) (h1 : P.underlying t = some (.slice e)) (h2 : (P.info? e).map (fun i => (i.zero, i.size, i.bytes)) = some (some z, sz, bytes)) (hby : bytes ≤ 1000) (hzs : z.cells.size = sz) (hsz : 0 < sz) (hzN : ∀ u ∈ z.cells.toList, NoU u) (hei : e ≠ 3)
    (v : Value) (n : Nat) (xs : List Value) (hs : a.eval s = v) (hown : LstG sz e base w v n xs) (ad : Addr) (m c : Nat) (news : List Value) (hx : a.eval x = .slice (some ad) m c) (hl : news.length = m * sz) (hnews : ∀ j u, news[j]? = some u → w.cell? (ad.add j) = some u) (hoc : ∀ u ∈ news, u.oneCell' = true) (hm : ∀ u ∈ news, NoU u) (hm0 : 0 < m ∨ v ≠ .slice none 0 0) (hn : n + m ≤ 100000) (hbase : base ≤ w.heap.size)
    (h : ∀ v' w', LstG sz e base w' v' (n + m) (xs ++ news) → AppG sz e base v n xs w w' → v' ≠ .slice none 0 0 → wpList P ops Q rest (a.put o.dst v') w') : wpList P ops Q (o :: rest) a w :=
  wpList_plain hgd fun _ hK => wp_append_g s x t ho sz base e z bytes h1 h2 hby hzs hsz hzN hei v n xs hs hown ad m c news hx hl hnews hoc hm hm0 hn hbase fun v' w' k1 k2 k3 => hK _ _ (h v' w' k1 k2 k3)

/-- The cells xs are parts. -/
def ElsP (w : World) (xs : List Value) (ps : List (Nat × Int)) : Prop :=
  ∀ i, i < ps.length → ∃ s a n c, xs[i * 3]? = some (.int .i64 ((ps.getD i (0, 0)).1 : Nat)) ∧ xs[i * 3 + 1]? = some (.bool s) ∧ xs[i * 3 + 2]? = some (.slice a n c) ∧ AInt w (.agg #[.bool s, .slice a n c]) (ps.getD i (0, 0)).2
theorem ElsP.nil (w : World) : ElsP w [] [] := fun i hi => by simp at hi
theorem ElsP.keep {w w' : World} {xs : List Value} {ps : List (Nat × Int)} (h : ElsP w xs ps) (hk : KeepN w w') : ElsP w' xs ps := by
  intro i hi
  obtain ⟨s, a, n, c, h1, h2, h3, h4⟩ := h i hi
  exact ⟨s, a, n, c, h1, h2, h3, h4.keepN hk⟩
theorem ElsP.app {w : World} {xs ys : List Value} {ps qs : List (Nat × Int)} (h : ElsP w xs ps) (hl : xs.length = ps.length * 3) (k : ElsP w ys qs) : ElsP w (xs ++ ys) (ps ++ qs) := by
  intro i hi
  rw [List.length_append] at hi
  rcases Nat.lt_or_ge i ps.length with j | j
  · obtain ⟨s, a, n, c, h1, h2, h3, h4⟩ := h i j
    have e : (ps ++ qs).getD i (0, 0) = ps.getD i (0, 0) := by rw [List.getD_eq_getElem?_getD, List.getElem?_append_left j, ← List.getD_eq_getElem?_getD]
    rw [e]
    refine ⟨s, a, n, c, ?_, ?_, ?_, h4⟩
    · rw [List.getElem?_append_left (by omega)]; exact h1
    · rw [List.getElem?_append_left (by omega)]; exact h2
    · rw [List.getElem?_append_left (by omega)]; exact h3
  · obtain ⟨s, a, n, c, h1, h2, h3, h4⟩ := k (i - ps.length) (by omega)
    have e : (ps ++ qs).getD i (0, 0) = qs.getD (i - ps.length) (0, 0) := by rw [List.getD_eq_getElem?_getD, List.getElem?_append_right j, ← List.getD_eq_getElem?_getD]
    have e2 : i * 3 - xs.length = (i - ps.length) * 3 := by rw [hl, Nat.sub_mul]
    rw [e]
    refine ⟨s, a, n, c, ?_, ?_, ?_, h4⟩
    · rw [List.getElem?_append_right (by omega), e2]; exact h1
    · rw [List.getElem?_append_right (by omega), show i * 3 + 1 - xs.length = (i - ps.length) * 3 + 1 by omega]; exact h2
    · rw [List.getElem?_append_right (by omega), show i * 3 + 2 - xs.length = (i - ps.length) * 3 + 2 by omega]; exact h3
theorem ElsP.one {w : World} {v : Nat} {s : Bool} {a : Option Addr} {n c : Nat} {z : Int} (h : AInt w (.agg #[.bool s, .slice a n c]) z) : ElsP w [.int .i64 v, .bool s, .slice a n c] [(v, z)] := by
  intro i hi
  have : i = 0 := by simpa using hi
  subst this
  exact ⟨s, a, n, c, rfl, rfl, rfl, h⟩
/-- Such a list is a row of parts. -/
theorem LstG.parr {base : Nat} {w : World} {v : Value} {n : Nat} {xs : List Value} {ps : List (Nat × Int)} (h : LstG 3 116 base w v n xs) (he : ElsP w xs ps) (hl : ps.length = n) : ∃ ao cap, v = .slice ao n cap ∧ n ≤ cap ∧ cap ≤ maxLen ∧ (ao = none → cap = 0) ∧ PArr w ao ps := by
  rcases h.2 with ⟨rfl, h0⟩ | ⟨g, cap, cur, rfl, h3, h4, h5, h6, h7, h8, _⟩
  · exact ⟨none, 0, by rw [h0], by omega, Nat.zero_le _, fun _ => rfl, Or.inl (List.eq_nil_of_length_eq_zero (hl.trans h0))⟩
  · refine ⟨_, cap, rfl, h5, h6, (fun e => by cases e), Or.inr ⟨g, 0, cur, rfl, h4, fun i hi => ?_⟩⟩
    obtain ⟨s, a, m, c, k1, k2, k3, k4⟩ := he i hi
    have q : ∀ (j : Nat) u, xs[j]? = some u → cur[j]? = some u := by
      intro j u hj
      have hj' : j < xs.length := (List.getElem?_eq_some_iff.1 hj).1
      rw [← h8, List.getElem?_take] at hj
      split at hj
      · rw [← Array.getElem?_toList]; exact hj
      · cases hj
    exact ⟨s, a, m, c, by rw [Nat.zero_add]; exact q _ _ k1, by rw [Nat.zero_add]; exact q _ _ k2, by rw [Nat.zero_add]; exact q _ _ k3, k4⟩
/-- The cells of a row of parts, as a list. -/
theorem PArr.cells {w : World} {ao : Option Addr} {ps : List (Nat × Int)} (h : PArr w ao ps) (hp : 0 < ps.length) : ∃ g o xs, ao = some ⟨g, o, none⟩ ∧ xs.length = ps.length * 3 ∧ ElsP w xs ps ∧ (∀ j u, xs[j]? = some u → w.cell? ((⟨g, o, none⟩ : Addr).add j) = some u) ∧ (∀ u ∈ xs, u.oneCell' = true) ∧ ∀ u ∈ xs, NoU u := by
  rcases h with h | ⟨g, o, cur, rfl, hg, hc⟩
  · subst h; simp at hp
  · have hlen : o + ps.length * 3 ≤ cur.size := by
      obtain ⟨_, _, _, _, _, _, h3, _⟩ := hc (ps.length - 1) (by omega)
      have := (Array.getElem?_eq_some_iff.1 h3).1
      omega
    refine ⟨g, o, (cur.toList.drop o).take (ps.length * 3), rfl, by simp; omega, ?_, ?_, ?_, ?_⟩
    · intro i hi
      obtain ⟨s, a, n, c, h1, h2, h3, h4⟩ := hc i hi
      refine ⟨s, a, n, c, ?_, ?_, ?_, h4⟩
      · rw [List.getElem?_take, if_pos (by omega), List.getElem?_drop, Array.getElem?_toList]; exact h1
      · rw [List.getElem?_take, if_pos (by omega), List.getElem?_drop, Array.getElem?_toList]; exact h2
      · rw [List.getElem?_take, if_pos (by omega), List.getElem?_drop, Array.getElem?_toList]; exact h3
    · intro j u hj
      rw [List.getElem?_take] at hj
      split at hj
      · rw [List.getElem?_drop, Array.getElem?_toList] at hj
        rw [Addr.add_lit, cell_of_row w g _ cur _ (0, 0) hg]; exact hj
      · cases hj
    all_goals
      intro u hu
      obtain ⟨j, hj⟩ := List.mem_iff_getElem?.1 hu
      rw [List.getElem?_take] at hj
      split at hj
      · rename_i hj3
        rw [List.getElem?_drop, Array.getElem?_toList] at hj
        obtain ⟨s, a, n, c, h1, h2, h3, h4⟩ := hc (j / 3) (by omega)
        have hm : j % 3 = 0 ∨ j % 3 = 1 ∨ j % 3 = 2 := by omega
        rcases hm with k | k | k
        · rw [show o + j = o + j / 3 * 3 by omega, h1] at hj; cases hj; first | rfl | exact noU_i64 _
        · rw [show o + j = o + j / 3 * 3 + 1 by omega, h2] at hj; cases hj; first | rfl | exact noU_bool _
        · rw [show o + j = o + j / 3 * 3 + 2 by omega, h3] at hj; cases hj; first | rfl | exact noU_slice _ _ _
      · cases hj
theorem set_split (l : List Value) (i : Nat) (v : Value) (r : List Value) (h : i + (r.length + 1) ≤ l.length) :
    (l.set i v).take (i + 1) ++ r ++ (l.set i v).drop (i + 1 + r.length) = l.take i ++ v :: r ++ l.drop (i + (r.length + 1)) := by
  have hi : i < l.length := by omega
  rw [List.take_succ_eq_append_getElem (by rw [List.length_set]; exact hi), List.getElem_set_self, List.take_set_of_le (Nat.le_refl _), List.drop_set_of_lt (by omega), show i + 1 + r.length = i + (r.length + 1) by omega]
  simp
theorem Blk.putS {t : TypeId} {b : Nat} : ∀ (vs : List Value) {w : World} {cs : Array Value} (i : Nat), Blk t w b cs → i + vs.length ≤ cs.size → Blk t (stores w b i vs) b ((cs.toList.take i ++ vs ++ cs.toList.drop (i + vs.length)).toArray)
  | [], w, cs, i, h, hl => by
    have e : (cs.toList.take i ++ [] ++ cs.toList.drop (i + 0)).toArray = cs := by
      rw [List.append_nil, Nat.add_zero, List.take_append_drop, Array.toArray_toList]
    simp only [List.length_nil]
    rw [e]; exact h
  | v :: r, w, cs, i, h, hl => by
    simp only [List.length_cons] at hl ⊢
    have h2 := Blk.putS r (i + 1) (h.set i v) (by rw [Array.size_setIfInBounds]; omega)
    rw [Array.toList_setIfInBounds, set_split cs.toList i v r (by rw [Array.length_toList]; exact hl)] at h2
    exact h2
/-- Cells of the list are written. -/
theorem LstG.putA {sz : Nat} {e : TypeId} {base : Nat} {w : World} {g n cap : Nat} {xs : List Value} (h : LstG sz e base w (.slice (some ⟨g, 0, none⟩) n cap) n xs) (i : Nat) (vs : List Value) (hi : i + vs.length ≤ n * sz) (hN : ∀ u ∈ vs, NoU u) :
    LstG sz e base (stores w g i vs) (.slice (some ⟨g, 0, none⟩) n cap) n (xs.take i ++ vs ++ xs.drop (i + vs.length)) := by
  rcases h.2 with ⟨h0, _⟩ | ⟨g', cap', cur, he, hbg, hg, h5, h6, h7, h8, h9⟩
  · cases h0
  · cases he
    have hn : n * sz ≤ cap * sz := Nat.mul_le_mul_right _ h5
    have hB := Blk.putS vs i (show Blk e w g cur from hg) (by omega)
    refine ⟨by simp only [List.length_append, List.length_take, List.length_drop, h.1]; omega, Or.inr ⟨g, cap, _, rfl, hbg, hB, h5, h6, ?_, ?_, ?_⟩⟩
    · simp only [List.size_toArray, List.length_append, List.length_take, List.length_drop, Array.length_toList, h7]; omega
    · rw [List.toList_toArray, ← h8]
      have e1 : (cur.toList.take (n * sz)).take i = cur.toList.take i := by rw [List.take_take, Nat.min_eq_left (by omega)]
      rw [e1, List.drop_take]
      rw [show n * sz = (cur.toList.take i ++ vs).length + (n * sz - (i + vs.length)) by simp only [List.length_append, List.length_take, Array.length_toList, h7]; omega, List.take_length_add_append]
      congr 2
      simp only [List.length_append, List.length_take, Array.length_toList, h7]; omega
    · intro u hu
      rw [List.toList_toArray, List.mem_append, List.mem_append] at hu
      rcases hu with (hu | hu) | hu
      · exact h9 u (List.mem_of_mem_take hu)
      · exact hN u hu
      · exact h9 u (List.mem_of_mem_drop hu)
theorem LstG.cell {sz : Nat} {e : TypeId} {base : Nat} {w : World} {g n cap : Nat} {xs : List Value} (h : LstG sz e base w (.slice (some ⟨g, 0, none⟩) n cap) n xs) (i : Nat) (hi : i < n * sz) : ∃ u, w.cell? ⟨g, i, none⟩ = some u ∧ xs[i]? = some u := by
  rcases h.2 with ⟨h0, _⟩ | ⟨g', cap', cur, he, hbg, hg, h5, h6, h7, h8, h9⟩
  · cases h0
  · cases he
    have hi2 : i < xs.length := by rw [h.1]; exact hi
    refine ⟨xs[i], ?_, by simp [hi2]⟩
    rw [cell_of_row w g i cur e (0, 0) hg]
    have : xs[i]? = some xs[i] := by simp [hi2]
    rw [← this, ← h8, List.getElem?_take, if_pos hi, Array.getElem?_toList]
theorem LstG.frozen {sz : Nat} {e : TypeId} {base : Nat} {w : World} {g n cap : Nat} {xs : List Value} (h : LstG sz e base w (.slice (some ⟨g, 0, none⟩) n cap) n xs) (i : Nat) : w.frozen? ⟨g, i, none⟩ = false := by
  rcases h.2 with ⟨h0, _⟩ | ⟨g', cap', cur, he, hbg, hg, _⟩
  · cases h0
  · cases he; exact frozen_of_row w g i cur e hg
theorem LstG.blkG {sz : Nat} {e : TypeId} {base : Nat} {w : World} {g n cap : Nat} {xs : List Value} (h : LstG sz e base w (.slice (some ⟨g, 0, none⟩) n cap) n xs) : ∃ cur, Blk e w g cur ∧ (∀ u ∈ cur.toList, NoU u) ∧ base ≤ g := by
  rcases h.2 with ⟨h0, _⟩ | ⟨g', cap', cur, he, hbg, hg, _, _, _, _, h9⟩
  · cases h0
  · cases he; exact ⟨cur, hg, h9, hbg⟩
theorem mem_madeCells {z : Array Value} {n : Nat} {u : Value} (hz : 0 < z.size) (h : u ∈ (madeCells z n).toList) : u ∈ z.toList := by
  simp [madeCells] at h
  obtain ⟨a, ha, rfl⟩ := h
  have hm := Nat.mod_lt a hz
  rw [getElem!_pos z (a % z.size) hm]
  simp
/-- 'make([]T, l, c)' of structs. -/
theorem wpList_make_g {P : Program} (w : World) {ops : Array Oper} {rest : List Oper} {o : Oper} {a : Act} {Q : Exit → Act → World → Prop}
    (hg : o.guard = none) (l c : Operand) (t : TypeId) (hop : o.op = Op.makeSlice t l c) (sz : Nat)
    (e : TypeId) (z : Value) (bytes : Nat) (h1 : P.underlying t = some (.slice e)) (h2 : (P.info? e).map (fun i => (i.zero, i.size, i.bytes)) = some (some z, sz, bytes)) (hzs : z.cells.size = sz) (hsz : 0 < sz) (hzN : ∀ u ∈ z.cells.toList, NoU u)
    (kl kc : IntKind) (L C : Int) (n m : Nat) (hl : a.eval l = .int kl L) (hc : a.eval c = .int kc C) (hL : L = (n : Int)) (hC : C = (m : Int)) (hby : bytes ≤ 1000) (hnn : n ≤ m) (hm : m ≤ 100000)
    (hK : ∀ w' xs, LstG sz e w.heap.size w' (.slice (some ⟨w.heap.size, 0, none⟩) n m) n xs → Below w.heap.size w w' → w'.heap.size = w.heap.size + 1 → wpList P ops Q rest (a.put o.dst (.slice (some ⟨w.heap.size, 0, none⟩) n m)) w') :
    wpList P ops Q (o :: rest) a w := by
  obtain ⟨i, hi, hz0, hz1, hz2⟩ := info_parts h2
  subst hL
  subst hC
  refine wpList_plain hg fun K hK' => ?_
  have b2 : bytes * m ≤ 1000 * 100000 := Nat.mul_le_mul hby hm
  have hb' : (i.bytes : Int) * (m : Int) ≤ 281474976710656 := by
    rw [hz2]
    have h : ((bytes * m : Nat) : Int) ≤ 281474976710656 := by omega
    rwa [Int.natCast_mul] at h
  have hr := run_make (P := P) w t e i z h1 hi hz0 kl kc n m (by omega) (by omega) hb' (by omega)
  simp only [Int.toNat_natCast, hz1] at hr
  have hmx : 200000 ≤ maxLen := by unfold maxLen; decide
  unfold Oper.wp
  simp [execOp, hop, hl, hc, hr, Result.andThen]
  refine hK' _ _ (hK _ ((madeCells z.cells (m * sz)).toList.take (n * sz)) ?_ ?_ ?_)
  · have hle : n * sz ≤ m * sz := Nat.mul_le_mul_right _ hnn
    refine ⟨by simp only [List.length_take, Array.length_toList, size_madeCells]; omega, Or.inr ⟨w.heap.size, m, _, rfl, Nat.le_refl _, heap_alloc_new w _, hnn, by omega, size_madeCells _ _, rfl, fun u hu => hzN u (mem_madeCells (by omega) hu)⟩⟩
  · exact (Below.refl _ _).alloc (Nat.le_refl _) _
  · simp
theorem AppG.refl {sz : Nat} {e : TypeId} {base : Nat} {v : Value} {n : Nat} {xs : List Value} {w : World} (h : LstG sz e base w v n xs) : AppG sz e base v n xs w w := ⟨fun _ _ _ => rfl, KeepN.refl w, Below.refl _ _, h, h, Nat.le_refl _⟩
theorem LstG.keepP {base : Nat} {w w' : World} {v : Value} {n : Nat} {xs : List Value} (h : LstG 3 116 base w v n xs) (hk : KeepP w w') : LstG 3 116 base w' v n xs := by
  refine h.stay fun b hb => ?_
  rcases h.2 with ⟨rfl, _⟩ | ⟨g, cap, cur, rfl, _, hg, _⟩
  · cases hb
  · have e1 : g = b := by simpa [Value.ownBlock] using hb
    subst e1
    exact (hk.p _ _ hg).trans hg.symm
/-- 'append(out, src...)', src parts from wherever. -/
theorem wpList_append_pts {P : Program} {w : World} {ops : Array Oper} {rest : List Oper} {o : Oper} {a : Act} {Q : Exit → Act → World → Prop} (hgd : o.guard = none) (s x : Operand) (t : TypeId)
    (ho : o.op = .call { callee := .builtin .append, args := #[s, x], argTypes := #[t, t] })
    (base : Nat) (bytes : Nat) (h1 : P.underlying t = some (.slice 116)) (h2 : (P.info? 116).map (fun i => (i.zero, i.size, i.bytes)) = some (some (.agg #[.int .i64 0, .bool false, .slice none 0 0]), 3, bytes)) (hby : bytes ≤ 1000)
    (v : Value) (ps : List (Nat × Int)) (xs : List Value) (hs : a.eval s = v) (hown : LstG 3 116 base w v ps.length xs) (hE : ElsP w xs ps) (qs : List (Nat × Int)) (ao : Option Addr) (m c : Nat) (hx : a.eval x = .slice ao m c) (hm : qs.length = m) (hnone : ao = none → c = 0) (hmc : m ≤ c) (hq : PArr w ao qs) (hn : ps.length + m ≤ 100000) (hbase : base ≤ w.heap.size)
    (h : ∀ v' w' ys, LstG 3 116 base w' v' (ps ++ qs).length ys → ElsP w' ys (ps ++ qs) → AppG 3 116 base v ps.length xs w w' → (v ≠ .slice none 0 0 → v' ≠ .slice none 0 0) → wpList P ops Q rest (a.put o.dst v') w') : wpList P ops Q (o :: rest) a w := by
  subst hm
  obtain ⟨i, hi, hz0, hz1, hz2⟩ := info_parts h2
  cases ao with
  | none =>
    have hc := hnone rfl
    subst hc
    have h0 : qs = [] := List.eq_nil_of_length_eq_zero (by omega)
    subst h0
    refine wpList_append_own_none hgd s x t ho base _ i 3 h1 hi v ps.length _ hs hown.owns (by simpa using hx) ?_
    exact h v w xs (by simpa using hown) (by simpa using hE) (AppG.refl hown) (fun h => h)
  | some ad =>
    rcases Nat.eq_zero_or_pos qs.length with h0 | h0
    · have h0' : qs = [] := List.eq_nil_of_length_eq_zero h0
      subst h0'
      by_cases hv : v = .slice none 0 0
      · have hp0 : ps = [] := by
          rcases hown.2 with ⟨_, k⟩ | ⟨g, cap, cur, k, _⟩
          · exact List.eq_nil_of_length_eq_zero k
          · rw [hv] at k; cases k
        subst hp0
        have hx0 : xs = [] := List.eq_nil_of_length_eq_zero (by simpa using hown.1)
        subst hx0
        refine wpList_append_own w hgd s x t ho base 116 i (.agg #[.int .i64 0, .bool false, .slice none 0 0]) 3 bytes h1 hi hz0 hz1 hz2 rfl (by decide) v 0 [] hs hown.owns ad 0 c [] (by simpa using hx) rfl (by simp) (by simp) (by unfold maxLen; decide) (by simp) hbase ?_
        intro v' w' k1 k2 k3
        have k4 : v' = .slice none 0 0 := k3.2 ⟨hv, rfl⟩
        have hbl : Below w.heap.size w w' := ⟨k2.os, k2.tape, k2.output, k2.size, fun b hb => k2.block b hb (by rw [hv]; simp [Value.ownBlock])⟩
        subst k4
        refine h _ w' [] (LstG.nil _ _ _ _) (ElsP.nil _) ⟨fun b hb _ => hbl.block b hb, KeepN.below hbl, hbl.mono hbase, hown, hown.below hbl, hbl.size⟩ (fun h => absurd hv h)
      · refine wpList_append_g hgd s x t ho 3 base _ _ bytes h1 h2 hby rfl (by decide) (nuP _ _ _ _ _) (by decide) v ps.length xs hs hown ad 0 c [] (by simpa using hx) rfl (by simp) (by simp) (by simp) (Or.inr hv) (by simpa using hn) hbase ?_
        intro v' w' k1 k2 k3
        exact h v' w' xs (by simpa using k1) (by simpa using hE.keep k2.keep) k2 (fun _ => k3)
    · obtain ⟨g, o', ys, had, hxl, hE2, hcells, hone, hNU⟩ := hq.cells h0
      cases had
      refine wpList_append_g hgd s x t ho 3 base _ _ bytes h1 h2 hby rfl (by decide) (nuP _ _ _ _ _) (by decide) v ps.length xs hs hown _ qs.length c ys hx hxl hcells hone hNU (Or.inl h0) hn hbase ?_
      intro v' w' k1 k2 k3
      refine h v' w' (xs ++ ys) (by rw [List.length_append]; exact k1) ?_ k2 (fun _ => k3)
      exact (hE.keep k2.keep).app hown.1 (hE2.keep k2.keep)
end Go.Proofs.YteefniagebcagaaGreatDoor
/- What slots and variables hold in a region that draws its order, for terms and rows too; no statement of the seat is proved here. -/
namespace Go.Proofs.YteefniagebcagaaGreatDoor
open Go Go.RowKit
set_option linter.unusedVariables false

def TRM (ps : List (Nat × Int)) (r : Int) : Value → World → Prop := fun u w => TermR w u ps r
/-- A slice of parts. -/
def PTS (ps : List (Nat × Int)) : Value → World → Prop := fun u w => ∃ ao n cap, u = .slice ao n cap ∧ ps.length = n ∧ n ≤ cap ∧ cap ≤ maxLen ∧ (ao = none → cap = 0) ∧ PArr w ao ps
/-- What stays while limbs and rows of ints stay. -/
def MonoN (p : Value → World → Prop) : Prop := ∀ u w w', KeepN w w' → p u w → p u w'
/-- What stays while limbs, rows of ints and rows of parts stay. -/
def MonoP (p : Value → World → Prop) : Prop := ∀ u w w', KeepP w w' → p u w → p u w'
theorem MonoN.p {p : Value → World → Prop} (h : MonoN p) : MonoP p := fun u w w' hk => h u w w' hk.n
theorem mn_is {v : Value} : MonoN (IS v) := fun _ _ _ _ h => h
theorem mn_int {z : Int} : MonoN (INT z) := fun _ _ _ hk h => AInt.keepN h hk
theorem mn_rnm {z : Int} {N : Nat} : MonoN (RNM z N) := fun _ _ _ hk h => RNum.keepN h hk
theorem mp_is {v : Value} : MonoP (IS v) := mn_is.p
theorem mp_int {z : Int} : MonoP (INT z) := mn_int.p
theorem mp_rnm {z : Int} {N : Nat} : MonoP (RNM z N) := mn_rnm.p
theorem mp_trm {ps : List (Nat × Int)} {r : Int} : MonoP (TRM ps r) := fun _ _ _ hk h => TermR.keepP h hk
theorem mp_t2 {p q : Value → World → Prop} (hp : MonoP p) (hq : MonoP q) : MonoP (T2 p q) := fun _ w w' hk h => by
  obtain ⟨a, b, rfl, h1, h2⟩ := h
  exact ⟨a, b, rfl, hp _ _ _ hk h1, hq _ _ _ hk h2⟩
theorem mvN {p : Value → World → Prop} (hp : MonoN p) {w w' : World} (hk : KeepN w w') {b : Prop} {u : Value} (h : b → p u w) : b → p u w' := fun k => hp _ _ _ hk (h k)
theorem mvP {p : Value → World → Prop} (hp : MonoP p) {w w' : World} (hk : KeepP w w') {b : Prop} {u : Value} (h : b → p u w) : b → p u w' := fun k => hp _ _ _ hk (h k)
theorem TermR.shape {w : World} {v : Value} {ps : List (Nat × Int)} {r : Int} (h : TermR w v ps r) : ∃ p n k x a m c, v = .agg #[.slice p n k, .bool x, .slice a m c] := by
  obtain ⟨p, n, k, x, a, m, c, rfl, _⟩ := h
  exact ⟨p, n, k, x, a, m, c, rfl⟩

/-- A variable made in the region: it is at least at B. -/
def NEWU (t : TypeId) (B : Nat) (w : World) (p v : Value) : Prop := ∃ b cs, p = .pointer (some ⟨b, 0, none⟩) ∧ B ≤ b ∧ v = .agg cs ∧ Blk t w b cs ∧ ∀ u ∈ cs.toList, NoU u
theorem NEWU.below {t : TypeId} {B : Nat} {w w' : World} {p v : Value} (h : NEWU t B w p v) (hb : Below w.heap.size w w') : NEWU t B w' p v := by
  obtain ⟨b, cs, h1, h2, h3, h4, h5⟩ := h
  exact ⟨b, cs, h1, h2, h3, h4.stay hb, h5⟩
theorem NEWU.mk {t : TypeId} {B : Nat} {w : World} {cs : Array Value} (hB : B ≤ w.heap.size) (h : ∀ u ∈ cs.toList, NoU u) : NEWU t B (w.alloc (.cells cs t (0, 0))) (.pointer (some ⟨w.heap.size, 0, none⟩)) (.agg cs) := ⟨_, _, rfl, hB, rfl, Blk.new _ _ _, h⟩
theorem NEWU.overS {t : TypeId} {B : Nat} {w : World} {b : Nat} {cs : Array Value} (hB : B ≤ b) (h : Blk t w b cs) (vs : List Value) (hl : cs.size = vs.length) (hN : ∀ u ∈ vs, NoU u) :
    NEWU t B (stores w b 0 vs) (.pointer (some ⟨b, 0, none⟩)) (.agg vs.toArray) := ⟨b, _, rfl, hB, rfl, by have := h.overS vs 0 (by omega); simpa using this, by simpa using hN⟩
theorem storedU_new {t : TypeId} {B : Nat} {w : World} {p u p' u' : Value} (hp : p = p') (hu : u = u') (h : NEWU t B w p' u') : NEWU t B w p u := by rw [hp, hu]; exact h
theorem newU_zero {t : TypeId} {B : Nat} {w : World} {p u z : Value} {b : Bool} (hb : b = false) (h : NEWU t B w p z) : NEWU t B w p (bif b then u else z) := by rw [hb]; exact h
/-- A literal of one element, made in the region. -/
def ONE (e : TypeId) (cs : Array Value) : Value → World → Prop := fun u w => ∃ g, u = .slice (some ⟨g, 0, none⟩) 1 1 ∧ Blk e w g cs
theorem ONE.below {e : TypeId} {cs : Array Value} {u : Value} {w w' : World} (h : ONE e cs u w) (hb : Below w.heap.size w w') : ONE e cs u w' := by
  obtain ⟨g, h1, h2⟩ := h
  exact ⟨g, h1, h2.stay hb⟩
/-- A literal of n elements, made in the region. -/
def ARR (n : Nat) (e : TypeId) (cs : Array Value) : Value → World → Prop := fun u w => ∃ g, u = .slice (some ⟨g, 0, none⟩) n n ∧ Blk e w g cs
theorem ARR.below {n : Nat} {e : TypeId} {cs : Array Value} {u : Value} {w w' : World} (h : ARR n e cs u w) (hb : Below w.heap.size w w') : ARR n e cs u w' := by
  obtain ⟨g, h1, h2⟩ := h
  exact ⟨g, h1, h2.stay hb⟩
/-- A part's struct. -/
def PRT (p : Nat) (z : Int) : Value → World → Prop := fun u w => ∃ x a m c, u = .agg #[.int .i64 p, .bool x, .slice a m c] ∧ AInt w (.agg #[.bool x, .slice a m c]) z
theorem mn_prt {p : Nat} {z : Int} : MonoN (PRT p z) := fun _ _ _ hk h => by
  obtain ⟨x, a, m, c, h1, h2⟩ := h
  exact ⟨x, a, m, c, h1, h2.keepN hk⟩
/-- The list's element j is the part. -/
def PUT3 (base : Nat) (v : Value) (n : Nat) (xs : List Value) (j p : Nat) (z : Int) (w : World) : Prop :=
  ∃ x a m c, LstG 3 116 base w v n (xs.take (j * 3) ++ [.int .i64 p, .bool x, .slice a m c] ++ xs.drop (j * 3 + 3)) ∧ AInt w (.agg #[.bool x, .slice a m c]) z
theorem PUT3.below {base : Nat} {v : Value} {n : Nat} {xs : List Value} {j p : Nat} {z : Int} {w w' : World} (h : PUT3 base v n xs j p z w) (hb : Below w.heap.size w w') : PUT3 base v n xs j p z w' := by
  obtain ⟨x, a, m, c, h1, h2⟩ := h
  exact ⟨x, a, m, c, h1.below hb, h2.below hb⟩
/-- The coefficient of the list's element j is z. -/
def PUT2 (base : Nat) (v : Value) (n : Nat) (xs : List Value) (j : Nat) (z : Int) (w : World) : Prop :=
  ∃ x a m c, LstG 3 116 base w v n (xs.take (j * 3 + 1) ++ [.bool x, .slice a m c] ++ xs.drop (j * 3 + 1 + 2)) ∧ AInt w (.agg #[.bool x, .slice a m c]) z
theorem PUT2.below {base : Nat} {v : Value} {n : Nat} {xs : List Value} {j : Nat} {z : Int} {w w' : World} (h : PUT2 base v n xs j z w) (hb : Below w.heap.size w w') : PUT2 base v n xs j z w' := by
  obtain ⟨x, a, m, c, h1, h2⟩ := h
  exact ⟨x, a, m, c, h1.below hb, h2.below hb⟩
theorem keepN_list {base : Nat} {w : World} {g n cap : Nat} {xs : List Value} (h : LstG 3 116 base w (.slice (some ⟨g, 0, none⟩) n cap) n xs) (i : Nat) (vs : List Value) (hv : ∀ u ∈ vs, NoU u) : KeepN w (stores w g i vs) := by
  obtain ⟨cur, h1, h2, _⟩ := h.blkG
  exact keepN_stores (by decide) vs i h1 h2 hv
end Go.Proofs.YteefniagebcagaaGreatDoor
/- Contract of linear's copied, Clone given; it proves no statement of the seat. -/
namespace Go.Proofs.YteefniagebcagaaGreatDoor
open Go.RowKit
set_option linter.unusedVariables false

end Go.Proofs.YteefniagebcagaaGreatDoor
/- Contract of slices.Clone for parts; it proves no statement of the seat. -/
namespace Go.Proofs.YteefniagebcagaaGreatDoor
open Go.RowKit
set_option linter.unusedVariables false

theorem Tryz.und_parts : Tryz.prog.underlying 28 = some (.slice 116) := by kernel_rfl
theorem Tryz.info_part : (Tryz.prog.info? 116).map (fun i => (i.zero, i.size, i.bytes)) = some (some (.agg #[.int .i64 0, .bool false, .slice none 0 0]), 3, 40) := by kernel_rfl

end Go.Proofs.YteefniagebcagaaGreatDoor
