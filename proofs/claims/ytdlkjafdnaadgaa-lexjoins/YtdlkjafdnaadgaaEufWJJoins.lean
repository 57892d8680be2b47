/- Words for lists that live behind a pointer: their cells by a function, writing one of them, append; no statement of the seat is proved here. -/
import Derived.WalkKit
import Derived.WalkSpells
import Derived.WalkLawsBesides
import Derived.Handy
import Derived.Laws.CopyOwn
import Derived.Laws.OwnMore
import Derived.Maps.OwnSet
namespace Go.Proofs.Ytdlkjafdnaadgaa
open Go.RowKit
set_option linter.unusedVariables false
namespace Euf

/-- The walk stops here. -/
def Stop (p : Prop) : Prop := p
theorem Stop.of {p : Prop} (h : Stop p) : p := h
/-- A slice of n structs of sz cells each: its cells are told by f. -/
def OL (sz : Nat) (e : TypeId) (w : World) (v : Value) (n : Nat) (f : Nat → List Value) : Prop :=
  (v = .slice none 0 0 ∧ n = 0) ∨ ∃ g cap cur, v = .slice (some ⟨g, 0, none⟩) n cap ∧ w.heap[g]? = some (.cells cur e (0, 0)) ∧ n ≤ cap ∧ cap ≤ maxLen ∧ cur.size = cap * sz ∧ ∀ i, i < n → ∀ j, j < sz → cur[i * sz + j]? = (f i)[j]?
section
variable {sz : Nat} {e : TypeId} {w w' : World} {v : Value} {n : Nat} {f : Nat → List Value}
theorem OL.nil (sz : Nat) (e : TypeId) (w : World) (f : Nat → List Value) : OL sz e w (.slice none 0 0) 0 f := Or.inl ⟨rfl, rfl⟩
theorem OL.lt (h : OL sz e w v n f) {b : Nat} (hb : v.ownBlock = some b) : b < w.heap.size := by
  rcases h with ⟨rfl, _⟩ | ⟨g, cap, cur, rfl, hg, _⟩
  · cases hb
  · have : g = b := by simpa [Value.ownBlock] using hb
    subst this; exact (Array.getElem?_eq_some_iff.1 hg).1
theorem OL.stay (h : OL sz e w v n f) (hb : ∀ b, v.ownBlock = some b → w'.heap[b]? = w.heap[b]?) : OL sz e w' v n f := by
  rcases h with h | ⟨g, cap, cur, rfl, hg, r⟩
  · exact Or.inl h
  · exact Or.inr ⟨g, cap, cur, rfl, (hb g rfl).trans hg, r⟩
/-- The block is a row of that type. -/
theorem OL.elem (h : OL sz e w v n f) {b : Nat} (hb : v.ownBlock = some b) : ∃ cur, w.heap[b]? = some (.cells cur e (0, 0)) := by
  rcases h with ⟨rfl, _⟩ | ⟨g, cap, cur, rfl, hg, _⟩
  · cases hb
  · have : g = b := by simpa [Value.ownBlock] using hb
    subst this; exact ⟨cur, hg⟩
/-- A slice with an element has an address. -/
theorem OL.open (h : OL sz e w v n f) (i : Nat) (hi : i < n) : ∃ g cap, v = .slice (some ⟨g, 0, none⟩) n cap ∧ n ≤ cap ∧ cap ≤ maxLen := by
  rcases h with ⟨_, h⟩ | ⟨g, cap, cur, rfl, _, h1, h2, _⟩
  · omega
  · exact ⟨g, cap, rfl, h1, h2⟩
/-- It is a slice, in any case. -/
theorem OL.shape (h : OL sz e w v n f) : ∃ a cap, v = .slice a n cap ∧ n ≤ cap ∧ cap ≤ maxLen ∧ (a = none → n = 0 ∧ cap = 0) ∧ (∀ p, a = some p → p.off = 0 ∧ p.spot = none) := by
  rcases h with ⟨rfl, rfl⟩ | ⟨g, cap, cur, rfl, _, h1, h2, _⟩
  · exact ⟨none, 0, rfl, Nat.le_refl _, Nat.zero_le _, (fun _ => ⟨rfl, rfl⟩), (fun _ h => by cases h)⟩
  · exact ⟨_, cap, rfl, h1, h2, (fun h => by cases h), (fun p hp => by cases hp; exact ⟨rfl, rfl⟩)⟩
theorem OL.cell {g cap : Nat} (h : OL sz e w (.slice (some ⟨g, 0, none⟩) n cap) n f) {i j : Nat} (hi : i < n) (hj : j < sz) : w.cell? ⟨g, i * sz + j, none⟩ = (f i)[j]? := by
  rcases h with ⟨h, _⟩ | ⟨g', cap', cur, hv, hg, h1, h2, h3, h4⟩
  · cases h
  · simp only [Value.slice.injEq, Option.some.injEq, Addr.mk.injEq] at hv
    obtain ⟨⟨rfl, _⟩, _, rfl⟩ := hv
    rw [cell_of_row w g _ cur e (0, 0) hg]
    exact h4 i hi j hj
/-- As a list of all its cells. -/
def flat (f : Nat → List Value) : Nat → List Value
  | 0 => []
  | n + 1 => flat f n ++ f n
theorem flat_length (hl : ∀ k, k < n → (f k).length = sz) : ∀ m, m ≤ n → (flat f m).length = m * sz
  | 0, _ => by simp [flat]
  | m + 1, h => by rw [flat, List.length_append, flat_length hl m (by omega), hl m (by omega), Nat.add_mul, Nat.one_mul]
theorem flat_get (hl : ∀ k, k < n → (f k).length = sz) : ∀ m, m ≤ n → ∀ i j, i < m → j < sz → (flat f m)[i * sz + j]? = (f i)[j]?
  | 0, _, i, _, h, _ => by omega
  | m + 1, hm, i, j, hi, hj => by
    have fl := flat_length (f := f) hl m (by omega)
    rw [flat]
    by_cases e1 : i = m
    · subst e1
      rw [List.getElem?_append_right (by omega), fl]
      congr 1; omega
    · have := Nat.mul_le_mul_right sz (show i + 1 ≤ m by omega)
      rw [Nat.add_mul] at this
      rw [List.getElem?_append_left (by omega)]
      exact flat_get hl m (by omega) i j (by omega) hj
theorem OL.owns (h : OL sz e w v n f) (hl : ∀ k, k < n → (f k).length = sz) (hsz : 0 < sz) {base : Nat} (hb : ∀ b, v.ownBlock = some b → base ≤ b) : w.ownsRow base e sz v n (flat f n) := by
  refine ⟨flat_length hl n (Nat.le_refl _), ?_⟩
  rcases h with h | ⟨g, cap, cur, rfl, hg, k1, k2, k3, k4⟩
  · exact Or.inl h
  · refine Or.inr ⟨g, cap, cur, rfl, hb g rfl, hg, k1, k2, k3, ?_⟩
    apply List.ext_getElem?
    intro k
    have fl := flat_length (f := f) hl n (Nat.le_refl _)
    by_cases hk : k < n * sz
    · rw [List.getElem?_take, if_pos hk, Array.getElem?_toList]
      have e1 : k = (k / sz) * sz + k % sz := by rw [Nat.mul_comm]; exact (Nat.div_add_mod k sz).symm
      have hd : k / sz < n := (Nat.div_lt_iff_lt_mul hsz).2 hk
      have hr : k % sz < sz := Nat.mod_lt _ hsz
      rw [e1, k4 _ hd _ hr, flat_get hl n (Nat.le_refl _) _ _ hd hr]
    · rw [List.getElem?_take, if_neg hk, List.getElem?_eq_none (by omega)]
end
/-- What an append leaves. -/
structure App (v v' : Value) (w w' : World) : Prop where
  os : w'.os = w.os
  tape : w'.tape = w.tape
  output : w'.output = w.output
  size : w.heap.size ≤ w'.heap.size
  other : ∀ b, b < w.heap.size → v.ownBlock ≠ some b → w'.heap[b]? = w.heap[b]?
  at_ : v'.ownBlock = v.ownBlock ∨ ∃ b, v'.ownBlock = some b ∧ w.heap.size ≤ b
/-- The law of append: some elements that lie somewhere else. -/
theorem run_append {P : Program} (w : World) (sz : Nat) (t ty e : TypeId) (i : TypeInfo) (z : Value) (ht : P.underlying t = some (.slice e)) (hi : P.info? e = some i) (hz : i.zero = some z) (hsize : i.size = sz) (hby : i.bytes ≤ 1000) (hzs : z.cells.size = sz) (hsz : 0 < sz)
    (v : Value) (n : Nat) (f : Nat → List Value) (hown : OL sz e w v n f) (hlf : ∀ k, k < n → (f k).length = sz) (a : Addr) (m c : Nat) (news : List Value) (hl : news.length = m * sz) (hnews : ∀ j u, news[j]? = some u → w.cell? (a.add j) = some u) (ho : ∀ u ∈ news, u.oneCell' = true) (hm0 : 0 < m ∨ v ≠ .slice none 0 0) (hn : n + m ≤ 1000000000)
    (f' : Nat → List Value) (hf1 : ∀ k, k < n → f' k = f k) (hf2 : ∀ k, k < m → ∀ j, j < sz → (f' (n + k))[j]? = news[k * sz + j]?) :
    ∃ v' w', (Builtin.append_ #[t, t] ty #[v, .slice (some a) m c]).run P w = .ok v' w' ∧ OL sz e w' v' (n + m) f' ∧ App v v' w w' ∧ v' ≠ .slice none 0 0 := by
  have hl' : news.length = m * i.size := by rw [hsize]; exact hl
  have hmx : 2000000000 ≤ maxLen := by unfold maxLen; decide
  have hbytes : (n + m) * i.bytes ≤ 1000000000 * 1000 := Nat.mul_le_mul hn hby
  have fl := flat_length (f := f) hlf n (Nat.le_refl _)
  have hxs : ∀ k, k < n + m → ∀ j, j < sz → (flat f n ++ news)[k * sz + j]? = (f' k)[j]? := by
    intro k hk j hj
    by_cases e1 : k < n
    · have := Nat.mul_le_mul_right sz (show k + 1 ≤ n by omega)
      rw [Nat.add_mul] at this
      rw [List.getElem?_append_left (by omega), flat_get hlf n (Nat.le_refl _) k j e1 hj, hf1 k e1]
    · obtain ⟨d, rfl⟩ : ∃ d, k = n + d := ⟨k - n, by omega⟩
      rw [List.getElem?_append_right (by rw [fl, Nat.add_mul]; omega), hf2 d (by omega) j hj, fl]
      congr 1
      rw [Nat.add_mul]; omega
  have grown : ∀ (old : Nat), old < n + m →
      OL sz e (w.drew.alloc (.cells ((flat f n).toArray ++ news.toArray ++ Builtin.zeroCells z.cells (grownCap w (n + m) old e - (n + m))) e)) (.slice (some ⟨w.heap.size, 0, none⟩) (n + m) (grownCap w (n + m) old e)) (n + m) f' ∧
      App v (.slice (some ⟨w.heap.size, 0, none⟩) (n + m) (grownCap w (n + m) old e)) w (w.drew.alloc (.cells ((flat f n).toArray ++ news.toArray ++ Builtin.zeroCells z.cells (grownCap w (n + m) old e - (n + m))) e)) := by
    intro old ho'
    have hge := grownCap_ge w (n + m) old e
    have hcm : grownCap w (n + m) old e ≤ maxLen := grownCap_le_maxLen w (n + m) old e (by omega)
    refine ⟨Or.inr ⟨w.heap.size, _, _, rfl, heap_alloc_new w.drew _, hge, hcm, ?_, ?_⟩, ⟨rfl, rfl, rfl, by simp, fun b hb _ => Below.heap_alloc w.drew _ b hb, Or.inr ⟨_, rfl, Nat.le_refl _⟩⟩⟩
    · simp only [Array.size_append, List.size_toArray, size_zeroCells, hzs, fl, hl]
      rw [← Nat.add_mul, ← Nat.add_mul]
      congr 1
      omega
    · intro k hk j hj
      rw [← hxs k hk j hj]
      have h9 := Nat.mul_le_mul_right sz (show k + 1 ≤ n + m by omega)
      rw [Nat.add_mul k, Nat.add_mul n] at h9
      rw [Array.getElem?_append_left (by simp only [Array.size_append, List.size_toArray, fl, hl]; omega)]
      simp
  rcases hown with ⟨rfl, rfl⟩ | ⟨g, cap, cur, rfl, hg, hnc, hcm, hcs, hcell⟩
  · have hm1 : 0 < m := by
      rcases hm0 with k | k
      · exact k
      · exact absurd rfl k
    have hr := run_append_nil (P := P) w t ty e i z ht hi hz a m c news hl' hnews hm1 (by omega) (by rw [Nat.zero_add] at hbytes; omega)
    have hgr := grown 0 (by omega)
    simp only [Nat.zero_add, flat, Array.empty_append] at hgr ⊢
    exact ⟨_, _, hr, hgr.1, hgr.2, (fun h => by cases h)⟩
  · have hown : OL sz e w (.slice (some ⟨g, 0, none⟩) n cap) n f := Or.inr ⟨g, cap, cur, rfl, hg, hnc, hcm, hcs, hcell⟩
    by_cases hroom : n + m ≤ cap
    · have hfit : n * i.size + news.length ≤ cur.size := by rw [hsize, hcs, hl, ← Nat.add_mul]; exact Nat.mul_le_mul_right _ hroom
      have hr := run_append_room (P := P) w t ty e i ht hi g n cap cur hg a m c news hl' hnews ho hroom hfit
      rw [hsize] at hr hfit
      have ow := hown.owns hlf hsz (base := 0) (fun _ _ => Nat.zero_le _)
      have htake : cur.toList.take (n * sz) = flat f n := by
        rcases ow.2 with ⟨h, _⟩ | ⟨g', cap', cur', hv, _, hg', _, _, _, h4⟩
        · cases h
        · simp only [Value.slice.injEq, Option.some.injEq, Addr.mk.injEq] at hv
          obtain ⟨⟨rfl, _⟩, _, rfl⟩ := hv
          rw [hg] at hg'
          injection hg' with hg'
          injection hg' with hg' _ _
          rw [hg']; exact h4
      refine ⟨_, _, hr, Or.inr ⟨g, cap, _, rfl, setRow_heap w g cur _ e _ hg, hroom, hcm, ?_, ?_⟩, ⟨rfl, rfl, rfl, by simp, fun b hb hk => setRow_other w g b _ (fun e => hk (by simp [Value.ownBlock, e])), Or.inl rfl⟩, (fun h => by cases h)⟩
      · have ln : n * sz ≤ cur.size := by rw [hcs]; exact Nat.mul_le_mul_right _ hnc
        simp only [List.size_toArray, List.length_append, List.length_take, List.length_drop, Array.length_toList]
        omega
      · intro k hk j hj
        rw [← hxs k hk j hj, htake]
        have h9 := Nat.mul_le_mul_right sz (show k + 1 ≤ n + m by omega)
        rw [Nat.add_mul k, Nat.add_mul n] at h9
        rw [List.getElem?_toArray, List.getElem?_append_left (by rw [List.length_append, fl, hl]; omega)]
    · have holds : ∀ j u, (flat f n)[j]? = some u → w.cell? ((⟨g, 0, none⟩ : Addr).add j) = some u := (hown.owns hlf hsz (base := 0) (fun _ _ => Nat.zero_le _)).cells (g := g) rfl
      have hr := run_append_grow (P := P) w t ty e i z ht hi hz ⟨g, 0, none⟩ n cap (flat f n) (by rw [hsize]; exact fl) holds a m c news hl' hnews (by omega) (by omega) (growslice_fits (by omega) (by omega))
      have hgr := grown cap (by omega)
      exact ⟨_, _, hr, hgr.1, hgr.2, (fun h => by cases h)⟩
/-- .. in a row of operations. -/
theorem wp_append {P : Program} {w : World} {o : Oper} {act : Act} {K : Act → World → Prop} {Q : Exit → Act → World → Prop} (s x : Operand) (t : TypeId) (hop : o.op = .call { callee := .builtin .append, args := #[s, x], argTypes := #[t, t] })
    (sz : Nat) (e : TypeId) (z : Value) (bytes : Nat) (h1 : P.underlying t = some (.slice e)) (h2 : (P.info? e).map (fun i => (i.zero, i.size, i.bytes)) = some (some z, sz, bytes)) (hby : bytes ≤ 1000) (hzs : z.cells.size = sz) (hsz : 0 < sz)
    (v : Value) (n : Nat) (f : Nat → List Value) (hs : act.eval s = v) (hown : OL sz e w v n f) (hlf : ∀ k, k < n → (f k).length = sz) (a : Addr) (m c : Nat) (hx : act.eval x = .slice (some a) m c) (news : List Value) (hl : news.length = m * sz) (hnews : ∀ j u, news[j]? = some u → w.cell? (a.add j) = some u) (ho : ∀ u ∈ news, u.oneCell' = true) (hm0 : 0 < m ∨ v ≠ .slice none 0 0) (hn : n + m ≤ 1000000000)
    (f' : Nat → List Value) (hf1 : ∀ k, k < n → f' k = f k) (hf2 : ∀ k, k < m → ∀ j, j < sz → (f' (n + k))[j]? = news[k * sz + j]?)
    (h : ∀ v' w', OL sz e w' v' (n + m) f' → App v v' w w' → v' ≠ .slice none 0 0 → K (act.put o.dst v') w') : Oper.wp P o act w K Q := by
  obtain ⟨i, hi, hz0, hz1, hz2⟩ := info_parts h2
  obtain ⟨v', w', hr, k1, k2, k3⟩ := run_append (P := P) w sz t o.type e i z h1 hi hz0 hz1 (by omega) hzs hsz v n f hown hlf a m c news hl hnews ho hm0 hn f' hf1 hf2
  unfold Oper.wp execOp
  simp only [hop, resolve, invoke, builtin, Sem.run_bind, Sem.run_pure, Result.andThen_ok, List.map_toArray, List.map_cons, List.map_nil, hs, hx, hr]
  exact h v' w' k1 k2 k3
theorem cell_new_list (w : World) (cs : List Value) (t : TypeId) (j : Nat) (u : Value) (h : cs[j]? = some u) : (w.alloc (.cells cs.toArray t (0, 0))).cell? ((⟨w.heap.size, 0, none⟩ : Addr).add j) = some u := by
  have e : ((⟨w.heap.size, 0, none⟩ : Addr).add j) = ⟨w.heap.size, j, none⟩ := by
    unfold Addr.add
    split
    · rename_i h; subst h; rfl
    · simp
  rw [e, cell_of_row _ w.heap.size j cs.toArray t (0, 0) (heap_alloc_new w _)]
  simpa using h
/-- One element that was just laid down is appended. -/
theorem wp_push {P : Program} {w : World} {o : Oper} {act : Act} {K : Act → World → Prop} {Q : Exit → Act → World → Prop} (s x : Operand) (t : TypeId) (hop : o.op = .call { callee := .builtin .append, args := #[s, x], argTypes := #[t, t] })
    (sz : Nat) (e : TypeId) (z : Value) (bytes : Nat) (h1 : P.underlying t = some (.slice e)) (h2 : (P.info? e).map (fun i => (i.zero, i.size, i.bytes)) = some (some z, sz, bytes)) (hby : bytes ≤ 1000) (hzs : z.cells.size = sz) (hsz : 0 < sz)
    (v : Value) (n : Nat) (f : Nat → List Value) (hs : act.eval s = v) (news : List Value) (te : TypeId) (hown : OL sz e (w.alloc (.cells news.toArray te (0, 0))) v n f) (hlf : ∀ k, k < n → (f k).length = sz) (c : Nat) (hx : act.eval x = .slice (some ⟨w.heap.size, 0, none⟩) 1 c) (hl : news.length = sz) (ho : ∀ u ∈ news, u.oneCell' = true) (hn : n + 1 ≤ 1000000000)
    (f' : Nat → List Value) (hf1 : ∀ k, k < n → f' k = f k) (hf2 : f' n = news)
    (h : ∀ v' w', OL sz e w' v' (n + 1) f' → App v v' (w.alloc (.cells news.toArray te (0, 0))) w' → v' ≠ .slice none 0 0 → K (act.put o.dst v') w') : Oper.wp P o act (w.alloc (.cells news.toArray te (0, 0))) K Q :=
  wp_append s x t hop sz e z bytes h1 h2 hby hzs hsz v n f hs hown hlf ⟨w.heap.size, 0, none⟩ 1 c hx news (by rw [hl, Nat.one_mul]) (cell_new_list w news te) ho (Or.inl (by decide)) hn f' hf1 (fun k hk j hj => by
    obtain rfl : k = 0 := by omega
    rw [Nat.add_zero, hf2, Nat.zero_mul, Nat.zero_add]) h
theorem wpList_push {P : Program} {w : World} {ops : Array Oper} {rest : List Oper} {o : Oper} {act : Act} {Q : Exit → Act → World → Prop} (hgd : o.guard = none) (s x : Operand) (t : TypeId) (hop : o.op = .call { callee := .builtin .append, args := #[s, x], argTypes := #[t, t] })
    (sz : Nat) (e : TypeId) (z : Value) (bytes : Nat) (h1 : P.underlying t = some (.slice e)) (h2 : (P.info? e).map (fun i => (i.zero, i.size, i.bytes)) = some (some z, sz, bytes)) (hby : bytes ≤ 1000) (hzs : z.cells.size = sz) (hsz : 0 < sz)
    (v : Value) (n : Nat) (f : Nat → List Value) (hs : act.eval s = v) (news : List Value) (te : TypeId) (hown : OL sz e (w.alloc (.cells news.toArray te (0, 0))) v n f) (hlf : ∀ k, k < n → (f k).length = sz) (c : Nat) (hx : act.eval x = .slice (some ⟨w.heap.size, 0, none⟩) 1 c) (hl : news.length = sz) (ho : ∀ u ∈ news, u.oneCell' = true) (hn : n + 1 ≤ 1000000000)
    (f' : Nat → List Value) (hf1 : ∀ k, k < n → f' k = f k) (hf2 : f' n = news)
    (h : ∀ v' w', OL sz e w' v' (n + 1) f' → App v v' (w.alloc (.cells news.toArray te (0, 0))) w' → v' ≠ .slice none 0 0 → wpList P ops Q rest (act.put o.dst v') w') : wpList P ops Q (o :: rest) act (w.alloc (.cells news.toArray te (0, 0))) :=
  wpList_plain hgd fun _ hK => wp_push s x t hop sz e z bytes h1 h2 hby hzs hsz v n f hs news te hown hlf c hx hl ho hn f' hf1 hf2 fun v' w' k1 k2 k3 => hK _ _ (h v' w' k1 k2 k3)
theorem App.of_alloc {v v' : Value} {w w' : World} {o : Obj} (h : App v v' (w.alloc o) w') (hv : ∀ b, v.ownBlock = some b → b < w.heap.size) : App v v' w w' :=
  ⟨h.os, h.tape, h.output, by have := h.size; simp at this; omega, fun b hb hn => (h.other b (by simp; omega) hn).trans (Below.heap_alloc w o b hb), by
    rcases h.at_ with k | ⟨b, k, k2⟩
    · exact Or.inl k
    · exact Or.inr ⟨b, k, by simp at k2; omega⟩⟩

/-! ## Maps to ints -/
section
variable {P : Program} {K E : TypeId} {w w' : World} {b n : Nat} {m : Value → Option Int}
end
end Euf
end Go.Proofs.Ytdlkjafdnaadgaa
