/- Joined: Lst, DivP, DivQ, DivT: words and contracts; no statement of the seat is proved here. -/
import Derived.Test.YtidpbdhhbeaijaaJoin1Sums
import Derived.Test.YtidpbdhhbeaijaaJoin9Sums
import Derived.Test.YtidpbdhhbeaijaaJoin5Sums
/- Words for slices of structs of a sign and a slice: what they hold, and the law of one append; no statement of the seat is proved here. -/
namespace Go.Proofs.Ytidpbdhhbeaijaa
open Go.RowKit

/-- All cells that hold machine numbers hold them still. -/
def KeepI (w w' : World) : Prop := ∀ p k x, w.cell? p = some (.int k x) → w'.cell? p = some (.int k x)
theorem KeepI.trans {a b c : World} (h : KeepI a b) (k : KeepI b c) : KeepI a c := fun p q x hp => k p q x (h p q x hp)
theorem KeepI.below {w w' : World} (h : Below w.heap.size w w') : KeepI w w' := fun p _ _ hp => (h.cell (p := p) (World.block_lt_of_cell? w p hp)).trans hp
theorem Seg.keepI {k : IntKind} {w w' : World} {ao : Option Addr} {xs : List Nat} (h : Seg k w ao xs) (hk : KeepI w w') : Seg k w' ao xs := by
  rcases h with h | ⟨b, off, rfl, hc⟩
  · exact Or.inl h
  · exact Or.inr ⟨b, off, rfl, fun i hi => hk _ _ _ (hc i hi)⟩
theorem AInt.keepI {w w' : World} {v : Value} {z : Int} (h : AInt w v z) (hk : KeepI w w') : AInt w' v z := by
  obtain ⟨neg, xs, ⟨ao, cap, h1, h2, h3, h4, h5⟩, h6⟩ := h
  exact ⟨neg, xs, ⟨ao, cap, h1, h2, h3, h4.keepI hk, h5⟩, h6⟩
theorem RNum.keepI {w w' : World} {v : Value} {z : Int} {L : Nat} (h : RNum w v z L) (hk : KeepI w w') : RNum w' v z L := by
  obtain ⟨neg, xs, ⟨ao, cap, h1, h2, h3, h4, h5⟩, h6⟩ := h
  exact ⟨neg, xs, ⟨ao, cap, h1, h2, h3, h4, h5.1.keepI hk, h5.2⟩, h6⟩

/-- No machine number. -/
def NoI (u : Value) : Prop := ∀ k x, u ≠ .int k x
/-- A slice of n structs of two cells each, the call's own; no cell of its block is a machine number. -/
def Lst (e : TypeId) (base : Nat) (w : World) (v : Value) (n : Nat) (xs : List Value) : Prop :=
  xs.length = n * 2 ∧ ((v = .slice none 0 0 ∧ n = 0) ∨
    ∃ g cap cur, v = .slice (some ⟨g, 0, none⟩) n cap ∧ base ≤ g ∧ w.heap[g]? = some (.cells cur e (0, 0)) ∧ n ≤ cap ∧ cap ≤ maxLen ∧ cur.size = cap * 2 ∧ cur.toList.take (n * 2) = xs ∧ ∀ u ∈ cur.toList, NoI u)

section
variable {e : TypeId} {base : Nat} {w w' : World} {v : Value} {n : Nat} {xs : List Value}
theorem Lst.nil (e : TypeId) (base : Nat) (w : World) : Lst e base w (.slice none 0 0) 0 [] := ⟨by simp, Or.inl ⟨rfl, rfl⟩⟩
theorem Lst.owns (h : Lst e base w v n xs) : w.ownsRow base e 2 v n xs := by
  refine ⟨h.1, ?_⟩
  rcases h.2 with h | ⟨g, cap, cur, h1, h2, h3, h4, h5, h6, h7, _⟩
  · exact Or.inl h
  · exact Or.inr ⟨g, cap, cur, h1, h2, h3, h4, h5, h6, h7⟩
theorem Lst.lt (h : Lst e base w v n xs) : ∀ b, v.ownBlock = some b → base ≤ b ∧ b < w.heap.size := World.ownsRow.lt h.owns
theorem Lst.stay (h : Lst e base w v n xs) (hb : ∀ b, v.ownBlock = some b → w'.heap[b]? = w.heap[b]?) : Lst e base w' v n xs := by
  refine ⟨h.1, ?_⟩
  rcases h.2 with hn | ⟨g, cap, cur, rfl, hbg, hg, r⟩
  · exact Or.inl hn
  · exact Or.inr ⟨g, cap, cur, rfl, hbg, (hb g rfl).trans hg, r⟩
theorem Lst.below (h : Lst e base w v n xs) (hb : Below w.heap.size w w') : Lst e base w' v n xs := h.stay fun b hv => hb.block b (h.lt b hv).2
/-- A row of other structs is another block. -/
theorem Lst.apart {e' : TypeId} {v' : Value} {n' : Nat} {xs' : List Value} (h : Lst e base w v n xs) (h' : Lst e' base w v' n' xs') (he : e ≠ e') : ∀ b, v.ownBlock = some b → some b ≠ v'.ownBlock := by
  intro b hb hb'
  rcases h.2 with ⟨rfl, _⟩ | ⟨g, cap, cur, rfl, _, hg, _⟩
  · cases hb
  · rcases h'.2 with ⟨rfl, _⟩ | ⟨g', cap', cur', rfl, _, hg', _⟩
    · cases hb'
    · cases hb
      have e1 : g = g' := by simpa [Value.ownBlock] using hb'
      subst e1
      rw [hg] at hg'
      injection hg' with hg'
      injection hg' with _ h2
      exact he h2
theorem Lst.cells (h : Lst e base w v n xs) : n = 0 ∨ ∃ g cap, v = .slice (some ⟨g, 0, none⟩) n cap ∧ n ≤ cap ∧ cap ≤ maxLen ∧ base ≤ g ∧ g < w.heap.size ∧ ∀ j u, xs[j]? = some u → w.cell? ⟨g, j, none⟩ = some u := by
  rcases h.2 with ⟨_, h⟩ | ⟨g, cap, cur, h1, h2, h3, h4, h5, h6, h7, _⟩
  · exact Or.inl h
  · refine Or.inr ⟨g, cap, h1, h4, h5, h2, (Array.getElem?_eq_some_iff.1 h3).1, fun j u hj => ?_⟩
    rw [cell_of_row w g j cur e (0, 0) h3, ← Array.getElem?_toList]
    have h8 : j < n * 2 := by
      have := (List.getElem?_eq_some_iff.1 hj).1
      rw [h.1] at this
      exact this
    rw [← h7, List.getElem?_take, if_pos h8] at hj
    exact hj
end

theorem mem_zeroCells {z : Array Value} {n : Nat} {u : Value} (h : u ∈ (Builtin.zeroCells z n).toList) : u ∈ z.toList := by
  simp [Builtin.zeroCells] at h
  obtain ⟨a, ha, rfl⟩ := h
  have hz : 0 < z.size := by
    rcases Nat.eq_zero_or_pos z.size with k | k
    · rw [k, Nat.mul_zero] at ha; omega
    · exact k
  have hm := Nat.mod_lt a hz
  rw [getElem!_pos z (a % z.size) hm]
  simp
theorem keepI_setRow {w : World} {g : Nat} {cur cur' : Array Value} {e : TypeId} (hg : w.heap[g]? = some (.cells cur e (0, 0))) (hN : ∀ u ∈ cur.toList, NoI u) : KeepI w (w.setRow g cur') := by
  intro p k x hp
  by_cases h : p.block = g
  · exfalso
    subst h
    obtain ⟨b, o, m⟩ := p
    have h1 : m = none ∧ cur[o]? = some (Value.int k x) := by simpa [World.cell?, hg] using hp
    exact hN _ (by rw [Array.mem_toList_iff]; exact Array.mem_of_getElem? h1.2) k x rfl
  · have h1 := setRow_other w g p.block cur' h
    rw [World.cell?_of_block (w := w) h1]
    exact hp

/-- The law of one append. -/
theorem run_append_two {P : Program} (w : World) (base : Nat) (t ty e : TypeId) (i : TypeInfo) (z : Value) (ht : P.underlying t = some (.slice e)) (hi : P.info? e = some i) (hz : i.zero = some z) (hsize : i.size = 2) (hby : i.bytes ≤ 1000) (hzs : z.cells.size = 2) (hzN : ∀ u ∈ z.cells.toList, NoI u)
    (v : Value) (n : Nat) (xs : List Value) (hown : Lst e base w v n xs) (a : Addr) (c : Nat) (u0 u1 : Value) (h0 : w.cell? (a.add 0) = some u0) (h1 : w.cell? (a.add 1) = some u1) (o0 : u0.oneCell' = true) (o1 : u1.oneCell' = true) (m0 : NoI u0) (m1 : NoI u1) (hn : n ≤ 1000) (hbase : base ≤ w.heap.size) :
    ∃ v' w', (Builtin.append_ #[t, t] ty #[v, .slice (some a) 1 c]).run P w = .ok v' w' ∧ Lst e base w' v' (n + 1) (xs ++ [u0, u1]) ∧ w.grownBy w' v.ownBlock ∧ KeepI w w' ∧ Lst e base w' v n xs := by
  have hnews : ∀ j u, [u0, u1][j]? = some u → w.cell? (a.add j) = some u := by
    intro j u hj
    match j, hj with
    | 0, hj => simp at hj; subst hj; exact h0
    | 1, hj => simp at hj; subst hj; exact h1
    | j + 2, hj => simp at hj
  have ho : ∀ u ∈ [u0, u1], u.oneCell' = true := by intro u hu; simp at hu; rcases hu with rfl | rfl <;> assumption
  have hm : ∀ u ∈ [u0, u1], NoI u := by intro u hu; simp at hu; rcases hu with rfl | rfl <;> assumption
  have hl : [u0, u1].length = 1 * i.size := by rw [hsize]; rfl
  have hlen : (xs ++ [u0, u1]).length = (n + 1) * 2 := by rw [List.length_append, hown.1]; simp; omega
  have hmx : 1001 ≤ maxLen := by unfold maxLen; decide
  have grown : ∀ (old : Nat), old < n + 1 → (∀ u ∈ xs, NoI u) → ∀ (row : Option Nat),
      Lst e base (w.drew.alloc (.cells (xs.toArray ++ [u0, u1].toArray ++ Builtin.zeroCells z.cells (grownCap w (n + 1) old e - (n + 1))) e)) (.slice (some ⟨w.heap.size, 0, none⟩) (n + 1) (grownCap w (n + 1) old e)) (n + 1) (xs ++ [u0, u1]) ∧
      w.grownBy (w.drew.alloc (.cells (xs.toArray ++ [u0, u1].toArray ++ Builtin.zeroCells z.cells (grownCap w (n + 1) old e - (n + 1))) e)) row ∧
      KeepI w (w.drew.alloc (.cells (xs.toArray ++ [u0, u1].toArray ++ Builtin.zeroCells z.cells (grownCap w (n + 1) old e - (n + 1))) e)) := by
    intro old ho' hxs row
    have hge := grownCap_ge w (n + 1) old e
    have hcm : grownCap w (n + 1) old e ≤ maxLen := grownCap_le_maxLen w (n + 1) old e (by omega)
    refine ⟨⟨hlen, Or.inr ⟨w.heap.size, _, _, rfl, hbase, heap_alloc_new w.drew _, hge, hcm, ?_, ?_, ?_⟩⟩, ⟨rfl, rfl, rfl, by simp, fun k hk _ => Below.heap_alloc w.drew _ k hk⟩, ?_⟩
    · simp only [Array.size_append, List.size_toArray, size_zeroCells, hzs, hown.1, List.length_cons, List.length_nil]
      omega
    · simp only [Array.toList_append, List.append_assoc]
      rw [← List.append_assoc, ← hlen]
      exact List.take_left
    · intro u hu
      simp only [Array.toList_append, List.mem_append] at hu
      rcases hu with (hu | hu) | hu
      · exact hxs u hu
      · exact hm u hu
      · exact hzN u (mem_zeroCells hu)
    · exact KeepI.below ⟨rfl, rfl, rfl, by simp, fun k hk => Below.heap_alloc w.drew _ k hk⟩
  rcases hown.2 with ⟨rfl, rfl⟩ | ⟨g, cap, cur, rfl, hbg, hg, hnc, hcm, hcs, htake, hN⟩
  · have hx : xs = [] := List.eq_nil_of_length_eq_zero (by simpa using hown.1)
    subst hx
    have hr := run_append_nil (P := P) w t ty e i z ht hi hz a 1 c [u0, u1] hl hnews (by decide) (by decide) (by omega)
    have hgr := grown 0 (by omega) (by simp) (Value.ownBlock (.slice none 0 0))
    simp only [Nat.zero_add, List.nil_append, Array.empty_append] at hgr ⊢
    exact ⟨_, _, hr, hgr.1, hgr.2.1, hgr.2.2, Lst.nil _ _ _⟩
  · by_cases hroom : n + 1 ≤ cap
    · have hfit : n * i.size + [u0, u1].length ≤ cur.size := by rw [hsize, hcs]; simp; omega
      have hr := run_append_room (P := P) w t ty e i ht hi g n cap cur hg a 1 c [u0, u1] hl hnews ho hroom hfit
      rw [hsize] at hr
      have q1 : (cur.toList.take (n * 2) ++ [u0, u1] ++ cur.toList.drop (n * 2 + [u0, u1].length)).toArray.size = cap * 2 := by
        simp only [List.size_toArray, List.length_append, List.length_take, List.length_drop, Array.length_toList, List.length_cons, List.length_nil]
        omega
      have q2 : (cur.toList.take (n * 2) ++ [u0, u1] ++ cur.toList.drop (n * 2 + [u0, u1].length)).toArray.toList.take ((n + 1) * 2) = xs ++ [u0, u1] := by
        rw [htake, ← hlen]
        exact List.take_left
      have q3 : (cur.toList.take (n * 2) ++ [u0, u1] ++ cur.toList.drop (n * 2 + [u0, u1].length)).toArray.toList.take (n * 2) = xs := by
        rw [htake, ← hown.1]
        simp only [List.append_assoc]
        exact List.take_left
      have q4 : ∀ u ∈ (cur.toList.take (n * 2) ++ [u0, u1] ++ cur.toList.drop (n * 2 + [u0, u1].length)).toArray.toList, NoI u := by
        intro u hu
        simp only [List.mem_append] at hu
        rcases hu with (hu | hu) | hu
        · exact hN u (List.mem_of_mem_take hu)
        · exact hm u hu
        · exact hN u (List.mem_of_mem_drop hu)
      exact ⟨_, _, hr, ⟨hlen, Or.inr ⟨g, cap, _, rfl, hbg, setRow_heap w g cur _ e _ hg, hroom, hcm, q1, q2, q4⟩⟩, ⟨rfl, rfl, rfl, by simp, fun k _ hk => setRow_other w g k _ (fun e => hk (by simp [Value.ownBlock, e]))⟩, keepI_setRow hg hN, ⟨hown.1, Or.inr ⟨g, cap, _, rfl, hbg, setRow_heap w g cur _ e _ hg, hnc, hcm, q1, q3, q4⟩⟩⟩
    · have holds : ∀ j u, xs[j]? = some u → w.cell? ((⟨g, 0, none⟩ : Addr).add j) = some u := hown.owns.cells (g := g) rfl
      have hr := run_append_grow (P := P) w t ty e i z ht hi hz ⟨g, 0, none⟩ n cap xs (by rw [hsize]; exact hown.1) holds a 1 c [u0, u1] hl hnews (by omega) (by omega) (growslice_fits (by omega) (by have := Nat.mul_le_mul (show n + 1 ≤ 1001 by omega) hby; omega))
      have hgr := grown cap (by omega) (fun u hu => hN u (List.mem_of_mem_take (by rw [htake]; exact hu))) (Value.ownBlock (.slice (some ⟨g, 0, none⟩) n cap))
      exact ⟨_, _, hr, hgr.1, hgr.2.1, hgr.2.2, hown.below ⟨rfl, rfl, rfl, by simp, fun k hk => Below.heap_alloc w.drew _ k hk⟩⟩
end Go.Proofs.Ytidpbdhhbeaijaa
/- Plain facts for the long division: windows of a list, one step, the guess of a limb; no program is spoken of here. -/
namespace Go.Proofs.Ytidpbdhhbeaijaa
open Go.RowKit

theorem mid_get (a b c : List Nat) (o k : Nat) (ho : a.length = o) (h : k < b.length) : (a ++ (b ++ c)).getD (o + k) 0 = b.getD k 0 := by
  subst ho
  rw [List.getD_eq_getElem?_getD, List.getElem?_append_right (by omega), Nat.add_sub_cancel_left, List.getElem?_append_left h, ← List.getD_eq_getElem?_getD]
theorem mid_set (a b c : List Nat) (o k d : Nat) (ho : a.length = o) (h : k < b.length) : (a ++ (b ++ c)).set (o + k) d = a ++ (b.set k d ++ c) := by
  subst ho
  rw [List.set_append_right _ _ (Nat.le_add_right _ _), Nat.add_sub_cancel_left, List.set_append_left _ _ h]

theorem take_step (P A m Y X c b y x l c' d b' B : Nat) (h : A + m * Y = X + P * (c + b)) (hp : m * y + c = l + B * c') (hs : d + l + b = x + B * b') : (A + P * d) + m * (Y + P * y) = (X + P * x) + P * B * (c' + b') := by
  have e : d + m * y + (c + b) = x + B * (c' + b') := by rw [Nat.mul_add]; omega
  have e2 := congrArg (P * ·) e
  simp only [Nat.mul_add] at e2 h ⊢
  rw [Nat.mul_left_comm m P y, Nat.mul_assoc P B c', Nat.mul_assoc P B b']
  omega
theorem take_last (P A Y X c b x d b' B : Nat) (h : A + Y = X + P * (c + b)) (hs : d + c + b = x + B * b') : (A + P * d) + Y = (X + P * x) + P * B * b' := by
  have e2 := congrArg (P * ·) hs
  simp only [Nat.mul_add] at e2 h
  rw [Nat.mul_assoc P B b']
  omega
theorem put_step (P A Y X c y x d c' B : Nat) (h : A + P * c = X + Y) (hs : d + B * c' = x + y + c) : (A + P * d) + P * B * c' = (X + P * x) + (Y + P * y) := by
  have e2 := congrArg (P * ·) hs
  simp only [Nat.mul_add] at e2
  rw [Nat.mul_assoc P B c']
  omega

/-- The guess is not too small .. -/
theorem guess_low {u v U V ul vl P B g : Nat} (hu : u = U * P + ul) (hul : ul < P) (hv : v = V * P + vl) (hb : u < B * v) (hg : U / V ≤ g ∨ B ≤ g + 1) (hV : 0 < V) : u / v ≤ g := by
  have hP : 0 < P := by omega
  have hv0 : 0 < v := by rw [hv]; have := Nat.mul_pos hV hP; omega
  rcases hg with h | h
  · refine Nat.le_trans ?_ h
    rw [Nat.le_div_iff_mul_le hV]
    have h1 : u / v * v ≤ u := Nat.div_mul_le_self u v
    have h2 : u / v * (V * P) ≤ u / v * v := Nat.mul_le_mul_left _ (by omega)
    rw [← Nat.mul_assoc] at h2
    have h3 : u / v * V * P < (U + 1) * P := by rw [Nat.add_mul, Nat.one_mul]; omega
    have := Nat.lt_of_mul_lt_mul_right h3
    omega
  · have : u / v < B := by rw [Nat.div_lt_iff_lt_mul hv0]; exact hb
    omega
/-- .. and too great by 1 at most. -/
theorem guess_high {u v U V ul vl P B g : Nat} (hu : u = U * P + ul) (hv : v = V * P + vl) (hvl : vl < P) (hg : g * V ≤ U) (hgB : g < B) (hvB : B * P ≤ v) : g ≤ u / v + 1 := by
  have hv0 : 0 < v := by have := Nat.mul_pos (show 0 < B by omega) (show 0 < P by omega); omega
  have h1 : g * v ≤ u + v := by
    rw [hv, Nat.mul_add, ← Nat.mul_assoc, ← hv]
    have h2 : g * V * P ≤ U * P := Nat.mul_le_mul_right _ hg
    have h3 : g * vl ≤ B * P := Nat.mul_le_mul (Nat.le_of_lt hgB) (Nat.le_of_lt hvl)
    omega
  have h4 : g ≤ (u + v) / v := by rw [Nat.le_div_iff_mul_le hv0]; exact h1
  rwa [Nat.add_div_right _ hv0] at h4

theorem val_three (B : Nat) (xs : List Nat) (m : Nat) (h : xs.length = m + 3) : val B xs = ((xs.getD (m + 2) 0 * B + xs.getD (m + 1) 0) * B + xs.getD m 0) * B ^ m + val B (xs.take m) := by
  have e : xs = xs.take (m + 3) := by rw [List.take_of_length_le (by omega)]
  rw [e, val_take_succ B xs (m + 2) (by omega), val_take_succ B xs (m + 1) (by omega), val_take_succ B xs m (by omega), ← e, show B ^ (m + 2) = B ^ m * B * B by rw [Nat.pow_succ, Nat.pow_succ], Nat.pow_succ]
  simp only [Nat.add_mul]
  generalize B ^ m = P
  generalize xs.getD (m + 2) 0 = a
  generalize xs.getD (m + 1) 0 = b
  generalize xs.getD m 0 = c
  simp only [Nat.mul_comm, Nat.mul_left_comm]
  omega
theorem val_two (B : Nat) (xs : List Nat) (m : Nat) (h : xs.length = m + 2) : val B xs = (xs.getD (m + 1) 0 * B + xs.getD m 0) * B ^ m + val B (xs.take m) := by
  have e : xs = xs.take (m + 2) := by rw [List.take_of_length_le (by omega)]
  rw [e, val_take_succ B xs (m + 1) (by omega), val_take_succ B xs m (by omega), ← e, Nat.pow_succ]
  simp only [Nat.add_mul]
  generalize B ^ m = P
  generalize xs.getD (m + 1) 0 = b
  generalize xs.getD m 0 = c
  rw [Nat.mul_comm P c, Nat.mul_comm (P * B) b, Nat.mul_comm P B]
  simp only [Nat.mul_assoc]
  omega

/-- One step of the division, out of a guess. -/
theorem step_low {u v g u' b T : Nat} (hg : g ≤ u / v) (hu' : u' < T) (h : u' + g * v = u + T * b) (hb : b ≤ 1) (hlow : u / v ≤ g) : b = 0 ∧ g = u / v ∧ u' = u % v := by
  have e : g = u / v := by omega
  have h1 : g * v ≤ u := by rw [e]; exact Nat.div_mul_le_self u v
  have hb0 : b = 0 := by
    rcases Nat.eq_zero_or_pos b with k | k
    · exact k
    · have : b = 1 := by omega
      subst this; omega
  subst hb0
  refine ⟨rfl, e, ?_⟩
  have h2 := Nat.div_add_mod u v
  rw [Nat.mul_comm, ← e] at h2
  omega
theorem step_high {u v g u' b T u2 c : Nat} (hv : 0 < v) (hg : g = u / v + 1) (_hu' : u' < T) (h : u' + g * v = u + T * b) (_hb : b ≤ 1) (hu2 : u2 < T) (hc : u2 + T * c = u' + v) (hc1 : c ≤ 1) : b = 1 ∧ u2 = u % v := by
  have h1 := Nat.div_add_mod u v
  have h2 := Nat.mod_lt u hv
  rw [Nat.mul_comm] at h1
  rw [hg, Nat.add_mul, Nat.one_mul] at h
  have hb1 : b = 1 := by
    rcases Nat.eq_zero_or_pos b with k | k
    · subst k; omega
    · omega
  subst hb1
  refine ⟨rfl, ?_⟩
  have : c = 1 := by
    rcases Nat.eq_zero_or_pos c with k | k
    · subst k; omega
    · omega
  subst this
  omega
end Go.Proofs.Ytidpbdhhbeaijaa
/- Plain facts for the long division: shifts, the window's neighbours, start, step and end; no program is spoken of here. -/
namespace Go.Proofs.Ytidpbdhhbeaijaa
open Go.RowKit

theorem down_step (P Q a b D : Nat) (hP : 0 < P) (ha : a < P * Q) (hb : D % P = b % P) : (a + P * Q * D) / P = ((a + P * Q * b) / P) % (P * Q) + P * Q * (D / P) := by
  have e1 (x : Nat) : (a + P * Q * x) / P = a / P + Q * x := by rw [Nat.mul_assoc, Nat.add_mul_div_left _ _ hP]
  have h1 : a / P < Q := by rw [Nat.div_lt_iff_lt_mul hP, Nat.mul_comm]; exact ha
  have e2 (x : Nat) : a / P + Q * x = (a / P + Q * (x % P)) + P * Q * (x / P) := by
    have h2 := Nat.mod_add_div x P
    have h3 : Q * x = Q * (x % P) + P * Q * (x / P) := by
      rw [Nat.mul_comm P Q, Nat.mul_assoc, ← Nat.mul_add, h2]
    omega
  have h4 : a / P + Q * (b % P) < P * Q := by
    have h5 := Nat.mod_lt b hP
    have h6 : Q * (b % P + 1) ≤ Q * P := Nat.mul_le_mul_left _ h5
    rw [Nat.mul_add, Nat.mul_one, Nat.mul_comm Q P] at h6
    omega
  rw [e1, e1, e2 b, Nat.add_mul_mod_self_left, Nat.mod_eq_of_lt h4, e2 D, hb]

theorem up_low (P Q x : Nat) : (x * P) % (P * Q) = P * (x % Q) ∧ (x * P) / (P * Q) = x / Q ∨ P = 0 := by
  rcases Nat.eq_zero_or_pos P with h | h
  · exact .inr h
  · left
    rw [Nat.mul_comm x P, Nat.mul_mod_mul_left, Nat.mul_div_mul_left _ _ h]
    exact ⟨rfl, rfl⟩
theorem up_step (Pk A c X x P d h B : Nat) (h0 : A + Pk * c = X * P) (h1 : d + B * h = x * P + c) : (A + Pk * d) + Pk * B * h = (X + Pk * x) * P := by
  have e := congrArg (Pk * ·) h1
  simp only [Nat.mul_add] at e
  rw [Nat.add_mul, Nat.mul_assoc Pk B h, Nat.mul_assoc Pk x P]
  omega
theorem shl_or (s t c : Nat) (hc : c < 2 ^ s) : 2 ^ s * t ||| c = 2 ^ s * t + c := by
  rw [Nat.mul_comm, ← Nat.shiftLeft_eq, Nat.shiftLeft_add_eq_or_of_lt hc]

theorem val_cut (B : Nat) (xs : List Nat) (k : Nat) (h : k ≤ xs.length) : val B xs = val B (xs.take k) + B ^ k * val B (xs.drop k) := by
  have e := val_append B (xs.take k) (xs.drop k)
  rw [List.take_append_drop, List.length_take, Nat.min_eq_left h] at e
  exact e
theorem val_drop_cons (B : Nat) (xs : List Nat) (k : Nat) (h : k < xs.length) : val B (xs.drop k) = xs.getD k 0 + B * val B (xs.drop (k + 1)) := by
  rw [List.drop_eq_getElem_cons h]
  show _ + _ = _
  simp [List.getElem?_eq_getElem h]

/-- The window's rest: what lies above it is 0, and the window is below B times the divisor. -/
theorem win_facts {B V n : Nat} {R : List Nat} {j : Nat} (hB : 0 < B) (hd : Digs B R) (hl : j + n + 1 ≤ R.length) (hV : V ≤ B ^ n) (h : val B (R.drop (j + 1)) < V) :
    val B (R.drop (j + n + 1)) = 0 ∧ val B ((R.drop j).take (n + 1)) = val B (R.drop j) ∧ val B (R.drop j) < B * V := by
  have e1 := val_cut B (R.drop (j + 1)) n (by rw [List.length_drop]; omega)
  rw [List.drop_drop, show j + 1 + n = j + n + 1 by omega] at e1
  have z : val B (R.drop (j + n + 1)) = 0 := by
    rcases Nat.eq_zero_or_pos (val B (R.drop (j + n + 1))) with k | k
    · exact k
    · have := Nat.mul_le_mul_left (B ^ n) k
      omega
  refine ⟨z, ?_, ?_⟩
  · have e2 := val_cut B (R.drop j) (n + 1) (by rw [List.length_drop]; omega)
    rw [List.drop_drop, show j + (n + 1) = j + n + 1 by omega, z] at e2
    omega
  · rw [val_drop_cons B R j (by omega)]
    have h2 := hd.getD hB j
    have h3 : B * (val B (R.drop (j + 1)) + 1) ≤ B * V := Nat.mul_le_mul_left _ h
    rw [Nat.mul_add] at h3
    omega

theorem knuth_step (U V Q R T P W q W' B : Nat) (h : U = V * (P * B * Q) + R) (hR : R = T + P * W) (hW : W = V * q + W') : U = V * (P * (q + B * Q)) + (T + P * W') := by
  subst hR hW
  rw [h]
  simp only [Nat.mul_add, Nat.mul_assoc, Nat.mul_left_comm P V]
  omega
theorem knuth_end {U V Q R X Y S : Nat} (hS : 0 < S) (h : U = V * Q + R) (hR : R < V) (hU : U = X * S) (hV : V = Y * S) : Q = X / Y ∧ R / S = X % Y := by
  have hV0 : 0 < V := by omega
  have h1 : U / V = Q := by rw [h, Nat.mul_add_div hV0, Nat.div_eq_of_lt hR, Nat.add_zero]
  have h2 : U % V = R := by rw [h, Nat.mul_add_mod, Nat.mod_eq_of_lt hR]
  rw [hU, hV, Nat.mul_div_mul_right _ _ hS] at h1
  rw [hU, hV, Nat.mul_mod_mul_right] at h2
  refine ⟨h1.symm, ?_⟩
  rw [← h2, Nat.mul_div_cancel _ hS]
theorem knuth_start {B V X S la n L r : Nat} {R : List Nat} (hl : R.length = la + 1) (hR : val B R = X * S) (hX : X < B ^ la) (hn : 0 < n) (hL : L + n = la + 1) (hr : B ^ (n - 1) * r ≤ V) (hS : S ≤ r) (hS0 : 0 < S) : val B (R.drop L) < V := by
  have e := val_cut B R L (by omega)
  rw [hR] at e
  have h1 : X * S < B ^ la * S := Nat.mul_lt_mul_of_pos_right hX hS0
  have e2 : B ^ la = B ^ L * B ^ (n - 1) := by rw [← Nat.pow_add]; congr 1; omega
  rw [e2, Nat.mul_assoc] at h1
  have h2 : B ^ L * val B (R.drop L) < B ^ L * (B ^ (n - 1) * S) := by omega
  have h3 := Nat.lt_of_mul_lt_mul_left h2
  have h4 : B ^ (n - 1) * S ≤ B ^ (n - 1) * r := Nat.mul_le_mul_left _ hS
  omega

theorem norm_length {B n : Nat} {l : List Nat} (hB : 2 ≤ B) (hn : Norm l) (hd : Digs B l) (h0 : 0 < n) (h1 : B ^ (n - 1) ≤ val B l) (h2 : val B l < B ^ n) : l.length = n := by
  have h3 := val_lt hd
  have h4 : n - 1 < l.length := by
    rcases Nat.lt_or_ge (n - 1) l.length with k | k
    · exact k
    · have := Nat.pow_le_pow_right (show 0 < B by omega) k
      omega
  have h5 := hn.ge (B := B) (List.ne_nil_of_length_pos (by omega)) (by omega)
  have h6 : l.length - 1 < n := by
    rcases Nat.lt_or_ge (l.length - 1) n with k | k
    · exact k
    · have := Nat.pow_le_pow_right (show 0 < B by omega) k
      omega
  omega
end Go.Proofs.Ytidpbdhhbeaijaa
/- Contracts of arith.takeOff and putBack; they prove no statement of the seat. -/
namespace Go.Proofs.Ytidpbdhhbeaijaa
open Go.RowKit

/-- A window of a block: what lies ahead, the window, what lies behind. -/
def Win (w : World) (g o : Nat) (pre win post : List Nat) : Prop := Row .u32 112 w g (pre ++ (win ++ post)) ∧ pre.length = o

theorem Win.cell {w : World} {g o : Nat} {pre win post : List Nat} (h : Win w g o pre win post) (k : Nat) (hk : k < win.length) : w.cell? ⟨g, o + k, none⟩ = some (.int .u32 (win.getD k 0 : Nat)) := by
  have h1 := h.1.cell (o + k) (by have := h.2; simp; omega)
  rwa [mid_get _ _ _ _ _ h.2 hk] at h1
theorem Win.frozen {w : World} {g o : Nat} {pre win post : List Nat} (h : Win w g o pre win post) (i : Nat) : w.frozen? ⟨g, i, none⟩ = false := h.1.frozen i
theorem Win.set {w : World} {g o : Nat} {pre win post : List Nat} (h : Win w g o pre win post) (k : Nat) (z : Int) (d : Nat) (hz : z = (d : Int)) (hk : k < win.length) : Win (w.setCell ⟨g, o + k, none⟩ (.int .u32 z)) g o pre (win.set k d) post := by
  have h1 := h.1.set (o + k) z d hz
  rw [mid_set _ _ _ _ _ _ h.2 hk] at h1
  exact ⟨h1, h.2⟩

theorem sub32_i (x y b : Nat) (Y : Int) (w : World) (hY : Y = (y : Int)) (hx : x < 4294967296) (hy : y < 4294967296) (hb : b ≤ 1) :
    Calls Try.prog 96 #[.int .u32 x, .int .u32 Y, .int .u32 b] w fun e w' =>
      ∃ d b' : Nat, e = .returned (.tuple #[.int .u32 d, .int .u32 b']) ∧ d < 4294967296 ∧ b' ≤ 1 ∧ Hid (d + y + b = x + 4294967296 * b') ∧ w' = w := by
  subst hY
  exact sub32_c x y b w hx hy hb

set_option maxHeartbeats 4000000 in
theorem takeOff_any (g o n cap cap' m : Nat) (bo : Option Addr) (pre win post ys : List Nat) (w : World) (hW : Win w g o pre win post) (hwl : win.length = n + 1) (hyl : ys.length = n) (hn : n ≤ 9000) (ht : Seg .u32 w bo ys) (hne : ∀ a, bo = some a → a.block ≠ g) (hdw : Digs 4294967296 win) (hdy : Digs 4294967296 ys) (hm : m < 4294967296) :
    Calls Try.prog 107 #[.slice (some ⟨g, o, none⟩) (n + 1) cap, .slice bo n cap', .int .u32 m] w fun e w' => ∃ b : Nat, ∃ win', e = .returned (.bool ((b : Int) != 0)) ∧ b ≤ 1 ∧ win'.length = n + 1 ∧ Digs 4294967296 win' ∧ val 4294967296 win' + m * val 4294967296 ys = val 4294967296 win + 4294967296 ^ (n + 1) * b ∧ Win w' g o pre win' post ∧ Only g w w' := by
  have HWL : Hid (win.length = n + 1) := hwl
  have HYL : Hid (ys.length = n) := hyl
  clear hwl hyl
  go_enter Try.func107, Try.ntmps107
  go_wp2
  go_loopw [7, 8, 15] (fun cv bv i wr => ∃ k c b : Nat, ∃ zs, k ≤ n ∧ i = .int .i64 k ∧ cv = .int .u64 c ∧ bv = .int .u32 b ∧ c < 4294967296 ∧ b ≤ 1 ∧ Hid (zs.length = n + 1) ∧ Digs 4294967296 zs ∧ Hid (val 4294967296 (zs.take k) + m * val 4294967296 (ys.take k) = val 4294967296 (win.take k) + 4294967296 ^ k * (c + b)) ∧
      Hid (zs.drop k = win.drop k) ∧ Win wr g o pre zs post ∧ Only g w wr) (fun _ _ i _ => n - (intOf i).toNat)
  case atStart => exact ⟨0, 0, 0, win, Nat.zero_le _, rfl, rfl, rfl, by decide, by decide, HWL, hdw, (by simp [val] : _ = _), (rfl : _ = _), hW, Only.refl _ _⟩
  case round =>
    obtain ⟨k, c, b, zs, hk, rfl, rfl, rfl, hc, hb, HZ, hzd, HV, HD, hwin, honly⟩ := hrel
    have hx0 := hwin.cell k (by have := HZ.out; omega)
    obtain ⟨x, hx⟩ : ∃ x, x = zs.getD k 0 := ⟨_, rfl⟩
    rw [← hx] at hx0
    have hxl : x < 4294967296 := hx ▸ hzd.getD (by decide) k
    have HXX : Hid (x = win.getD k 0) := by show _ = _; rw [hx, getD_drop0 zs _ k HD.out]
    have hfr := hwin.frozen (o + k)
    clear hx
    by_cases h0 : k < n
    · obtain ⟨b2, off, rfl, hcs⟩ := (honly.seg ht hne).open k (by have := HYL.out; omega)
      have hcell := hcs k (by have := HYL.out; omega)
      obtain ⟨y, hy⟩ : ∃ y, y = ys.getD k 0 := ⟨_, rfl⟩
      have hyl : y < 4294967296 := hy ▸ hdy.getD (by decide) k
      rw [← hy] at hcell
      have HYY : Hid (y = ys.getD k 0) := hy
      clear hy hcs
      have hmul : y * m ≤ 4294967295 * 4294967295 := Nat.mul_le_mul (by omega) (by omega)
      obtain ⟨p, hp⟩ : ∃ p, p = y * m := ⟨_, rfl⟩
      have hpi : (y : Int) * (m : Int) = (p : Int) := by rw [hp, Int.natCast_mul]
      rw [← hp] at hmul
      have HP : Hid (p = y * m) := hp
      clear hp
      go_wp2_with (go_at_call 96; refine (sub32_i x ((p + c) % 4294967296) b _ _ (by omega) hxl (Nat.mod_lt _ (by decide)) hb).mono ?_; rintro e w2 ⟨d, b', rfl, hdl, hb', HS, rfl⟩)
      go_roundw
      case rel =>
        refine ⟨k + 1, (p + c) / 4294967296, b', zs.set k d, by omega, by go_num, by rw [Int.natCast_ediv, Int.natCast_add]; rfl, rfl, by omega, hb', ?_, hzd.set _ _ hdl, ?_, ?_, hwin.set k _ _ rfl (by have := HZ.out; omega), honly.set _ _⟩
        · show _ = _
          rw [List.length_set]; exact HZ.out
        · show _ = _
          rw [val_set_succ _ _ _ _ (by have := HZ.out; omega), val_take_succ', val_take_succ', ← HXX.out, ← HYY.out, Nat.pow_succ]
          refine take_step _ _ _ _ _ _ _ _ _ ((p + c) % 4294967296) _ _ _ _ HV.out ?_ HS.out
          rw [Nat.mul_comm m y, ← HP.out]
          omega
        · show _ = _
          rw [drop_set_succ]; exact drop_succ_of _ _ _ HD.out
      case measure => simp [intOf]; omega
    · have hkn : k = n := by omega
      subst hkn
      go_wp2_with (go_at_call 96; refine (sub32_i x c b _ _ (by omega) hxl hc hb).mono ?_; rintro e w2 ⟨d, b', rfl, hdl, hb', HS, rfl⟩)
      go_ret
      refine ⟨b', zs.set k d, rfl, hb', by rw [List.length_set]; exact HZ.out, hzd.set _ _ hdl, ?_, hwin.set k _ _ rfl (by have := HZ.out; omega), honly.set _ _⟩
      have e1 : zs.set k d = (zs.set k d).take (k + 1) := by rw [List.take_of_length_le (by rw [List.length_set]; have := HZ.out; omega)]
      have e2 : val 4294967296 win = val 4294967296 (win.take (k + 1)) := by rw [List.take_of_length_le (by have := HWL.out; omega)]
      have hv := HV.out
      rw [List.take_of_length_le (show ys.length ≤ k by have := HYL.out; omega)] at hv
      rw [e1, val_set_succ _ _ _ _ (by have := HZ.out; omega), e2, val_take_succ', ← HXX.out, Nat.pow_succ]
      exact take_last _ _ _ _ _ _ _ _ _ _ hv HS.out

theorem add32_c (x y b : Nat) (w : World) (hx : x < 4294967296) (hy : y < 4294967296) (hb : b ≤ 1) :
    Calls Try.prog 114 #[.int .u32 x, .int .u32 y, .int .u32 b] w fun e w' =>
      ∃ d b' : Nat, e = .returned (.tuple #[.int .u32 d, .int .u32 b']) ∧ d < 4294967296 ∧ b' ≤ 1 ∧ Hid (d + 4294967296 * b' = x + y + b) ∧ w' = w := by
  refine (add32_any x y b w (by omega) (by omega) hb).mono ?_
  rintro e w' ⟨rfl, rfl⟩
  exact ⟨_, _, rfl, Nat.mod_lt _ (by decide), by omega, (Nat.mod_add_div _ _ : _ = _), rfl⟩

set_option maxHeartbeats 4000000 in
theorem putBack_any (g o n cap cap' : Nat) (bo : Option Addr) (pre win post ys : List Nat) (w : World) (hW : Win w g o pre win post) (hwl : win.length = n + 1) (hyl : ys.length = n) (hn : n ≤ 9000) (ht : Seg .u32 w bo ys) (hne : ∀ a, bo = some a → a.block ≠ g) (hdw : Digs 4294967296 win) (hdy : Digs 4294967296 ys) :
    Calls Try.prog 108 #[.slice (some ⟨g, o, none⟩) (n + 1) cap, .slice bo n cap'] w fun e w' => ∃ b : Nat, ∃ win', e = .returned (.tuple #[]) ∧ b ≤ 1 ∧ win'.length = n + 1 ∧ Digs 4294967296 win' ∧ val 4294967296 win' + 4294967296 ^ (n + 1) * b = val 4294967296 win + val 4294967296 ys ∧ Win w' g o pre win' post ∧ Only g w w' := by
  have HWL : Hid (win.length = n + 1) := hwl
  have HYL : Hid (ys.length = n) := hyl
  clear hwl hyl
  go_enter Try.func108, Try.ntmps108
  go_wp2
  go_loopw [4, 9] (fun cv i wr => ∃ k c : Nat, ∃ zs, k ≤ n ∧ i = .int .i64 k ∧ cv = .int .u32 c ∧ c ≤ 1 ∧ Hid (zs.length = n + 1) ∧ Digs 4294967296 zs ∧ Hid (val 4294967296 (zs.take k) + 4294967296 ^ k * c = val 4294967296 (win.take k) + val 4294967296 (ys.take k)) ∧
      Hid (zs.drop k = win.drop k) ∧ Win wr g o pre zs post ∧ Only g w wr) (fun _ i _ => n - (intOf i).toNat)
  case atStart => exact ⟨0, 0, win, Nat.zero_le _, rfl, rfl, by decide, HWL, hdw, (by simp [val] : _ = _), (rfl : _ = _), hW, Only.refl _ _⟩
  case round =>
    obtain ⟨k, c, zs, hk, rfl, rfl, hc, HZ, hzd, HV, HD, hwin, honly⟩ := hrel
    have hx0 := hwin.cell k (by have := HZ.out; omega)
    obtain ⟨x, hx⟩ : ∃ x, x = zs.getD k 0 := ⟨_, rfl⟩
    rw [← hx] at hx0
    have hxl : x < 4294967296 := hx ▸ hzd.getD (by decide) k
    have HXX : Hid (x = win.getD k 0) := by show _ = _; rw [hx, getD_drop0 zs _ k HD.out]
    have hfr := hwin.frozen (o + k)
    clear hx
    by_cases h0 : k < n
    · obtain ⟨b2, off, rfl, hcs⟩ := (honly.seg ht hne).open k (by have := HYL.out; omega)
      have hcell := hcs k (by have := HYL.out; omega)
      obtain ⟨y, hy⟩ : ∃ y, y = ys.getD k 0 := ⟨_, rfl⟩
      have hyl : y < 4294967296 := hy ▸ hdy.getD (by decide) k
      rw [← hy] at hcell
      have HYY : Hid (y = ys.getD k 0) := hy
      clear hy hcs
      go_wp2_with (go_at_call 114; refine (add32_c x y c _ hxl hyl hc).mono ?_; rintro e w2 ⟨d, b', rfl, hdl, hb', HS, rfl⟩)
      go_roundw
      case rel =>
        refine ⟨k + 1, b', zs.set k d, by omega, by go_num, rfl, hb', ?_, hzd.set _ _ hdl, ?_, ?_, hwin.set k _ _ rfl (by have := HZ.out; omega), honly.set _ _⟩
        · show _ = _
          rw [List.length_set]; exact HZ.out
        · show _ = _
          rw [val_set_succ _ _ _ _ (by have := HZ.out; omega), val_take_succ', val_take_succ', ← HXX.out, ← HYY.out, Nat.pow_succ]
          exact put_step _ _ _ _ _ _ _ _ _ _ HV.out HS.out
        · show _ = _
          rw [drop_set_succ]; exact drop_succ_of _ _ _ HD.out
      case measure => simp [intOf]; omega
    · have hkn : k = n := by omega
      subst hkn
      go_wp2
      go_end0
      refine ⟨(x + c) / 4294967296, zs.set k ((x + c) % 4294967296), rfl, by omega, by rw [List.length_set]; exact HZ.out, hzd.set _ _ (Nat.mod_lt _ (by decide)), ?_, hwin.set k _ _ (by rw [Int.natCast_emod, Int.natCast_add]; rfl) (by have := HZ.out; omega), honly.set _ _⟩
      have e1 : zs.set k ((x + c) % 4294967296) = (zs.set k ((x + c) % 4294967296)).take (k + 1) := by rw [List.take_of_length_le (by rw [List.length_set]; have := HZ.out; omega)]
      have e2 : val 4294967296 win = val 4294967296 (win.take (k + 1)) := by rw [List.take_of_length_le (by have := HWL.out; omega)]
      have e3 : val 4294967296 ys = val 4294967296 (ys.take k) + 4294967296 ^ k * 0 := by rw [List.take_of_length_le (by have := HYL.out; omega), Nat.mul_zero, Nat.add_zero]
      rw [e1, val_set_succ _ _ _ _ (by have := HZ.out; omega), e2, e3, val_take_succ', ← HXX.out, Nat.pow_succ]
      refine put_step _ _ _ _ _ _ _ _ _ _ HV.out ?_
      rw [Nat.add_zero]
      exact Nat.mod_add_div _ _
end Go.Proofs.Ytidpbdhhbeaijaa
