/- Joined: RegB, RefW, RefP, RefC: words and contracts; no statement of the seat is proved here. -/
import Derived.Test.YteefniagebcagaaGreatDoorJoin25Tells
import Derived.Test.YteefniagebcagaaGreatDoorJoin19Tells
/- Words for regions that only read: all that lay there stays; they prove no statement of the seat. -/
namespace Go.Proofs.YteefniagebcagaaGreatDoor
open Go.RowKit
set_option linter.unusedVariables false

/-- All that lay there stays. -/
structure KeepB (w w' : World) : Prop where
  b : Below w.heap.size w w'
theorem KeepB.below {w w' : World} (h : Below w.heap.size w w') : KeepB w w' := ⟨h⟩
theorem KeepB.trans {a b c : World} (h : KeepB a b) (k : KeepB b c) : KeepB a c := ⟨h.b.step k.b (Nat.le_refl _)⟩
theorem KeepB.p {w w' : World} (h : KeepB w w') : KeepP w w' := KeepP.below h.b
def MonoB (p : Value → World → Prop) : Prop := ∀ u w w', KeepB w w' → p u w → p u w'
theorem MonoP.b {p : Value → World → Prop} (h : MonoP p) : MonoB p := fun u w w' hk => h u w w' hk.p
theorem mb_is {v : Value} : MonoB (IS v) := mp_is.b
theorem mb_int {z : Int} : MonoB (INT z) := mp_int.b
theorem mb_rnm {z : Int} {N : Nat} : MonoB (RNM z N) := mp_rnm.b
theorem mb_t2 {p q : Value → World → Prop} (hp : MonoB p) (hq : MonoB q) : MonoB (T2 p q) := fun _ w w' hk h => by
  obtain ⟨a, b, h1, h2, h3⟩ := h
  exact ⟨a, b, h1, hp _ _ _ hk h2, hq _ _ _ hk h3⟩
theorem mvB {p : Value → World → Prop} (hp : MonoB p) {w w' : World} (hk : KeepB w w') {b : Prop} {u : Value} (h : b → p u w) : b → p u w' := fun k => hp _ _ _ hk (h k)
end Go.Proofs.YteefniagebcagaaGreatDoor
/- Words for the parts and terms of suretyref03 in the machine; no statement of the seat is proved here. -/
namespace Go.Proofs.YteefniagebcagaaGreatDoor
open Go.RowKit
set_option linter.unusedVariables false

/-- Limbs, rows of ints and rows of parts stay. -/
structure KeepQ (w w' : World) : Prop where
  n : KeepN w w'
  q : ∀ (b : Nat) (cs : Array Value), w.heap[b]? = some (.cells cs 70 (0, 0)) → w'.heap[b]? = some (.cells cs 70 (0, 0))
theorem KeepQ.trans {a b c : World} (h : KeepQ a b) (k : KeepQ b c) : KeepQ a c := ⟨h.n.trans k.n, fun g cs hg => k.q g cs (h.q g cs hg)⟩
theorem KeepQ.below {w w' : World} (h : Below w.heap.size w w') : KeepQ w w' := ⟨KeepN.below h, fun b _ hb => (h.block b (Array.getElem?_eq_some_iff.1 hb).1).trans hb⟩
/-- The cells from 'ao' on are parts: variables and coefficients. -/
def QArr (w : World) (ao : Option Addr) (ps : List (Nat × Int)) : Prop :=
  ps = [] ∨ ∃ (g o : Nat) (cur : Array Value), ao = some ⟨g, o, none⟩ ∧ w.heap[g]? = some (.cells cur 70 (0, 0)) ∧ ∀ i, i < ps.length → ∃ s a n c,
    cur[o + i * 3]? = some (.int .i64 ((ps.getD i (0, 0)).1 : Nat)) ∧ cur[o + i * 3 + 1]? = some (.bool s) ∧ cur[o + i * 3 + 2]? = some (.slice a n c) ∧ RNum w (.agg #[.bool s, .slice a n c]) (ps.getD i (0, 0)).2 900
section
variable {w w' : World} {ao : Option Addr} {ps : List (Nat × Int)}
theorem QArr.nil (w : World) (ao : Option Addr) : QArr w ao [] := Or.inl rfl
theorem QArr.keepQ (h : QArr w ao ps) (hk : KeepQ w w') : QArr w' ao ps := by
  rcases h with h | ⟨g, o, cur, rfl, hg, hc⟩
  · exact Or.inl h
  · refine Or.inr ⟨g, o, cur, rfl, hk.q _ _ hg, fun i hi => ?_⟩
    obtain ⟨s, a, n, c, h1, h2, h3, h4⟩ := hc i hi
    exact ⟨s, a, n, c, h1, h2, h3, h4.keepN hk.n⟩
theorem QArr.below (h : QArr w ao ps) (hb : Below w.heap.size w w') : QArr w' ao ps := h.keepQ (KeepQ.below hb)
/-- One of them: its place, its cells. -/
theorem QArr.at (h : QArr w ao ps) (i : Nat) (hi : i < ps.length) : ∃ g o s a n c, ao = some ⟨g, o, none⟩ ∧ w.cell? ⟨g, o + i * 3, none⟩ = some (.int .i64 ((ps.getD i (0, 0)).1 : Nat)) ∧ w.cell? ⟨g, o + i * 3 + 1, none⟩ = some (.bool s) ∧
    w.cell? ⟨g, o + i * 3 + 2, none⟩ = some (.slice a n c) ∧ RNum w (.agg #[.bool s, .slice a n c]) (ps.getD i (0, 0)).2 900 := by
  rcases h with h | ⟨g, o, cur, rfl, hg, hc⟩
  · subst h; simp at hi
  · obtain ⟨s, a, n, c, h1, h2, h3, h4⟩ := hc i hi
    exact ⟨g, o, s, a, n, c, rfl, (cell_of_row w g _ cur _ (0, 0) hg).trans h1, (cell_of_row w g _ cur _ (0, 0) hg).trans h2, (cell_of_row w g _ cur _ (0, 0) hg).trans h3, h4⟩
end
/-- The cells xs are parts. -/
def ElsQ (w : World) (xs : List Value) (ps : List (Nat × Int)) : Prop :=
  ∀ i, i < ps.length → ∃ s a n c, xs[i * 3]? = some (.int .i64 ((ps.getD i (0, 0)).1 : Nat)) ∧ xs[i * 3 + 1]? = some (.bool s) ∧ xs[i * 3 + 2]? = some (.slice a n c) ∧ RNum w (.agg #[.bool s, .slice a n c]) (ps.getD i (0, 0)).2 900
theorem ElsQ.nil (w : World) : ElsQ w [] [] := fun i hi => by simp at hi
theorem ElsQ.keep {w w' : World} {xs : List Value} {ps : List (Nat × Int)} (h : ElsQ w xs ps) (hk : KeepN w w') : ElsQ w' xs ps := by
  intro i hi
  obtain ⟨s, a, n, c, h1, h2, h3, h4⟩ := h i hi
  exact ⟨s, a, n, c, h1, h2, h3, h4.keepN hk⟩
theorem ElsQ.app {w : World} {xs ys : List Value} {ps qs : List (Nat × Int)} (h : ElsQ w xs ps) (hl : xs.length = ps.length * 3) (k : ElsQ w ys qs) : ElsQ w (xs ++ ys) (ps ++ qs) := by
  intro i hi
  rw [List.length_append] at hi
  rcases Nat.lt_or_ge i ps.length with j | j
  · obtain ⟨s, a, n, c, h1, h2, h3, h4⟩ := h i j
    have e : (ps ++ qs).getD i (0, 0) = ps.getD i (0, 0) := by rw [List.getD_eq_getElem?_getD, List.getElem?_append_left j, ← List.getD_eq_getElem?_getD]
    rw [e]
    refine ⟨s, a, n, c, ?_, ?_, ?_, h4⟩
    · rw [List.getElem?_append_left (by omega)]; exact h1
    · rw [List.getElem?_append_left (by omega)]; exact h2
    · rw [List.getElem?_append_left (by omega)]; exact h3
  · obtain ⟨s, a, n, c, h1, h2, h3, h4⟩ := k (i - ps.length) (by omega)
    have e : (ps ++ qs).getD i (0, 0) = qs.getD (i - ps.length) (0, 0) := by rw [List.getD_eq_getElem?_getD, List.getElem?_append_right j, ← List.getD_eq_getElem?_getD]
    have e2 : i * 3 - xs.length = (i - ps.length) * 3 := by rw [hl, Nat.sub_mul]
    rw [e]
    refine ⟨s, a, n, c, ?_, ?_, ?_, h4⟩
    · rw [List.getElem?_append_right (by omega), e2]; exact h1
    · rw [List.getElem?_append_right (by omega), show i * 3 + 1 - xs.length = (i - ps.length) * 3 + 1 by omega]; exact h2
    · rw [List.getElem?_append_right (by omega), show i * 3 + 2 - xs.length = (i - ps.length) * 3 + 2 by omega]; exact h3
theorem ElsQ.one {w : World} {v : Nat} {s : Bool} {a : Option Addr} {n c : Nat} {z : Int} (h : RNum w (.agg #[.bool s, .slice a n c]) z 900) : ElsQ w [.int .i64 v, .bool s, .slice a n c] [(v, z)] := by
  intro i hi
  have : i = 0 := by simpa using hi
  subst this
  exact ⟨s, a, n, c, rfl, rfl, rfl, h⟩
/-- Such a list is a row of parts. -/
theorem LstG.qarr {base : Nat} {w : World} {v : Value} {n : Nat} {xs : List Value} {ps : List (Nat × Int)} (h : LstG 3 70 base w v n xs) (he : ElsQ w xs ps) (hl : ps.length = n) : ∃ ao cap, v = .slice ao n cap ∧ n ≤ cap ∧ cap ≤ maxLen ∧ (ao = none → cap = 0) ∧ QArr w ao ps := by
  rcases h.2 with ⟨rfl, h0⟩ | ⟨g, cap, cur, rfl, h3, h4, h5, h6, h7, h8, _⟩
  · exact ⟨none, 0, by rw [h0], by omega, Nat.zero_le _, fun _ => rfl, Or.inl (List.eq_nil_of_length_eq_zero (hl.trans h0))⟩
  · refine ⟨_, cap, rfl, h5, h6, (fun e => by cases e), Or.inr ⟨g, 0, cur, rfl, h4, fun i hi => ?_⟩⟩
    obtain ⟨s, a, m, c, k1, k2, k3, k4⟩ := he i hi
    have q : ∀ (j : Nat) u, xs[j]? = some u → cur[j]? = some u := by
      intro j u hj
      have hj' : j < xs.length := (List.getElem?_eq_some_iff.1 hj).1
      rw [← h8, List.getElem?_take] at hj
      split at hj
      · rw [← Array.getElem?_toList]; exact hj
      · cases hj
    exact ⟨s, a, m, c, by rw [Nat.zero_add]; exact q _ _ k1, by rw [Nat.zero_add]; exact q _ _ k2, by rw [Nat.zero_add]; exact q _ _ k3, k4⟩
/-- The cells of a row of parts, as a list. -/
theorem QArr.cells {w : World} {ao : Option Addr} {ps : List (Nat × Int)} (h : QArr w ao ps) (hp : 0 < ps.length) : ∃ g o xs, ao = some ⟨g, o, none⟩ ∧ xs.length = ps.length * 3 ∧ ElsQ w xs ps ∧ (∀ j u, xs[j]? = some u → w.cell? ((⟨g, o, none⟩ : Addr).add j) = some u) ∧ (∀ u ∈ xs, u.oneCell' = true) ∧ ∀ u ∈ xs, NoU u := by
  rcases h with h | ⟨g, o, cur, rfl, hg, hc⟩
  · subst h; simp at hp
  · have hlen : o + ps.length * 3 ≤ cur.size := by
      obtain ⟨_, _, _, _, _, _, h3, _⟩ := hc (ps.length - 1) (by omega)
      have := (Array.getElem?_eq_some_iff.1 h3).1
      omega
    refine ⟨g, o, (cur.toList.drop o).take (ps.length * 3), rfl, by simp; omega, ?_, ?_, ?_, ?_⟩
    · intro i hi
      obtain ⟨s, a, n, c, h1, h2, h3, h4⟩ := hc i hi
      refine ⟨s, a, n, c, ?_, ?_, ?_, h4⟩
      · rw [List.getElem?_take, if_pos (by omega), List.getElem?_drop, Array.getElem?_toList]; exact h1
      · rw [List.getElem?_take, if_pos (by omega), List.getElem?_drop, Array.getElem?_toList]; exact h2
      · rw [List.getElem?_take, if_pos (by omega), List.getElem?_drop, Array.getElem?_toList]; exact h3
    · intro j u hj
      rw [List.getElem?_take] at hj
      split at hj
      · rw [List.getElem?_drop, Array.getElem?_toList] at hj
        rw [Addr.add_lit, cell_of_row w g _ cur _ (0, 0) hg]; exact hj
      · cases hj
    all_goals
      intro u hu
      obtain ⟨j, hj⟩ := List.mem_iff_getElem?.1 hu
      rw [List.getElem?_take] at hj
      split at hj
      · rename_i hj3
        rw [List.getElem?_drop, Array.getElem?_toList] at hj
        obtain ⟨s, a, n, c, h1, h2, h3, h4⟩ := hc (j / 3) (by omega)
        have hm : j % 3 = 0 ∨ j % 3 = 1 ∨ j % 3 = 2 := by omega
        rcases hm with k | k | k
        · rw [show o + j = o + j / 3 * 3 by omega, h1] at hj; cases hj; first | rfl | exact noU_i64 _
        · rw [show o + j = o + j / 3 * 3 + 1 by omega, h2] at hj; cases hj; first | rfl | exact noU_bool _
        · rw [show o + j = o + j / 3 * 3 + 2 by omega, h3] at hj; cases hj; first | rfl | exact noU_slice _ _ _
      · cases hj
theorem keepQ_stores {t : TypeId} {b : Nat} (ht : t ≠ 3) (hp : t ≠ 70) (vs : List Value) {w : World} {cs : Array Value} (i : Nat) (h : Blk t w b cs) (hN : ∀ u ∈ cs.toList, NoU u) (hv : ∀ u ∈ vs, NoU u) : KeepQ w (stores w b i vs) := by
  refine ⟨keepN_stores ht vs i h hN hv, fun g cs' hg => ?_⟩
  by_cases hb : g = b
  · subst hb
    have h' : w.heap[g]? = some (.cells cs t (0, 0)) := h
    rw [h'] at hg
    injection hg with hg
    injection hg with _ h2
    exact absurd h2 hp
  · exact (stores_other b g hb vs w i).trans hg
theorem KeepB.q {w w' : World} (h : KeepB w w') : KeepQ w w' := KeepQ.below h.b
theorem RNum.keepQ {w w' : World} {v : Value} {z : Int} {L : Nat} (h : RNum w v z L) (hk : KeepQ w w') : RNum w' v z L := h.keepN hk.n
theorem RNum.up {w : World} {v : Value} {z : Int} {L M : Nat} (h : RNum w v z L) (hl : L ≤ M) : RNum w v z M := by
  obtain ⟨neg, ds, h1, h2, h3⟩ := h
  exact ⟨neg, ds, h1, h2, Nat.le_trans h3 hl⟩
theorem RNum.zeroN (w : World) (L : Nat) : RNum w (.agg #[.bool false, .slice none 0 0]) 0 L := ⟨false, [], ⟨none, 0, rfl, Nat.le_refl _, Nat.zero_le _, fun _ => rfl, Or.inl rfl, Digs.nil _, Norm.nil, fun _ => rfl, fun a h => by cases h⟩, by simp [sv, val], Nat.zero_le _⟩
/-- The number is nought just if it has no digits. -/
theorem RNum.len {w : World} {x : Bool} {a : Option Addr} {n c : Nat} {z : Int} {L : Nat} (h : RNum w (.agg #[.bool x, .slice a n c]) z L) : (n = 0 ↔ z = 0) ∧ n ≤ L := by
  obtain ⟨neg, ds, ⟨ao, cap, h1, h2, h3, h4, h5, hd, hn, h8, h9⟩, h10, h11⟩ := h
  injection h1 with h1
  simp at h1
  obtain ⟨rfl, rfl, rfl, rfl⟩ := h1
  refine ⟨⟨fun k => ?_, fun k => ?_⟩, h11⟩
  · rw [h10, List.eq_nil_of_length_eq_zero k]; simp [sv, val]
  · have hv : val 10 ds = 0 := by rw [← sv_natAbs _ (val 10 ds), ← h10, k]; rfl
    exact hn.len_zero (by decide) hv
/-- The parts of a term's struct. -/
structure RTP (w : World) (ao : Option Addr) (n cap : Nat) (x : Bool) (a : Option Addr) (m c : Nat) (ps : List (Nat × Int)) (r : Int) : Prop where
  len : ps.length = n
  cap1 : n ≤ cap
  cap2 : cap ≤ maxLen
  none : ao = none → cap = 0
  arr : QArr w ao ps
  rest : RNum w (.agg #[.bool x, .slice a m c]) r 400
  fine : Fine ps
  rlim : r.natAbs < lim
/-- The value v is the term. -/
def RTermR (w : World) (v : Value) (ps : List (Nat × Int)) (r : Int) : Prop := ∃ ao n cap x a m c, v = .agg #[.slice ao n cap, .bool x, .slice a m c] ∧ RTP w ao n cap x a m c ps r
section
variable {w w' : World} {ao : Option Addr} {n cap : Nat} {x : Bool} {a : Option Addr} {m c : Nat} {ps : List (Nat × Int)} {r : Int} {v : Value}
theorem RTP.keepQ (h : RTP w ao n cap x a m c ps r) (hk : KeepQ w w') : RTP w' ao n cap x a m c ps r := ⟨h.len, h.cap1, h.cap2, h.none, h.arr.keepQ hk, h.rest.keepQ hk, h.fine, h.rlim⟩
theorem RTP.below (h : RTP w ao n cap x a m c ps r) (hb : Below w.heap.size w w') : RTP w' ao n cap x a m c ps r := h.keepQ (KeepQ.below hb)
theorem RTP.val (h : RTP w ao n cap x a m c ps r) : RTermR w (.agg #[.slice ao n cap, .bool x, .slice a m c]) ps r := ⟨ao, n, cap, x, a, m, c, rfl, h⟩
theorem RTermR.keepQ (h : RTermR w v ps r) (hk : KeepQ w w') : RTermR w' v ps r := by
  obtain ⟨ao, n, cap, x, a, m, c, rfl, h⟩ := h
  exact (h.keepQ hk).val
theorem RTermR.below (h : RTermR w v ps r) (hb : Below w.heap.size w w') : RTermR w' v ps r := h.keepQ (KeepQ.below hb)
theorem RTermR.shape (h : RTermR w v ps r) : ∃ p n k x a m c, v = .agg #[.slice p n k, .bool x, .slice a m c] := by
  obtain ⟨p, n, k, x, a, m, c, rfl, _⟩ := h
  exact ⟨p, n, k, x, a, m, c, rfl⟩
theorem RTP.n_le (h : RTP w ao n cap x a m c ps r) : n ≤ 4096 := by rw [← h.len]; exact h.fine.len
theorem RTP.zero (w : World) : RTP w Option.none 0 0 false Option.none 0 0 [] 0 := ⟨rfl, Nat.le_refl _, Nat.zero_le _, fun _ => rfl, QArr.nil _ _, RNum.zeroN w 400, Fine.nil, by have := word_lim; simp; omega⟩
end
/-- A slice of parts. -/
def QTS (ps : List (Nat × Int)) : Value → World → Prop := fun u w => ∃ ao n cap, u = .slice ao n cap ∧ ps.length = n ∧ n ≤ cap ∧ cap ≤ maxLen ∧ (ao = none → cap = 0) ∧ QArr w ao ps
theorem RTP.qts {w : World} {ao : Option Addr} {n cap : Nat} {x : Bool} {a : Option Addr} {m c : Nat} {ps : List (Nat × Int)} {r : Int} (h : RTP w ao n cap x a m c ps r) : QTS ps (.slice ao n cap) w := ⟨ao, n, cap, rfl, h.len, h.cap1, h.cap2, h.none, h.arr⟩
def RTM (ps : List (Nat × Int)) (r : Int) : Value → World → Prop := fun u w => RTermR w u ps r
def MonoQ (p : Value → World → Prop) : Prop := ∀ u w w', KeepQ w w' → p u w → p u w'
theorem MonoN.q {p : Value → World → Prop} (h : MonoN p) : MonoQ p := fun u w w' hk => h u w w' hk.n
theorem mq_is {v : Value} : MonoQ (IS v) := mn_is.q
theorem mq_rnm {z : Int} {N : Nat} : MonoQ (RNM z N) := mn_rnm.q
theorem mq_rtm {ps : List (Nat × Int)} {r : Int} : MonoQ (RTM ps r) := fun _ _ _ hk h => RTermR.keepQ h hk
theorem mq_qts {ps : List (Nat × Int)} : MonoQ (QTS ps) := fun _ _ _ hk h => by
  obtain ⟨ao, n, cap, h1, h2, h3, h4, h5, h6⟩ := h
  exact ⟨ao, n, cap, h1, h2, h3, h4, h5, h6.keepQ hk⟩
theorem mvQ {p : Value → World → Prop} (hp : MonoQ p) {w w' : World} (hk : KeepQ w w') {b : Prop} {u : Value} (h : b → p u w) : b → p u w' := fun k => hp _ _ _ hk (h k)
theorem mb_qts {ps : List (Nat × Int)} : MonoB (QTS ps) := fun u w w' hk h => mq_qts u w w' hk.q h
theorem QTS.below {w w' : World} {v : Value} {ps : List (Nat × Int)} (h : QTS ps v w) (hb : Below w.heap.size w w') : QTS ps v w' := mq_qts _ _ _ (KeepQ.below hb) h
/-- A number's variable is written. -/
theorem resNq {t : TypeId} {w w1 : World} {b B : Nat} {x : Bool} {a : Option Addr} {m c : Nat} (ht : t ≠ 3) (hp : t ≠ 70) (o : Blk t w1 b #[.bool x, .slice a m c]) (hbw : Below B w w1) (hle : B ≤ b) (x' : Bool) (a' : Option Addr) (m' c' : Nat) :
    KeepQ w1 ((w1.setCell ⟨b, 0, none⟩ (.bool x')).setCell ⟨b, 1, none⟩ (.slice a' m' c')) ∧ Below B w ((w1.setCell ⟨b, 0, none⟩ (.bool x')).setCell ⟨b, 1, none⟩ (.slice a' m' c')) ∧ Blk t ((w1.setCell ⟨b, 0, none⟩ (.bool x')).setCell ⟨b, 1, none⟩ (.slice a' m' c')) b #[.bool x', .slice a' m' c'] :=
  ⟨keepQ_stores ht hp [.bool x', .slice a' m' c'] 0 o (nuI _ _ _ _) (nuI _ _ _ _), below_stores hle [.bool x', .slice a' m' c'] 0 hbw, Blk.overS [.bool x', .slice a' m' c'] 0 o rfl⟩
/-- A term's variable is written. -/
theorem resTq {t : TypeId} {w w1 : World} {b B : Nat} {p : Option Addr} {n k : Nat} {x : Bool} {a : Option Addr} {m c : Nat} (ht : t ≠ 3) (hp : t ≠ 70) (o : Blk t w1 b #[.slice p n k, .bool x, .slice a m c]) (hbw : Below B w w1) (hle : B ≤ b) (p' : Option Addr) (n' k' : Nat) (x' : Bool) (a' : Option Addr) (m' c' : Nat) :
    KeepQ w1 (((w1.setCell ⟨b, 0, none⟩ (.slice p' n' k')).setCell ⟨b, 1, none⟩ (.bool x')).setCell ⟨b, 2, none⟩ (.slice a' m' c')) ∧ Below B w (((w1.setCell ⟨b, 0, none⟩ (.slice p' n' k')).setCell ⟨b, 1, none⟩ (.bool x')).setCell ⟨b, 2, none⟩ (.slice a' m' c')) ∧ Blk t (((w1.setCell ⟨b, 0, none⟩ (.slice p' n' k')).setCell ⟨b, 1, none⟩ (.bool x')).setCell ⟨b, 2, none⟩ (.slice a' m' c')) b #[.slice p' n' k', .bool x', .slice a' m' c'] :=
  ⟨keepQ_stores ht hp [.slice p' n' k', .bool x', .slice a' m' c'] 0 o (nuT _ _ _ _ _ _ _) (nuT _ _ _ _ _ _ _), below_stores hle [.slice p' n' k', .bool x', .slice a' m' c'] 0 hbw, Blk.overS [.slice p' n' k', .bool x', .slice a' m' c'] 0 o rfl⟩
theorem Tryz.und_qparts : Tryz.prog.underlying 36 = some (.slice 70) := by kernel_rfl
theorem Tryz.info_qpart : (Tryz.prog.info? 70).map (fun i => (i.zero, i.size, i.bytes)) = some (some (.agg #[.int .i64 0, .bool false, .slice none 0 0]), 3, 40) := by kernel_rfl
end Go.Proofs.YteefniagebcagaaGreatDoor
/- Contracts of suretyref03's put and with; they prove no statement of the seat. -/
namespace Go.Proofs.YteefniagebcagaaGreatDoor
open Go.RowKit
set_option linter.unusedVariables false

/-- A part, or nothing. -/
def one (v : Nat) (z : Int) : List (Nat × Int) := if z = 0 then [] else [(v, z)]
/-- What with makes: a part put in between. -/
theorem one_between : ∀ (l1 l2 : List (Nat × Int)) (v : Nat) (z : Int), (∀ p ∈ l1, p.1 < v) → (∀ p ∈ l2, v < p.1) → addP (l1 ++ l2) (one v z) = l1 ++ one v z ++ l2
  | l1, l2, v, z, h1, h2 => by
    unfold one
    by_cases hz9 : z = 0
    · rw [if_pos hz9, addP_nil_right, List.append_nil]
    · rw [if_neg hz9]
      induction l1 with
      | nil =>
        cases l2 with
        | nil => exact addP_nil_left _
        | cons x r =>
          have := h2 x (List.mem_cons_self ..)
          show addP (x :: r) [(v, z)] = (v, z) :: x :: r
          rw [addP]
          simp only []
          rw [if_neg (by omega), if_pos this, addP_nil_right]
      | cons y r ih =>
        have := h1 y (List.mem_cons_self ..)
        show addP (y :: (r ++ l2)) [(v, z)] = y :: (r ++ [(v, z)] ++ l2)
        rw [addP]
        simp only []
        rw [if_pos this, ih (fun p hp => h1 p (List.mem_cons_of_mem _ hp))]
theorem one_at : ∀ (l1 l2 : List (Nat × Int)) (v : Nat) (x z : Int), (∀ p ∈ l1, p.1 < v) → x ≠ 0 → addP (l1 ++ (v, x) :: l2) (one v z) = l1 ++ one v (x + z) ++ l2
  | l1, l2, v, x, z, h1, hx => by
    unfold one
    by_cases hz9 : z = 0
    · rw [if_pos hz9, addP_nil_right, hz9, Int.add_zero, if_neg hx]; simp
    · rw [if_neg hz9]
      induction l1 with
      | nil =>
        show addP ((v, x) :: l2) [(v, z)] = (if x + z = 0 then [] else [(v, x + z)]) ++ l2
        rw [addP]
        simp only []
        rw [if_neg (Nat.lt_irrefl _), if_neg (Nat.lt_irrefl _)]
        by_cases h0 : x + z = 0
        · rw [if_pos h0, if_pos h0, addP_nil_right]; rfl
        · rw [if_neg h0, if_neg h0, addP_nil_right]; rfl
      | cons y r ih =>
        have := h1 y (List.mem_cons_self ..)
        show addP (y :: (r ++ (v, x) :: l2)) [(v, z)] = y :: (r ++ (if x + z = 0 then [] else [(v, x + z)]) ++ l2)
        rw [addP]
        simp only []
        rw [if_pos this, ih (fun p hp => h1 p (List.mem_cons_of_mem _ hp))]
/-- How far with has come. -/
def WSt (l : List (Nat × Int)) (v : Nat) (z : Int) (j : Nat) (qs : List (Nat × Int)) (ok dn : Bool) : Prop :=
  (dn = false ∧ ok = true ∧ qs = l.take j ∧ ∀ p ∈ l.take j, p.1 < v) ∨ (dn = true ∧ ok = decide ((coef l v + z).natAbs < lim) ∧ qs ++ l.drop j = addP l (one v z) ∧ ∀ p ∈ l.drop j, v < p.1)
section
variable {l : List (Nat × Int)} {v : Nat} {z : Int} {j : Nat} {qs : List (Nat × Int)} {ok dn : Bool} {pv : Nat} {pz : Int}
theorem split_at (hj : j < l.length) (hp : l.getD j (0, 0) = (pv, pz)) : l = l.take j ++ (pv, pz) :: l.drop (j + 1) := by
  rw [List.getD_eq_getElem?_getD, List.getElem?_eq_getElem hj] at hp
  simp only [Option.getD_some] at hp
  rw [← hp, ← List.drop_eq_getElem_cons hj, List.take_append_drop]
theorem take_one (hj : j < l.length) (hp : l.getD j (0, 0) = (pv, pz)) : l.take (j + 1) = l.take j ++ [(pv, pz)] := by
  rw [List.getD_eq_getElem?_getD, List.getElem?_eq_getElem hj] at hp
  simp only [Option.getD_some] at hp
  rw [List.take_succ_eq_append_getElem hj, hp]
theorem drop_one (hj : j < l.length) (hp : l.getD j (0, 0) = (pv, pz)) : l.drop j = (pv, pz) :: l.drop (j + 1) := by
  rw [List.getD_eq_getElem?_getD, List.getElem?_eq_getElem hj] at hp
  simp only [Option.getD_some] at hp
  rw [List.drop_eq_getElem_cons hj, hp]
theorem coef_app9 (l1 l2 : List (Nat × Int)) (v : Nat) (h : ∀ p ∈ l1, p.1 ≠ v) : coef (l1 ++ l2) v = coef l2 v := by
  induction l1 with
  | nil => rfl
  | cons p r ih => rw [List.cons_append, coef, if_neg (h p (List.mem_cons_self ..)), ih (fun q hq => h q (List.mem_cons_of_mem _ hq))]
theorem coef_split (l1 l2 : List (Nat × Int)) (h1 : ∀ p ∈ l1, p.1 < v) (h2 : ∀ p ∈ l2, v < p.1) : coef (l1 ++ l2) v = 0 :=
  coef_out fun q hq => by
    rcases List.mem_append.1 hq with h | h
    · have := h1 q h; omega
    · have := h2 q h; omega
theorem rise_tail (hr : Rise l) (hj : j < l.length) (hp : l.getD j (0, 0) = (pv, pz)) : ∀ p ∈ l.drop (j + 1), pv < p.1 := by
  have h : Rise (l.drop j) := hr.drop
  rw [drop_one hj hp] at h
  exact h.head
theorem WSt.less (h : WSt l v z j qs ok false) (hj : j < l.length) (hp : l.getD j (0, 0) = (pv, pz)) (hv : pv < v) : WSt l v z (j + 1) (qs ++ [(pv, pz)]) ok false := by
  rcases h with ⟨_, h2, h3, h4⟩ | ⟨h1, _⟩
  · refine Or.inl ⟨rfl, h2, by rw [h3, take_one hj hp], ?_⟩
    intro p hq
    rw [take_one hj hp] at hq
    rcases List.mem_append.1 hq with k | k
    · exact h4 p k
    · rw [List.mem_singleton.1 k]; exact hv
  · cases h1
theorem WSt.more (h : WSt l v z j qs ok false) (hr : Rise l) (hz : z.natAbs < lim) (hj : j < l.length) (hp : l.getD j (0, 0) = (pv, pz)) (hv : v < pv) : WSt l v z (j + 1) (qs ++ one v z ++ [(pv, pz)]) ok true := by
  rcases h with ⟨_, h2, h3, h4⟩ | ⟨h1, _⟩
  · have hd : ∀ p ∈ l.drop j, v < p.1 := by
      intro p hq
      rw [drop_one hj hp] at hq
      rcases List.mem_cons.1 hq with k | k
      · rw [k]; exact hv
      · have := rise_tail hr hj hp p k; omega
    have hc : coef l v = 0 := by rw [← List.take_append_drop j l]; exact coef_split _ _ h4 hd
    refine Or.inr ⟨rfl, ?_, ?_, ?_⟩
    · rw [h2, hc, Int.zero_add, decide_eq_true hz]
    · have e := one_between (l.take j) (l.drop j) v z h4 hd
      rw [List.take_append_drop] at e
      rw [e, h3, drop_one hj hp]; simp
    · intro p hq; have := rise_tail hr hj hp p hq; omega
  · cases h1
theorem WSt.here (h : WSt l v z j qs ok false) (hr : Rise l) (hj : j < l.length) (hp : l.getD j (0, 0) = (v, pz)) (hn : pz ≠ 0) {b : Bool} (hb : b = decide ((pz + z).natAbs < lim)) : WSt l v z (j + 1) (qs ++ one v (pz + z)) b true := by
  rcases h with ⟨_, h2, h3, h4⟩ | ⟨h1, _⟩
  · have hc : coef l v = pz := by
      rw [split_at hj hp, coef_app9 _ _ _ (fun q hq => by have := h4 q hq; omega), coef, if_pos rfl]
    refine Or.inr ⟨rfl, by rw [hb, hc], ?_, rise_tail hr hj hp⟩
    have e := one_at (l.take j) (l.drop (j + 1)) v pz z h4 hn
    rw [← split_at hj hp] at e
    rw [e, h3]
  · cases h1
theorem WSt.past (h : WSt l v z j qs ok true) (hj : j < l.length) (hp : l.getD j (0, 0) = (pv, pz)) : v < pv ∧ WSt l v z (j + 1) (qs ++ [(pv, pz)]) ok true := by
  rcases h with ⟨h1, _⟩ | ⟨_, h2, h3, h4⟩
  · cases h1
  · rw [drop_one hj hp] at h3 h4
    refine ⟨h4 _ (List.mem_cons_self ..), Or.inr ⟨rfl, h2, by rw [← h3]; simp, fun p hq => h4 p (List.mem_cons_of_mem _ hq)⟩⟩
theorem WSt.end1 (h : WSt l v z j qs ok true) (hj : l.length ≤ j) : qs = addP l (one v z) ∧ ok = decide ((coef l v + z).natAbs < lim) := by
  rcases h with ⟨h1, _⟩ | ⟨_, h2, h3, h4⟩
  · cases h1
  · rw [List.drop_eq_nil_of_le hj, List.append_nil] at h3
    exact ⟨h3, h2⟩
theorem WSt.end0 (h : WSt l v z j qs ok false) (hz : z.natAbs < lim) (hj : l.length ≤ j) : qs ++ one v z = addP l (one v z) ∧ ok = decide ((coef l v + z).natAbs < lim) := by
  rcases h with ⟨_, h2, h3, h4⟩ | ⟨h1, _⟩
  · rw [List.take_of_length_le hj] at h3 h4
    have e := one_between l [] v z h4 (fun p hp => by cases hp)
    rw [List.append_nil, List.append_nil] at e
    have hc : coef l v = 0 := coef_out fun q hq => by have := h4 q hq; omega
    exact ⟨by rw [h3, e], by rw [h2, hc, Int.zero_add, decide_eq_true hz]⟩
  · cases h1
end

/-- What an append to a list of one's own leaves as it was. -/
structure PutR (base : Nat) (v : Value) (w w' : World) : Prop where
  bel : Below base w w'
  keep : KeepN w w'
  other : ∀ b, b < w.heap.size → v.ownBlock ≠ some b → w'.heap[b]? = w.heap[b]?
  size : w.heap.size ≤ w'.heap.size
theorem PutR.of {base : Nat} {v : Value} {w w1 w2 : World} {sz : Nat} {e : TypeId} {n : Nat} {xs : List Value} (hbase : base ≤ w.heap.size) (hb : Below w.heap.size w w1) (hA : AppG sz e base v n xs w1 w2) : PutR base v w w2 :=
  ⟨(hb.mono hbase).trans hA.bel, (KeepN.below hb).trans hA.keep, fun b h1 h2 => (hA.other b (Nat.lt_of_lt_of_le h1 hb.size) h2).trans (hb.block b h1), Nat.le_trans hb.size hA.size⟩
theorem PutR.same {base : Nat} {v : Value} {w w1 : World} (hbase : base ≤ w.heap.size) (hb : Below w.heap.size w w1) : PutR base v w w1 :=
  ⟨hb.mono hbase, KeepN.below hb, fun b h1 _ => hb.block b h1, hb.size⟩

set_option maxRecDepth 20000 in
set_option maxHeartbeats 8000000 in
theorem put_r (base : Nat) (v : Value) (n : Nat) (xs : List Value) (p : Nat) (xC : Bool) (aC : Option Addr) (nC cC : Nat) (z : Int) (L : Nat) (w : World) (hL : LstG 3 70 base w v n xs) (hC : RNum w (.agg #[.bool xC, .slice aC nC cC]) z L) (hn : n ≤ 9000) (hb : base ≤ w.heap.size) :
    Calls Tryz.prog 55 #[v, .int .i64 (p : Nat), .agg #[.bool xC, .slice aC nC cC]] w fun e w' => ∃ v', e = .returned v' ∧ ((z = 0 ∧ v' = v ∧ LstG 3 70 base w' v n xs) ∨ (z ≠ 0 ∧ LstG 3 70 base w' v' (n + 1) (xs ++ [.int .i64 (p : Nat), .bool xC, .slice aC nC cC]))) ∧ PutR base v w w' := by
  have oC := (Blk.new w 39 #[.bool xC, .slice aC nC cC])
  have hbw : Below w.heap.size w (w.alloc (.cells #[.bool xC, .slice aC nC cC] 39 (0, 0))) := by go_grown
  have ltC := oC.lt
  have lwC : w.heap.size ≤ w.heap.size := by omega
  have hbw1 := hbw
  have hL1 := hL.below hbw
  have HZ : Hid (nC = 0 ↔ z = 0) := hC.len.1
  go_enter Tryz.func55, Tryz.ntmps55
  by_cases hz9 : nC = 0
  · have HZ0 : Hid (z = 0) := HZ.out.1 hz9
    subst hz9
    obtain ⟨Cc0, Cc1, Ck0, Ck1⟩ := oC.two
    go_wp2
    go_ret
    exact ⟨_, rfl, Or.inl ⟨HZ0.out, rfl, hL1⟩, PutR.same hb hbw1⟩
  · have HZ0 : Hid (z ≠ 0) := fun k => hz9 (HZ.out.2 k)
    have hzi : ¬ (nC : Int) = 0 := by omega
    have hb3 := below_new (w.alloc (.cells #[.bool xC, .slice aC nC cC] 39 (0, 0))) (.cells #[.int .i64 (p : Nat), .bool xC, .slice aC nC cC] 70 (0, 0))
    have oB := Blk.new (w.alloc (.cells #[.bool xC, .slice aC nC cC] 39 (0, 0))) 70 #[.int .i64 (p : Nat), .bool xC, .slice aC nC cC]
    simp only [World.size_alloc] at oB
    have hL3 := hL1.below hb3
    have hbw3 := hbw1.step hb3 (Nat.le_refl _)
    clear hz9
    obtain ⟨Cc0, Cc1, Ck0, Ck1⟩ := oC.two
    go_wp2_with (at_builtin; refine wpList_append_g rfl _ _ 36 rfl 3 base 70 (.agg #[.int .i64 0, .bool false, .slice none 0 0]) 40 Tryz.und_qparts Tryz.info_qpart (by decide) rfl (by decide) (nuP _ _ _ _ _) (by decide) _ _ _ rfl hL3 ⟨w.heap.size + 1, 0, none⟩ 1 1 [.int .i64 (p : Nat), .bool xC, .slice aC nC cC] rfl rfl (by intro j u hj; match j, hj with | 0, hj => (simp at hj; subst hj; exact oB.cell 0) | 1, hj => (simp at hj; subst hj; exact oB.cell 1) | 2, hj => (simp at hj; subst hj; exact oB.cell 2) | j + 3, hj => (simp at hj)) (by intro u hu; simp at hu; rcases hu with rfl | rfl | rfl <;> rfl) (nuP _ _ _ _ _) (Or.inl (by decide)) (by omega) (Nat.le_trans hb hbw3.size) ?_; intro v8 w8 hL8 hA8 hn8)
    go_ret
    exact ⟨_, rfl, Or.inr ⟨HZ0.out, hL8⟩, PutR.of hb hbw3 hA8⟩

theorem put_h (base : Nat) (v : Value) (n : Nat) (xs : List Value) (qs : List (Nat × Int)) (p : Nat) (xC : Bool) (aC : Option Addr) (nC cC : Nat) (z : Int) (L : Nat) (w : World) (hL : LstG 3 70 base w v n xs) (hE : ElsQ w xs qs) (hq : qs.length = n) (hC : RNum w (.agg #[.bool xC, .slice aC nC cC]) z L) (hl : L ≤ 900) (hn : n ≤ 9000) (hb : base ≤ w.heap.size) :
    Calls Tryz.prog 55 #[v, .int .i64 (p : Nat), .agg #[.bool xC, .slice aC nC cC]] w fun e w' => ∃ v' n' xs', e = .returned v' ∧ LstG 3 70 base w' v' n' xs' ∧ ElsQ w' xs' (qs ++ one p z) ∧ (qs ++ one p z).length = n' ∧ n' ≤ n + 1 ∧ PutR base v w w' := by
  refine (put_r base v n xs p xC aC nC cC z L w hL hC hn hb).mono ?_
  rintro e w' ⟨v', rfl, h, hR⟩
  have hE2 := hE.keep hR.keep
  rcases h with ⟨h1, rfl, h2⟩ | ⟨h1, h2⟩
  · have e1 : qs ++ one p z = qs := by rw [h1]; exact List.append_nil _
    exact ⟨_, n, xs, rfl, h2, by rw [e1]; exact hE2, by rw [e1]; exact hq, Nat.le_succ _, hR⟩
  · have e1 : one p z = [(p, z)] := if_neg h1
    refine ⟨v', n + 1, _, rfl, h2, ?_, by rw [e1, List.length_append, hq]; rfl, Nat.le_refl _, hR⟩
    rw [e1]
    exact hE2.app (by rw [hq]; exact hL.1) (ElsQ.one ((hC.up hl).keepN hR.keep))

set_option maxRecDepth 20000 in
set_option maxHeartbeats 16000000 in
theorem with_r (aX : Option Addr) (nX cX : Nat) (l : List (Nat × Int)) (v : Nat) (xC : Bool) (aC : Option Addr) (nC cC : Nat) (z : Int) (w : World) (ha : QArr w aX l) (hl : l.length = nX) (hr : Rise l) (hnz : ∀ p ∈ l, p.2 ≠ 0) (hlen : nX ≤ 4200) (hC : RNum w (.agg #[.bool xC, .slice aC nC cC]) z 400) (hz9 : z.natAbs < lim) (hcl : (coef l v).natAbs < lim) :
    Calls Tryz.prog 59 #[.slice aX nX cX, .int .i64 (v : Nat), .agg #[.bool xC, .slice aC nC cC]] w fun e w' => ∃ u b, e = .returned (.tuple #[u, .bool b]) ∧ QTS (addP l (one v z)) u w' ∧ b = decide ((coef l v + z).natAbs < lim) ∧ Below w.heap.size w w' := by
  have oC := (Blk.new w 39 #[.bool xC, .slice aC nC cC])
  have hbw : Below w.heap.size w (w.alloc (.cells #[.bool xC, .slice aC nC cC] 39 (0, 0))) := by go_grown
  have ltC := oC.lt
  have lwC : w.heap.size ≤ w.heap.size := by omega
  have HX : Hid (QArr w aX l) := ha
  have HLN : Hid (l.length = nX) := hl
  have HRI : Hid (Rise l) := hr
  have HNZ : Hid (∀ p ∈ l, p.2 ≠ 0) := hnz
  have HC : Hid (RNum w (.agg #[.bool xC, .slice aC nC cC]) z 400) := hC
  have HZL : Hid (z.natAbs < lim) := hz9
  have HSM : Hid ((coef l v).natAbs < lim) := hcl
  clear ha hl hr hnz hC hz9 hcl
  go_enter Tryz.func59, Tryz.ntmps59
  obtain ⟨Cc0, Cc1, Ck0, Ck1⟩ := oC.two
  go_wp2
  go_loopw [8, 9, 10, 11] (fun u8 u9 u10 u11 wl => ∃ (j n : Nat) (xs : List Value) (qs : List (Nat × Int)) (ok dn : Bool), j ≤ nX ∧ n ≤ 2 * j ∧ u9 = .bool ok ∧ u10 = .bool dn ∧ u11 = .int .i64 j ∧ Blk 39 wl w.heap.size #[.bool xC, .slice aC nC cC] ∧ LstG 3 70 w.heap.size wl u8 n xs ∧ ElsQ wl xs qs ∧ Hid (qs.length = n) ∧ Hid (WSt l v z j qs ok dn) ∧ Below w.heap.size w wl) (fun _ _ _ i _ => nX - (intOf i).toNat)
  case atStart => exact ⟨0, 0, [], [], true, false, Nat.zero_le _, Nat.zero_le _, rfl, rfl, rfl, oC, LstG.nil _ _ _ _, ElsQ.nil _, rfl, Or.inl ⟨rfl, rfl, rfl, fun p hp => by simp at hp⟩, hbw⟩
  case round =>
    rename World => wl
    clear oC hbw ltC Cc0 Cc1 Ck0 Ck1
    obtain ⟨j, n, xs, qs, ok, dn, hj, hn, h9, h10, h11, oC, hL, hE, HQ, HS, hbw⟩ := hrel
    subst h9
    subst h10
    subst h11
    have ltC := oC.lt
    by_cases h0 : j < nX
    · obtain ⟨gE, oE, sE, aE, mE, cE, had, k1, k2, k3, k4⟩ := HX.out.at j (by rw [HLN.out]; exact h0)
      subst had
      obtain ⟨pv, hpv⟩ : ∃ x9, x9 = (l.getD j (0, 0)).1 := ⟨_, rfl⟩
      obtain ⟨pz, hpz⟩ : ∃ x9, x9 = (l.getD j (0, 0)).2 := ⟨_, rfl⟩
      rw [← hpv] at k1
      rw [← hpz] at k4
      have HPV : Hid (l.getD j (0, 0) = (pv, pz)) := by show _ = _; rw [hpv, hpz]
      clear hpv hpz
      have A0 := (hbw.cell (p := ⟨gE, oE + j * 3, none⟩) (World.block_lt_of_cell? w _ k1)).trans k1
      have A1 := (hbw.cell (p := ⟨gE, oE + j * 3 + 1, none⟩) (World.block_lt_of_cell? w _ k2)).trans k2
      have A2 := (hbw.cell (p := ⟨gE, oE + j * 3 + 2, none⟩) (World.block_lt_of_cell? w _ k3)).trans k3
      have hE0 := k4.below hbw
      clear k1 k2 k3 k4
      have HPN : Hid (pz ≠ 0) := by
        have h := split_at (by rw [HLN.out]; exact h0) HPV.out
        exact HNZ.out (pv, pz) (by rw [h]; simp)
      have HO : Hid (one pv pz = [(pv, pz)]) := if_neg HPN.out
      have hn9 := below_new wl (.cells #[.int .i64 (pv : Nat), .bool sE, .slice aE mE cE] 70 (0, 0))
      have oX := Blk.new wl 70 #[.int .i64 (pv : Nat), .bool sE, .slice aE mE cE]
      have naX0 : u8.ownBlock ≠ some wl.heap.size := fun h => by have := (hL.lt _ h).2; omega
      have naC0 := hL.blk oC (by decide : 70 ≠ 39)
      replace oC := oC.stay hn9
      replace hL := hL.below hn9
      replace hE := hE.keep (KeepN.below hn9)
      replace hE0 := hE0.below hn9
      replace hbw := hbw.step hn9 (Nat.le_refl _)
      have hlt9 : wl.heap.size < (wl.alloc (.cells #[.int .i64 (pv : Nat), .bool sE, .slice aE mE cE] 70 (0, 0))).heap.size := by simp
      clear hn9
      cases dn
      · rcases Nat.lt_trichotomy pv v with hv | hv | hv
        · have hv1 : ¬ (v : Int) < pv := by omega
          have hv2 : ¬ (pv : Int) = v := by omega
          have HV : Hid (pv < v) := hv
          clear hv
          obtain ⟨Cc0, Cc1, Ck0, Ck1⟩ := oC.two
          obtain ⟨Xc0, Xc1, Xc2⟩ := oX.three
          obtain ⟨Xk0, Xk1, Xk2⟩ := oX.frozen3
          go_wp2_with fail
          refine (put_h w.heap.size _ n _ qs pv _ _ _ _ pz 900 _ hL hE HQ.out hE0 (by decide) (by omega) hbw.size).mono ?_
          rintro e w1 ⟨v1, n1, xs1, rfl, hL1, hE1, hQ1, hn1, hR⟩
          have HQ1 : Hid (_ = n1) := hQ1
          clear hQ1
          replace oC := (hR.other _ oC.lt (LstG.blk hL oC (by decide))).trans oC
          replace hbw := hbw.trans hR.bel
          go_wp2_with fail
          go_roundw
          case rel => exact ⟨j + 1, n1, xs1, _, ok, false, by omega, by omega, rfl, rfl, by go_num, oC, hL1, hE1, HQ1.out, (by rw [HO.out]; exact HS.out.less (by rw [HLN.out]; exact h0) HPV.out HV.out), hbw⟩
          case measure => simp [intOf]; omega
        · subst hv
          have hv1 : ¬ (pv : Int) < pv := by omega
          obtain ⟨Cc0, Cc1, Ck0, Ck1⟩ := oC.two
          obtain ⟨Xc0, Xc1, Xc2⟩ := oX.three
          obtain ⟨Xk0, Xk1, Xk2⟩ := oX.frozen3
          have HPL : Hid (pz.natAbs < lim) := by
            have h := HSM.out
            rw [split_at (by rw [HLN.out]; exact h0) HPV.out, coef_app9 _ _ _ (fun q hq => ?_), coef, if_pos rfl] at h
            · exact h
            · have hs := split_at (by rw [HLN.out]; exact h0) HPV.out
              have h2 := HRI.out
              unfold Rise at h2
              rw [hs, List.pairwise_append] at h2
              have := h2.2.2 q hq _ (List.mem_cons_self ..)
              simp only [] at this
              omega
          go_wp2_with fail
          refine (rAdd_any _ _ pz z (pz + z) 400 400 _ (hE0.short HPL.out) (HC.out.below hbw) (by decide) rfl).mono ?_
          rintro e w1 ⟨xQ, aQ, nQ, cQ, rfl, hQ, hb⟩
          clear Cc0 Cc1 Ck0 Ck1
          clear Xc0 Xc1 Xc2 Xk0 Xk1 Xk2
          replace oC := oC.stay hb
          replace oX := oX.stay hb
          replace hL := hL.below hb
          replace hE := hE.keep (KeepN.below hb)
          replace hbw := hbw.step hb (Nat.le_refl _)
          clear hb
          have oX2 : Blk 70 (stores w1 wl.heap.size 1 [.bool xQ, .slice aQ nQ cQ]) wl.heap.size #[.int .i64 (pv : Nat), .bool xQ, .slice aQ nQ cQ] := Blk.overS [.bool xQ, .slice aQ nQ cQ] 1 oX rfl
          have hK9 := keepN_stores (by decide) [.bool xQ, .slice aQ nQ cQ] 1 oX (nuP _ _ _ _ _) (nuI _ _ _ _)
          have hL2 := hL.stay (fun b hb => stores_other wl.heap.size b (fun e => naX0 (e ▸ hb)) [.bool xQ, .slice aQ nQ cQ] w1 1)
          have hE2 := hE.keep hK9
          have oC2 := oC.otherS (show wl.heap.size ≠ w.heap.size by have := ltC; omega) 1 [.bool xQ, .slice aQ nQ cQ]
          have hbw2 := below_stores (show w.heap.size ≤ wl.heap.size by omega) [.bool xQ, .slice aQ nQ cQ] 1 hbw
          have hQ2 := hQ.keepN hK9
          obtain ⟨Xc0, Xc1, Xc2⟩ := oX.three
          obtain ⟨Xk0, Xk1, Xk2⟩ := oX.frozen3
          obtain ⟨Yc0, Yc1, Yc2⟩ := Blk.three (show Blk _ ((w1.setCell ⟨wl.heap.size, 1, none⟩ (.bool xQ)).setCell ⟨wl.heap.size, 2, none⟩ (.slice aQ nQ cQ)) _ _ from oX2)
          go_wp2_with fail
          refine (toobig_r _ (pz + z) 801 (!decide ((pz + z).natAbs < lim)) _ hQ2 (by decide) (by rw [← decide_not, decide_eq_decide]; omega)).mono ?_
          rintro e w2 ⟨rfl, hb⟩
          clear Xc0 Xc1 Xc2 Xk0 Xk1 Xk2 Yc0 Yc1 Yc2
          replace oX := Blk.stay oX2 hb
          replace oC := Blk.stay oC2 hb
          replace hL := LstG.below hL2 hb
          replace hE := hE2.keep (KeepN.below hb)
          replace hQ := RNum.below hQ2 hb
          replace hbw := hbw2.step hb (Nat.le_refl _)
          clear hb oX2 oC2 hL2 hE2 hQ2 hbw2 hK9
          have hnn : (!(!decide ((pz + z).natAbs < lim))) = decide ((pz + z).natAbs < lim) := by simp
          obtain ⟨Xc0, Xc1, Xc2⟩ := oX.three
          obtain ⟨Xk0, Xk1, Xk2⟩ := oX.frozen3
          go_wp2_with fail
          refine (put_h w.heap.size _ n _ qs pv _ _ _ _ (pz + z) 801 _ hL hE HQ.out hQ (by decide) (by omega) hbw.size).mono ?_
          rintro e w1 ⟨v1, n1, xs1, rfl, hL1, hE1, hQ1, hn1, hR⟩
          have HQ1 : Hid (_ = n1) := hQ1
          clear hQ1
          replace oC := (hR.other _ oC.lt (LstG.blk hL oC (by decide))).trans oC
          replace hbw := hbw.trans hR.bel
          go_wp2_with fail
          go_roundw
          case rel => exact ⟨j + 1, n1, xs1, _, _, true, by omega, by omega, rfl, rfl, by go_num, oC, hL1, hE1, HQ1.out, (HS.out.here HRI.out (by rw [HLN.out]; exact h0) HPV.out HPN.out (by simp)), hbw⟩
          case measure => simp [intOf]; omega
        · have hv1 : (v : Int) < pv := by omega
          have hv2 : ¬ (pv : Int) = v := by omega
          have HV : Hid (v < pv) := hv
          clear hv
          obtain ⟨Cc0, Cc1, Ck0, Ck1⟩ := oC.two
          obtain ⟨Xc0, Xc1, Xc2⟩ := oX.three
          obtain ⟨Xk0, Xk1, Xk2⟩ := oX.frozen3
          go_wp2_with fail
          refine (put_h w.heap.size _ n _ qs v _ _ _ _ z 400 _ hL hE HQ.out (HC.out.below hbw) (by decide) (by omega) hbw.size).mono ?_
          rintro e w1 ⟨v1, n1, xs1, rfl, hL1, hE1, hQ1, hn1, hR⟩
          have HQ1 : Hid (_ = n1) := hQ1
          clear hQ1
          clear Cc0 Cc1 Ck0 Ck1
          clear Xc0 Xc1 Xc2 Xk0 Xk1 Xk2
          replace oC : Blk 39 w1 w.heap.size #[.bool xC, .slice aC nC cC] := (hR.other _ oC.lt (LstG.blk hL oC (by decide))).trans oC
          replace oX : Blk 70 w1 wl.heap.size #[.int .i64 (pv : Nat), .bool sE, .slice aE mE cE] := (hR.other _ oX.lt naX0).trans oX
          replace hE0 := hE0.keepN hR.keep
          replace hbw := hbw.trans hR.bel
          clear hR hL hE
          obtain ⟨Cc0, Cc1, Ck0, Ck1⟩ := oC.two
          obtain ⟨Xc0, Xc1, Xc2⟩ := oX.three
          obtain ⟨Xk0, Xk1, Xk2⟩ := oX.frozen3
          go_wp2_with fail
          refine (put_h w.heap.size _ n1 _ _ pv _ _ _ _ pz 900 _ hL1 hE1 HQ1.out hE0 (by decide) (by omega) hbw.size).mono ?_
          rintro e w2 ⟨v2, n2, xs2, rfl, hL2, hE2, hQ2, hn2, hR⟩
          have HQ2 : Hid (_ = n2) := hQ2
          clear hQ2
          replace oC := (hR.other _ oC.lt (LstG.blk hL1 oC (by decide))).trans oC
          replace hbw := hbw.trans hR.bel
          go_wp2_with fail
          go_roundw
          case rel => exact ⟨j + 1, n2, xs2, _, ok, true, by omega, by omega, rfl, rfl, by go_num, oC, hL2, hE2, HQ2.out, (by rw [HO.out]; exact HS.out.more HRI.out HZL.out (by rw [HLN.out]; exact h0) HPV.out HV.out), hbw⟩
          case measure => simp [intOf]; omega
      · obtain ⟨hv, hs2⟩ := HS.out.past (by rw [HLN.out]; exact h0) HPV.out
        have HS2 : Hid (WSt _ _ _ _ _ _ _) := hs2
        have hv1 : (v : Int) < pv := by omega
        have hv2 : ¬ (pv : Int) = v := by omega
        clear hs2 hv
        obtain ⟨Cc0, Cc1, Ck0, Ck1⟩ := oC.two
        obtain ⟨Xc0, Xc1, Xc2⟩ := oX.three
        obtain ⟨Xk0, Xk1, Xk2⟩ := oX.frozen3
        go_wp2_with fail
        refine (put_h w.heap.size _ n _ qs pv _ _ _ _ pz 900 _ hL hE HQ.out hE0 (by decide) (by omega) hbw.size).mono ?_
        rintro e w1 ⟨v1, n1, xs1, rfl, hL1, hE1, hQ1, hn1, hR⟩
        have HQ1 : Hid (_ = n1) := hQ1
        clear hQ1
        replace oC := (hR.other _ oC.lt (LstG.blk hL oC (by decide))).trans oC
        replace hbw := hbw.trans hR.bel
        go_wp2_with fail
        go_roundw
        case rel => exact ⟨j + 1, n1, xs1, _, ok, true, by omega, by omega, rfl, rfl, by go_num, oC, hL1, hE1, HQ1.out, (by rw [HO.out]; exact HS2.out), hbw⟩
        case measure => simp [intOf]; omega
    · cases dn
      · obtain ⟨Cc0, Cc1, Ck0, Ck1⟩ := oC.two
        go_wp2_with fail
        refine (put_h w.heap.size _ n _ qs v _ _ _ _ z 400 _ hL hE HQ.out (HC.out.below hbw) (by decide) (by omega) hbw.size).mono ?_
        rintro e w1 ⟨v1, n1, xs1, rfl, hL1, hE1, hQ1, hn1, hR⟩
        obtain ⟨e1, e2⟩ := HS.out.end0 HZL.out (by rw [HLN.out]; omega)
        rw [e1] at hE1 hQ1
        obtain ⟨ao, cap, hv9, hc1, hc2, hc3, hqa⟩ := hL1.qarr hE1 hQ1
        subst hv9
        have HE2 : Hid (ok = _) := e2
        clear e1 e2
        go_wp2
        go_ret2
        refine ⟨_, _, rfl, ⟨ao, n1, cap, rfl, hQ1, hc1, hc2, hc3, hqa⟩, HE2.out, hbw.trans hR.bel⟩
      · obtain ⟨e1, e2⟩ := HS.out.end1 (by rw [HLN.out]; omega)
        have HE2 : Hid (ok = _) := e2
        have hq := HQ.out
        rw [e1] at hE hq
        obtain ⟨ao, cap, hv9, hc1, hc2, hc3, hqa⟩ := hL.qarr hE hq
        subst hv9
        clear e1 e2
        go_wp2
        go_ret2
        refine ⟨_, _, rfl, ⟨ao, n, cap, rfl, hq, hc1, hc2, hc3, hqa⟩, HE2.out, hbw⟩

end Go.Proofs.YteefniagebcagaaGreatDoor
/- A copy of a list of parts within a region, terms that aren't held against the bound yet, and plain facts on sums by parts; no statement of the seat is proved here. -/
namespace Go.Proofs.YteefniagebcagaaGreatDoor
open Go.RowKit
set_option linter.unusedVariables false

theorem clone_below {g : Nat} {w w' : World} (hB : Blk 70 w g #[]) (k : AppG 3 70 g (.slice (some ⟨g, 0, none⟩) 0 0) 0 [] w w') : Below w.heap.size w w' := by
  refine ⟨k.bel.os, k.bel.tape, k.bel.output, k.size, fun b hb => ?_⟩
  by_cases h : b = g
  · subst h
    rcases k.old.2 with ⟨h0, _⟩ | ⟨g', cap, cur, he, _, hg, _, _, hsz, _⟩
    · cases h0
    · cases he
      have hc : cur = #[] := by apply Array.eq_empty_of_size_eq_zero; omega
      rw [hg, hc]
      exact (show w.heap[b]? = _ from hB).symm
  · exact k.other b hb (fun e => h (by simpa [Value.ownBlock] using e.symm))
/-- 'append([]Part{}, src...)'. -/
theorem wp_append_clone {w : World} {o : Oper} {a : Act} {K : Act → World → Prop} {Q : Exit → Act → World → Prop} (s x : Operand)
    (ho : o.op = .call { callee := .builtin .append, args := #[s, x], argTypes := #[36, 36] })
    (g : Nat) (hs : a.eval s = .slice (some ⟨g, 0, none⟩) 0 0) (hB : Blk 70 w g #[]) (qs : List (Nat × Int)) (ao : Option Addr) (m c : Nat) (hx : a.eval x = .slice ao m c) (hq : QTS qs (.slice ao m c) w) (hn : m ≤ 9000)
    (h : ∀ v' w', QTS qs v' w' → Below w.heap.size w w' → K (a.put o.dst v') w') : Oper.wp Tryz.prog o a w K Q := by
  obtain ⟨ao', m', c', he, hm, hmc, hcm, hnone, hqa⟩ := hq
  cases he
  have hown : LstG 3 70 g w (.slice (some ⟨g, 0, none⟩) 0 0) 0 [] := ⟨rfl, Or.inr ⟨g, 0, #[], rfl, Nat.le_refl _, hB, Nat.le_refl _, Nat.zero_le _, rfl, rfl, fun u hu => by simp at hu⟩⟩
  have hlt := hB.lt
  obtain ⟨i, hi, hz0, hz1, hz2⟩ := info_parts Tryz.info_qpart
  by_cases h0 : m = 0
  · subst h0
    have hq0 : qs = [] := List.eq_nil_of_length_eq_zero hm
    subst hq0
    have hres : QTS [] (.slice (some ⟨g, 0, none⟩) 0 0) w := ⟨_, _, _, rfl, rfl, Nat.le_refl _, Nat.zero_le _, (fun k => by cases k), Or.inl rfl⟩
    cases ao with
    | none =>
      obtain rfl := hnone rfl
      have hrun := run_append_owned_none (P := Tryz.prog) (w := w) g 36 o.type _ i 3 Tryz.und_qparts hi _ 0 [] hown.owns
      unfold Oper.wp
      simp [execOp, ho, resolve, invoke, builtin, hs, hx, hrun, Result.andThen]
      exact h _ _ hres (Below.refl _ _)
    | some ad =>
      refine wp_append_g s x 36 ho 3 g 70 (.agg #[.int .i64 0, .bool false, .slice none 0 0]) 40 Tryz.und_qparts Tryz.info_qpart (by decide) rfl (by decide) (nuP _ _ _ _ _) (by decide) _ 0 [] hs hown ad 0 c [] hx rfl (by simp) (by simp) (by simp) (Or.inr (by simp)) (by decide) (Nat.le_of_lt hlt) ?_
      intro v' w' k1 k2 k3
      obtain ⟨ao2, cap2, hv, hc1, hc2, hc3, hqa2⟩ := k1.qarr (ElsQ.nil _) rfl
      refine h v' w' ⟨ao2, 0, cap2, hv, rfl, hc1, hc2, hc3, hqa2⟩ ?_
      exact clone_below hB k2
  · obtain ⟨g', o', ys, had, hxl, hE2, hcells, hone, hNU⟩ := hqa.cells (by omega)
    subst had
    refine wp_append_g s x 36 ho 3 g 70 (.agg #[.int .i64 0, .bool false, .slice none 0 0]) 40 Tryz.und_qparts Tryz.info_qpart (by decide) rfl (by decide) (nuP _ _ _ _ _) (by decide) _ 0 [] hs hown ⟨g', o', none⟩ m c ys hx (by rw [← hm]; exact hxl) hcells hone hNU (Or.inl (by omega)) (by omega) (Nat.le_of_lt hlt) ?_
    intro v' w' k1 k2 k3
    rw [Nat.zero_add, List.nil_append] at k1
    obtain ⟨ao2, cap2, hv, hc1, hc2, hc3, hqa2⟩ := k1.qarr (hE2.keep k2.keep) hm
    exact h v' w' ⟨ao2, m, cap2, hv, hm, hc1, hc2, hc3, hqa2⟩ (clone_below hB k2)

/-- A term's cells, its number not held against the bound yet. -/
def QRSR (w : World) (v : Value) (ps : List (Nat × Int)) (r : Int) : Prop := ∃ ao n cap x a m c, v = .agg #[.slice ao n cap, .bool x, .slice a m c] ∧ QTS ps (.slice ao n cap) w ∧ RNum w (.agg #[.bool x, .slice a m c]) r 900
theorem QRSR.shape {w : World} {v : Value} {ps : List (Nat × Int)} {r : Int} (h : QRSR w v ps r) : ∃ p n k x a m c, v = .agg #[.slice p n k, .bool x, .slice a m c] := by
  obtain ⟨p, n, k, x, a, m, c, rfl, _⟩ := h
  exact ⟨p, n, k, x, a, m, c, rfl⟩
theorem QRSR.keepQ {w w' : World} {v : Value} {ps : List (Nat × Int)} {r : Int} (h : QRSR w v ps r) (hk : KeepQ w w') : QRSR w' v ps r := by
  obtain ⟨p, n, k, x, a, m, c, rfl, h1, h2⟩ := h
  exact ⟨p, n, k, x, a, m, c, rfl, mq_qts _ _ _ hk h1, h2.keepQ hk⟩
def QRS (ps : List (Nat × Int)) (r : Int) : Value → World → Prop := fun u w => QRSR w u ps r
theorem mq_qrs {ps : List (Nat × Int)} {r : Int} : MonoQ (QRS ps r) := fun _ _ _ hk h => QRSR.keepQ h hk
/-- Held against the bound it is a term. -/
theorem QRSR.term {w : World} {v : Value} {ps : List (Nat × Int)} {r : Int} (h : QRSR w v ps r) (hf : Fine ps) (hr : r.natAbs < lim) : RTermR w v ps r := by
  obtain ⟨p, n, k, x, a, m, c, rfl, ⟨ao, n', cap, he, h1, h2, h3, h4, h5⟩, h6⟩ := h
  cases he
  exact ⟨p, n, k, x, a, m, c, rfl, ⟨h1, h2, h3, h4, h5, h6.short hr, hf, hr⟩⟩
theorem QRSR.parts {w : World} {p : Option Addr} {n k : Nat} {x : Bool} {a : Option Addr} {m c : Nat} {ps : List (Nat × Int)} {r : Int} (h : QRSR w (.agg #[.slice p n k, .bool x, .slice a m c]) ps r) : QTS ps (.slice p n k) w ∧ RNum w (.agg #[.bool x, .slice a m c]) r 900 := by
  obtain ⟨p', n', k', x', a', m', c', he, h1, h2⟩ := h
  injection he with he
  simp at he
  obtain ⟨⟨rfl, rfl, rfl⟩, rfl, rfl, rfl, rfl⟩ := he
  exact ⟨h1, h2⟩
/-- Sums of variables are known by their coefficients, whatever these are. -/
theorem rn_eq : ∀ {a b : List (Nat × Int)}, Rise a → (∀ p ∈ a, p.2 ≠ 0) → Rise b → (∀ p ∈ b, p.2 ≠ 0) → (∀ v, coef a v = coef b v) → a = b
  | [], [], _, _, _, _, _ => rfl
  | [], q :: b, _, _, hb, nb, h => by
    have := h q.1
    rw [coef_mem hb (List.mem_cons_self ..)] at this
    exact absurd this.symm (nb q (List.mem_cons_self ..))
  | p :: a, [], ha, na, _, _, h => by
    have := h p.1
    rw [coef_mem ha (List.mem_cons_self ..)] at this
    exact absurd this (na p (List.mem_cons_self ..))
  | p :: a, q :: b, ha, na, hb, nb, h => by
    have n1 := na p (List.mem_cons_self ..)
    have n2 := nb q (List.mem_cons_self ..)
    have e1 := coef_mem ha (List.mem_cons_self (a := p) (l := a))
    have e2 := coef_mem hb (List.mem_cons_self (a := q) (l := b))
    have hpq : p.1 = q.1 := by
      rcases Nat.lt_trichotomy p.1 q.1 with k | k | k
      · have h1 := h p.1
        rw [e1, coef, if_neg (by omega), coef_low (fun x hx => by have := hb.head x hx; omega)] at h1
        exact absurd h1 n1
      · exact k
      · have h1 := h q.1
        rw [e2, coef, if_neg (by omega), coef_low (fun x hx => by have := ha.head x hx; omega)] at h1
        exact absurd h1.symm n2
    have hc : p.2 = q.2 := by have h1 := h p.1; rw [e1, hpq, e2] at h1; exact h1
    have hrest : ∀ v, coef a v = coef b v := by
      intro v
      by_cases hv : p.1 = v
      · subst hv
        rw [coef_low (fun x hx => ha.head x hx), coef_low (fun x hx => by rw [hpq]; exact hb.head x hx)]
      · have h1 := h v
        rw [coef, if_neg hv, coef, if_neg (by rw [← hpq]; exact hv)] at h1
        exact h1
    rw [rn_eq ha.tail (fun x hx => na x (List.mem_cons_of_mem _ hx)) hb.tail (fun x hx => nb x (List.mem_cons_of_mem _ hx)) hrest, Prod.ext hpq hc]
theorem one_rise (v : Nat) (z : Int) : Rise (one v z) := by unfold one; split <;> simp [Rise]
theorem one_nz (v : Nat) (z : Int) : ∀ p ∈ one v z, p.2 ≠ 0 := by
  intro p hp
  unfold one at hp
  split at hp
  · cases hp
  · rw [List.mem_singleton.1 hp]; assumption
theorem one_coef (v : Nat) (z : Int) (u : Nat) : coef (one v z) u = if v = u then z else 0 := by
  unfold one
  by_cases h : z = 0
  · rw [if_pos h]; split <;> simp [coef, h]
  · rw [if_neg h, coef]; rfl
theorem coef_end_ne {l : List (Nat × Int)} {u v : Nat} {z : Int} (h : ¬ u = v) : coef (l ++ [(u, z)]) v = coef l v := by
  induction l with
  | nil => show coef [(u, z)] v = 0; rw [coef, if_neg h]; rfl
  | cons p r ih => rw [List.cons_append, coef, coef, ih]
theorem coef_end_out {l : List (Nat × Int)} {v : Nat} {z : Int} (h : ∀ q ∈ l, q.1 ≠ v) : coef (l ++ [(v, z)]) v = z := by
  rw [coef_app9 _ _ _ h, coef, if_pos rfl]
section
variable {a b : List (Nat × Int)} {k pv : Nat} {pz : Int}
theorem Fine.take (h : Fine b) (k : Nat) : Fine (b.take k) := ⟨List.Pairwise.sublist (List.take_sublist k b) h.1, fun p hp => h.2 p (List.mem_of_mem_take hp)⟩
theorem acc_rise (ha : Fine a) (hb : Fine b) (k : Nat) : Rise (addP a (b.take k)) := addP_rise _ _ ha.1 (hb.take k).1
theorem acc_nz (ha : Fine a) (hb : Fine b) (k : Nat) : ∀ p ∈ addP a (b.take k), p.2 ≠ 0 := addP_nz _ _ (fun p hp => (ha.2 p hp).1) (fun p hp => ((hb.take k).2 p hp).1)
theorem acc_len (ha : Fine a) (hb : Fine b) (k : Nat) : (addP a (b.take k)).length ≤ 4096 := by
  rcases rise_len _ 0 (acc_rise ha hb k) (fun p hp => ⟨Nat.zero_le _, by
    rcases addP_mem _ _ p hp with ⟨q, h1, h2⟩ | ⟨q, h1, h2⟩
    · rw [← h2]; exact (ha.2 q h1).2.2
    · rw [← h2]; exact ((hb.take k).2 q h1).2.2⟩) with e | e
  · omega
  · rw [e]; simp
theorem take_ne (hb : Fine b) (hk : k < b.length) (hp : b.getD k (0, 0) = (pv, pz)) : ∀ q ∈ b.take k, q.1 ≠ pv := by
  have hs := split_at hk hp
  have h2 := hb.1
  unfold Rise at h2
  rw [hs, List.pairwise_append] at h2
  intro q hq
  have := h2.2.2 q hq _ (List.mem_cons_self ..)
  simp only [] at this
  omega
theorem take_coef (hb : Fine b) (hk : k < b.length) (hp : b.getD k (0, 0) = (pv, pz)) : coef (b.take k) pv = 0 := by
  have hs := split_at hk hp
  have h2 := hb.1
  unfold Rise at h2
  rw [hs, List.pairwise_append] at h2
  exact coef_out fun q hq => by have := h2.2.2 q hq _ (List.mem_cons_self ..); simp only [] at this; omega
theorem acc_coef (ha : Fine a) (hb : Fine b) (hk : k < b.length) (hp : b.getD k (0, 0) = (pv, pz)) : coef (addP a (b.take k)) pv = coef a pv := by
  rw [addP_coef _ _ ha.1 (hb.take k).1, take_coef hb hk hp, Int.add_zero]
theorem acc_step (ha : Fine a) (hb : Fine b) (hk : k < b.length) (hp : b.getD k (0, 0) = (pv, pz)) : addP (addP a (b.take k)) (one pv pz) = addP a (b.take (k + 1)) := by
  refine rn_eq (addP_rise _ _ (acc_rise ha hb k) (one_rise _ _)) (addP_nz _ _ (acc_nz ha hb k) (one_nz _ _)) (acc_rise ha hb (k + 1)) (acc_nz ha hb (k + 1)) (fun v => ?_)
  rw [addP_coef _ _ (acc_rise ha hb k) (one_rise _ _), addP_coef _ _ ha.1 (hb.take k).1, addP_coef _ _ ha.1 (hb.take (k + 1)).1, one_coef, take_one hk hp]
  have hc := take_coef hb hk hp
  by_cases hv : pv = v
  · subst hv
    rw [if_pos rfl, hc, coef_end_out (fun q hq => take_ne hb hk hp q hq), Int.add_zero]
  · rw [if_neg hv, coef_end_ne hv, Int.add_zero]
end
/-- What fits so far. -/
def fitK (a b : List (Nat × Int)) (r s : Int) (k : Nat) : Prop := (r + s).natAbs < lim ∧ ∀ p ∈ b.take k, (coef a p.1 + p.2).natAbs < lim
theorem fitK_step {a b : List (Nat × Int)} {r s : Int} {k pv : Nat} {pz : Int} (hk : k < b.length) (hp : b.getD k (0, 0) = (pv, pz)) : fitK a b r s (k + 1) ↔ fitK a b r s k ∧ (coef a pv + pz).natAbs < lim := by
  unfold fitK
  rw [take_one hk hp]
  constructor
  · rintro ⟨h1, h2⟩
    exact ⟨⟨h1, fun p hq => h2 p (List.mem_append_left _ hq)⟩, h2 (pv, pz) (by simp)⟩
  · rintro ⟨⟨h1, h2⟩, h3⟩
    refine ⟨h1, fun p hq => ?_⟩
    rcases List.mem_append.1 hq with h | h
    · exact h2 p h
    · rw [List.mem_singleton.1 h]; exact h3
theorem fitK_end {a b : List (Nat × Int)} {r s : Int} (ha : Fine a) (hb : Fine b) : fitK a b r s b.length ↔ tAddOk a b r s := by
  unfold fitK tAddOk
  rw [List.take_of_length_le (Nat.le_refl _)]
  refine and_congr Iff.rfl ⟨fun h v => ?_, fun h p hp => ?_⟩
  · by_cases hv : coef b v = 0
    · rw [hv, Int.add_zero]; exact fine_coef ha v
    · obtain ⟨p, h1, h2, h3⟩ := coef_ne hv
      rw [← h3, ← h2]; exact h p h1
  · have := h p.1
    rw [coef_mem hb.1 hp] at this
    exact this
end Go.Proofs.YteefniagebcagaaGreatDoor
