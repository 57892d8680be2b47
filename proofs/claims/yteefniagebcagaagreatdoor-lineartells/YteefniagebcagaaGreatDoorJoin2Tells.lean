/- Joined: Rats, Own, CmpP, Scale: words and contracts; no statement of the seat is proved here. -/
import Derived.WalkKit
import Derived.Test.YteefniagebcagaaGreatDoorJoin0Tells
import Derived.WalkSmall
import Derived.Deep.LoopGhost
import Derived.Laws.AppendOwnNone
import Derived.Test.YteefniagebcagaaGreatDoorJoin1Tells
/- Rational numbers alone: lowest terms, sums and products by their parts, the order by whole parts; no statement of the seat is proved here. -/
namespace Go.Proofs.YteefniagebcagaaGreatDoor
open Rat

/-- the sum's parts -/
def aG (x y : Rat) : Int := (Int.gcd x.den y.den : Nat)
def aB (x y : Rat) : Int := (x.den : Int).fdiv (aG x y)
def aD (x y : Rat) : Int := (y.den : Int).fdiv (aG x y)
def aT (x y : Rat) : Int := x.num * aD x y + y.num * aB x y
end Go.Proofs.YteefniagebcagaaGreatDoor
/- Words for slices that a call makes by append: what they hold, and the law of one append; no statement of the seat is proved here. -/
namespace Go.Proofs.YteefniagebcagaaGreatDoor
open Go.RowKit

/-- The slice value v is the call's own and holds the numbers zs. -/
def Own (k : IntKind) (e : TypeId) (base : Nat) (w : World) (v : Value) (zs : List Nat) : Prop :=
  w.ownsRow base e 1 v zs.length (zs.map fun z => Value.int k ((z : Nat) : Int))

section
variable {k : IntKind} {e : TypeId} {base : Nat} {w w' : World} {v : Value} {zs : List Nat}

theorem Own.nil (k : IntKind) (e : TypeId) (base : Nat) (w : World) : Own k e base w (.slice none 0 0) [] := World.ownsRow_nil _ _ _ _

theorem Own.lt (h : Own k e base w v zs) : ∀ b, v.ownBlock = some b → base ≤ b ∧ b < w.heap.size := World.ownsRow.lt h

/-- It stays while its block stays. -/
theorem Own.stay (h : Own k e base w v zs) (hb : ∀ b, v.ownBlock = some b → w'.heap[b]? = w.heap[b]?) : Own k e base w' v zs := by
  refine ⟨h.1, ?_⟩
  rcases h.2 with hn | ⟨g, cap, cur, rfl, hbg, hg, r⟩
  · exact Or.inl hn
  · exact Or.inr ⟨g, cap, cur, rfl, hbg, (hb g rfl).trans hg, r⟩

theorem Own.mono (h : Own k e base w v zs) {base' : Nat} (hb : base' ≤ base) : Own k e base' w v zs := by
  refine ⟨h.1, ?_⟩
  rcases h.2 with hn | ⟨g, cap, cur, rfl, hbg, r⟩
  · exact Or.inl hn
  · exact Or.inr ⟨g, cap, cur, rfl, Nat.le_trans hb hbg, r⟩

theorem Own.only (h : Own k e base w v zs) {g : Nat} (ho : Only g w w') (hg : g < base) : Own k e base w' v zs := h.stay fun b hv => ho.block b (by have := (h.lt b hv).1; omega)

/-- Its shape, and its cells. -/
theorem Own.open (h : Own k e base w v zs) : ∃ ao cap, v = .slice ao zs.length cap ∧ zs.length ≤ cap ∧ cap ≤ maxLen ∧ Seg k w ao zs ∧ (∀ a, ao = some a → base ≤ a.block ∧ a.off = 0 ∧ a.block < w.heap.size) := by
  rcases h.2 with ⟨rfl, hn⟩ | ⟨g, cap, cur, rfl, hbg, hg, h1, h2, h3, h4⟩
  · have : zs = [] := List.eq_nil_of_length_eq_zero hn
    subst this
    exact ⟨none, 0, rfl, Nat.le_refl _, Nat.zero_le _, Seg.nil _ _ _, fun a ha => by cases ha⟩
  · refine ⟨some ⟨g, 0, none⟩, cap, rfl, h1, h2, Or.inr ⟨g, 0, rfl, fun i hi => ?_⟩, fun a ha => ?_⟩
    · rw [Nat.zero_add, cell_of_row w g i cur e (0, 0) hg]
      have h5 := congrArg (fun l => l[i]?) h4
      simp only [Nat.mul_one, List.getElem?_take, if_pos hi, List.getElem?_map, List.getElem?_eq_getElem hi, Option.map_some] at h5
      rw [← Array.getElem?_toList, h5, List.getD_eq_getElem?_getD, List.getElem?_eq_getElem hi]
      rfl
    · cases ha
      exact ⟨hbg, rfl, (Array.getElem?_eq_some_iff.1 hg).1⟩

/-- The first of them. -/
theorem Own.take {ao : Option Addr} {n cap : Nat} (h : Own k e base w (.slice ao n cap) zs) (m : Nat) (hm : m ≤ zs.length) (hne : ao ≠ none) : Own k e base w (.slice ao m cap) (zs.take m) := by
  rcases h.2 with ⟨h1, _⟩ | ⟨g, cap', cur, h1, hbg, hg, h2, h3, h4, h5⟩
  · cases h1; exact absurd rfl hne
  · cases h1
    refine ⟨by simp, Or.inr ⟨g, cap, cur, ?_, hbg, hg, ?_, h3, h4, ?_⟩⟩
    · rw [List.length_take, Nat.min_eq_left hm]
    · rw [List.length_take]; omega
    · rw [List.map_take, ← h5]
      simp only [Nat.mul_one, List.length_take, List.take_take]
theorem Own.set {g n cap : Nat} (h : Own k e base w (.slice (some ⟨g, 0, none⟩) n cap) zs) (j : Nat) (X : Int) (x : Nat) (hX : X = (x : Int)) :
    Own k e base (w.setCell ⟨g, j, none⟩ (.int k X)) (.slice (some ⟨g, 0, none⟩) n cap) (zs.set j x) := by
  subst hX
  have hn : n = zs.length := by
    rcases h.2 with ⟨h1, _⟩ | ⟨g', cap', cur, h1, _⟩
    · cases h1
    · cases h1; rfl
  subst hn
  have h1 := (World.ownsRow.stored h j (.int k (x : Int))).1
  unfold Own
  rw [List.length_set, List.map_set]
  exact h1

theorem Own.frozen {g n cap : Nat} (h : Own k e base w (.slice (some ⟨g, 0, none⟩) n cap) zs) (j : Nat) : w.frozen? ⟨g, j, none⟩ = false := by
  rcases h.2 with ⟨h1, _⟩ | ⟨g', cap', cur, h1, _, hg, _⟩
  · cases h1
  · cases h1; exact frozen_of_row w g j cur e hg

theorem Own.cell {g n cap : Nat} (h : Own k e base w (.slice (some ⟨g, 0, none⟩) n cap) zs) (i : Nat) (hi : i < zs.length) : w.cell? ⟨g, i, none⟩ = some (.int k (zs.getD i 0 : Nat)) := by
  obtain ⟨ao, cap', e1, _, _, hs, _⟩ := h.open
  cases e1
  obtain ⟨b, off, e2, hc⟩ := hs.open i hi
  cases e2
  simpa using hc i hi

theorem Own.shape (h : Own k e base w v zs) (hp : 0 < zs.length) : ∃ g cap, v = .slice (some ⟨g, 0, none⟩) zs.length cap ∧ base ≤ g ∧ g < w.heap.size := by
  rcases h.2 with ⟨rfl, hn⟩ | ⟨g, cap, cur, rfl, hbg, hg, _⟩
  · omega
  · exact ⟨g, cap, rfl, hbg, (Array.getElem?_eq_some_iff.1 hg).1⟩

theorem Own.drew (h : Own k e base w v zs) : Own k e base w.drew v zs := h
theorem Only.drew {g : Nat} (h : Only g w w') : Only g w w'.drew := ⟨h.os, h.tape, h.output, h.size, h.block⟩

theorem Own.empty {ao : Option Addr} {n cap : Nat} (h : Own k e base w (.slice ao n cap) zs) : Own k e base w (.slice ao 0 cap) [] := by
  cases ao with
  | none =>
    rcases h.2 with ⟨h1, _⟩ | ⟨g, cap', cur, h1, _⟩
    · cases h1; exact Own.nil _ _ _ _
    · cases h1
  | some a => exact (by simpa using h.take 0 (Nat.zero_le _) (by simp))
end

theorem getD_set (l : List Nat) (i a p : Nat) (hi : i < l.length) : (l.set i a).getD p 0 = if p = i then a else l.getD p 0 := by
  rw [List.getD_eq_getElem?_getD, List.getElem?_set]
  by_cases h : p = i
  · subst h; simp [hi]
  · rw [if_neg (fun e => h e.symm), if_neg h, List.getD_eq_getElem?_getD]

theorem ext_getD {a b : List Nat} (hl : a.length = b.length) (h : ∀ p, p < a.length → a.getD p 0 = b.getD p 0) : a = b := by
  apply List.ext_getElem hl
  intro i h1 h2
  have := h i h1
  rw [List.getD_eq_getElem?_getD, List.getD_eq_getElem?_getD, List.getElem?_eq_getElem h1, List.getElem?_eq_getElem h2] at this
  exact this

theorem getD_reverse (l : List Nat) (p : Nat) (hp : p < l.length) : l.reverse.getD p 0 = l.getD (l.length - 1 - p) 0 := by
  rw [List.getD_eq_getElem?_getD, List.getElem?_reverse hp, ← List.getD_eq_getElem?_getD]

/-- 'append(out, x)', out the call's own. -/
theorem wpList_append_num {P : Program} {W : World} {ops : Array Oper} {rest : List Oper} {o : Oper} {a : Act} {Q : Exit → Act → World → Prop} (hgd : o.guard = none) (s x : Operand) (t : TypeId)
    (ho : o.op = .call { callee := .builtin .append, args := #[s, x], argTypes := #[t, t] })
    (base : Nat) (e : TypeId) (k : IntKind) (bytes : Nat) (h1 : P.underlying t = some (.slice e)) (h2 : (P.info? e).map (fun i => (i.zero, i.size, i.bytes)) = some (some (.int k 0), 1, bytes)) (hby : bytes ≤ 64)
    (v : Value) (zs : List Nat) (hs : a.eval s = v) (hown : Own k e base W v zs) (X : Int) (y : Nat) (hX : X = (y : Int)) (hx : a.eval x = .slice (some ⟨W.heap.size, 0, none⟩) 1 1)
    (hlen : zs.length ≤ 100000) (hbase : base ≤ W.heap.size)
    (h : ∀ v' w', Own k e base w' v' (zs ++ [y]) → (∀ b, b < W.heap.size → v.ownBlock ≠ some b → w'.heap[b]? = W.heap[b]?) → Below base W w' → wpList P ops Q rest (a.put o.dst v') w') :
    wpList P ops Q (o :: rest) a (W.alloc (.cells #[.int k X] e (0, 0))) := by
  subst hX
  obtain ⟨i, hi, hz0, hz1, hz2⟩ := info_parts h2
  have hb : (zs.length + 1) * bytes ≤ 100001 * 64 := Nat.mul_le_mul (by omega) hby
  refine wpList_append_own (W.alloc (.cells #[.int k (y : Int)] e (0, 0))) hgd s x t ho base e i (.int k 0) 1 bytes h1 hi hz0 hz1 hz2 rfl (by decide) v zs.length _ hs (World.ownsRow.alloc hown _) ⟨W.heap.size, 0, none⟩ 1 1 [.int k (y : Int)] hx rfl ?_ ?_ ?_ ?_ ?_ ?_
  · intro j u hj
    match j, hj with
    | 0, hj => simp at hj; subst hj; simp [Addr.add]
  · intro u hu; simp at hu; subst hu; rfl
  · unfold maxLen; omega
  · omega
  · simp; omega
  · intro v' w' hown' hgrow _
    have hblk : ∀ b, b < W.heap.size → v.ownBlock ≠ some b → w'.heap[b]? = W.heap[b]? := by
      intro b hb1 hb2
      rw [hgrow.block b (by simp; omega) (fun e => hb2 e.symm), Below.heap_alloc W _ b hb1]
    refine h v' w' ?_ hblk ?_
    · unfold Own
      simpa using hown'
    · refine ⟨hgrow.os, hgrow.tape, hgrow.output, by have := hgrow.size; simp at this; omega, fun b hb1 => hblk b (by omega) (fun e => ?_)⟩
      have := (Own.lt hown b e).1
      omega

theorem Own.lit (w : World) (k : IntKind) (e : TypeId) (zs : List Nat) (base : Nat) (hb : base ≤ w.heap.size) (hl : zs.length ≤ 100000) :
    Own k e base (w.alloc (.cells (zs.map fun z => Value.int k ((z : Nat) : Int)).toArray e (0, 0))) (.slice (some ⟨w.heap.size, 0, none⟩) zs.length zs.length) zs := by
  have h := World.ownsRow_lit (base := base) (e := e) (size := 1) w (zs.map fun z => Value.int k ((z : Nat) : Int)).toArray zs.length hb (by unfold maxLen; omega) (by simp)
  simpa [Own] using h

/-- 'append(out, src...)', out the call's own, src numbers from wherever. -/
theorem wpList_append_seg {P : Program} {w : World} {ops : Array Oper} {rest : List Oper} {o : Oper} {a : Act} {Q : Exit → Act → World → Prop} (hgd : o.guard = none) (s x : Operand) (t : TypeId)
    (ho : o.op = .call { callee := .builtin .append, args := #[s, x], argTypes := #[t, t] })
    (base : Nat) (e : TypeId) (k : IntKind) (bytes : Nat) (h1 : P.underlying t = some (.slice e)) (h2 : (P.info? e).map (fun i => (i.zero, i.size, i.bytes)) = some (some (.int k 0), 1, bytes)) (hby : bytes ≤ 64)
    (v : Value) (zs : List Nat) (hs : a.eval s = v) (hown : Own k e base w v zs) (ao : Option Addr) (m c : Nat) (hx : a.eval x = .slice ao m c) (hnone : ao = none → c = 0 ∧ m = 0) (ys : List Nat) (hm : ys.length = m) (hseg : Seg k w ao ys)
    (hlen : zs.length + m ≤ 100000) (hbase : base ≤ w.heap.size)
    (h : ∀ v' w', Own k e base w' v' (zs ++ ys) → (∀ b, b < w.heap.size → v.ownBlock ≠ some b → w'.heap[b]? = w.heap[b]?) → Below base w w' → wpList P ops Q rest (a.put o.dst v') w') :
    wpList P ops Q (o :: rest) a w := by
  subst hm
  obtain ⟨i, hi, hz0, hz1, hz2⟩ := info_parts h2
  have hb : (zs.length + ys.length) * bytes ≤ 100000 * 64 := Nat.mul_le_mul (by omega) hby
  cases ao with
  | none =>
    obtain ⟨rfl, hm⟩ := hnone rfl
    obtain rfl : ys = [] := List.eq_nil_of_length_eq_zero hm
    refine wpList_append_own_none hgd s x t ho base e i 1 h1 hi v zs.length _ hs hown (by simpa using hx) ?_
    exact h v w (by simpa using hown) (fun b _ _ => rfl) (Below.refl _ _)
  | some ad =>
    refine wpList_append_own w hgd s x t ho base e i (.int k 0) 1 bytes h1 hi hz0 hz1 hz2 rfl (by decide) v zs.length _ hs hown ad ys.length c (ys.map fun z => Value.int k ((z : Nat) : Int)) hx (by simp) ?_ ?_ ?_ ?_ hbase ?_
    · intro j u hj
      have hjl : j < ys.length := by simpa using (List.getElem?_eq_some_iff.1 hj).1
      obtain ⟨b, off, e1, hc⟩ := hseg.open j hjl
      cases e1
      rw [Addr.add_lit, hc j hjl]
      simp only [List.getElem?_map, List.getElem?_eq_getElem hjl, Option.map_some, Option.some.injEq] at hj
      rw [← hj, List.getD_eq_getElem?_getD, List.getElem?_eq_getElem hjl]
      rfl
    · intro u hu
      obtain ⟨_, _, rfl⟩ := List.mem_map.1 hu
      rfl
    · unfold maxLen; omega
    · omega
    · intro v' w' hown' hgrow _
      have hblk : ∀ b, b < w.heap.size → v.ownBlock ≠ some b → w'.heap[b]? = w.heap[b]? := fun b hb1 hb2 => hgrow.block b hb1 (fun e => hb2 e.symm)
      refine h v' w' ?_ hblk ?_
      · unfold Own
        simpa using hown'
      · refine ⟨hgrow.os, hgrow.tape, hgrow.output, hgrow.size, fun b hb1 => hblk b (by omega) (fun e => ?_)⟩
        have := (Own.lt hown b e).1
        omega
end Go.Proofs.YteefniagebcagaaGreatDoor
/- Plain facts on the order of digits; no program is spoken of here. -/
namespace Go.Proofs.YteefniagebcagaaGreatDoor

theorem val_split (B : Nat) (xs : List Nat) (k : Nat) (hk : k ≤ xs.length) : val B xs = val B (xs.take k) + B ^ k * val B (xs.drop k) := by
  have h := val_append B (xs.take k) (xs.drop k)
  rw [List.take_append_drop, List.length_take, Nat.min_eq_left hk] at h
  exact h

theorem val_lt_at {B : Nat} {xs ys : List Nat} (hx : Digs B xs) (hl : xs.length = ys.length) (j : Nat) (hj : j < xs.length) (ht : xs.drop (j + 1) = ys.drop (j + 1)) (h : xs.getD j 0 < ys.getD j 0) : val B xs < val B ys := by
  rw [val_split B xs (j + 1) (by omega), val_split B ys (j + 1) (by omega), ht, val_take_succ B xs j hj, val_take_succ B ys j (by omega)]
  have h1 := val_lt (hx.take j)
  rw [List.length_take, Nat.min_eq_left (by omega)] at h1
  have h2 : B ^ j * (xs.getD j 0 + 1) ≤ B ^ j * ys.getD j 0 := Nat.mul_le_mul_left _ h
  rw [Nat.mul_add, Nat.mul_one] at h2
  omega

/-- The order of two lists of digits: by length, then by number. -/
def cmpL (B : Nat) (xs ys : List Nat) : Int :=
  if xs.length < ys.length then -1 else if ys.length < xs.length then 1 else if val B xs < val B ys then -1 else if val B ys < val B xs then 1 else 0

/-- Without noughts at the ends it is the numbers' order. -/
theorem cmpL_norm {B : Nat} {xs ys : List Nat} (hB : 0 < B) (hx : Digs B xs) (hy : Digs B ys) (nx : Norm xs) (ny : Norm ys) : cmpL B xs ys = ((val B xs : Int) - val B ys).sign := by
  unfold cmpL
  by_cases h1 : xs.length < ys.length
  · rw [if_pos h1]
    have := val_lt_of_length hx ny hB h1
    exact (Int.sign_eq_neg_one_of_neg (by omega)).symm
  · rw [if_neg h1]
    by_cases h2 : ys.length < xs.length
    · rw [if_pos h2]
      have := val_lt_of_length hy nx hB h2
      exact (Int.sign_eq_one_of_pos (by omega)).symm
    · rw [if_neg h2]
      by_cases h3 : val B xs < val B ys
      · rw [if_pos h3]; exact (Int.sign_eq_neg_one_of_neg (by omega)).symm
      · rw [if_neg h3]
        by_cases h4 : val B ys < val B xs
        · rw [if_pos h4]; exact (Int.sign_eq_one_of_pos (by omega)).symm
        · rw [if_neg h4]
          have : (val B xs : Int) - val B ys = 0 := by omega
          rw [this]; rfl

theorem cmpL_lt {B : Nat} {xs ys : List Nat} (hl : xs.length = ys.length) (h : val B xs < val B ys) : cmpL B xs ys = -1 := by
  unfold cmpL; rw [if_neg (by omega), if_neg (by omega), if_pos h]
theorem cmpL_gt {B : Nat} {xs ys : List Nat} (hl : xs.length = ys.length) (h : val B ys < val B xs) : cmpL B xs ys = 1 := by
  unfold cmpL; rw [if_neg (by omega), if_neg (by omega), if_neg (by omega), if_pos h]
theorem cmpL_eq (B : Nat) (xs : List Nat) : cmpL B xs xs = 0 := by
  unfold cmpL; simp

theorem drop_cons_getD (xs : List Nat) (j : Nat) (hj : j < xs.length) : xs.drop j = xs.getD j 0 :: xs.drop (j + 1) := by
  rw [List.drop_eq_getElem_cons hj, List.getD_eq_getElem?_getD, List.getElem?_eq_getElem hj]
  rfl
end Go.Proofs.YteefniagebcagaaGreatDoor
/- Contract of arith.scaleLimbs; it proves no statement of the seat. -/
namespace Go.Proofs.YteefniagebcagaaGreatDoor
open Go.RowKit

theorem mul_lt_word (x f : Nat) (hx : x < 4294967296) (hf : f < 4294967296) : x * f ≤ 18446744065119617025 := Nat.mul_le_mul (show x ≤ 4294967295 by omega) (show f ≤ 4294967295 by omega)

set_option maxHeartbeats 1000000 in
theorem scaleLimbs_any (ao : Option Addr) (n cap f m : Nat) (xs : List Nat) (w : World) (hn : xs.length = n) (h1 : n ≤ 9000) (hs : Seg .u32 w ao xs) (hd : Digs 4294967296 xs) (hf : f < 4294967296) (hm : m < 4294967296) :
    Calls Tryz.prog 126 #[.slice ao n cap, .int .u32 f, .int .u32 m] w fun e w' => ∃ zs, e = .returned (.slice (some ⟨w.heap.size, 0, none⟩) (trimZ zs).length (n + 1)) ∧ zs.length = n + 1 ∧ Digs 4294967296 zs ∧ val 4294967296 zs = val 4294967296 xs * f + m ∧ Row .u32 167 w' w.heap.size zs ∧ Below w.heap.size w w' := by
  have HN : Hid (xs.length = n) := hn
  clear hn
  go_enter Tryz.func126, Tryz.ntmps126
  go_wp2_with (first
    | (at_make; refine wpList_make_nums _ rfl _ _ 29 rfl 167 .u32 4 Tryz.underlying29 Tryz.info167 _ _ _ _ (n + 1) rfl rfl (by omega) (by omega) (by decide) (by omega) ?_; intro w1 hr1 hb1 hz1))
  go_loopw [8, 20] (fun c i wr => ∃ k cN : Nat, ∃ zs : List Nat, k ≤ n ∧ i = .int .i64 k ∧ c = .int .u64 cN ∧ cN < 4294967296 ∧ zs.length = n + 1 ∧ Digs 4294967296 zs ∧
      Hid (val 4294967296 (zs.take k) + 4294967296 ^ k * cN = val 4294967296 (xs.take k) * f + m) ∧ Row .u32 167 wr w.heap.size zs ∧ Below w.heap.size w wr) (fun _ i _ => n - (intOf i).toNat)
  case atStart => exact ⟨0, m, _, Nat.zero_le _, rfl, rfl, hm, by simp, Digs.replicate _ _ (by decide), (by simp [val] : _ = _), hr1, hb1⟩
  case round =>
    obtain ⟨k, cN, zs, hk, rfl, rfl, hc, hzl, hzd, HV, hrow, hbel⟩ := hrel
    have HZ : Hid (zs.length = n + 1) := hzl
    clear hzl
    by_cases h0 : k < n
    · obtain ⟨b, off, rfl, hcs⟩ := hs.open k (by have := HN.out; omega)
      have hbw : b < w.heap.size := World.block_lt_of_cell? w ⟨b, off + k, none⟩ (hcs k (by have := HN.out; omega))
      have hcell : wr.cell? ⟨b, off + k, none⟩ = some (.int .u32 (xs.getD k 0 : Nat)) := (hbel.cell (p := ⟨b, off + k, none⟩) hbw).trans (hcs k (by have := HN.out; omega))
      obtain ⟨x, hx⟩ : ∃ x, x = xs.getD k 0 := ⟨_, rfl⟩
      have hxl : x < 4294967296 := hx ▸ hd.getD (by decide) k
      rw [← hx] at hcell
      have HX : Hid (x = xs.getD k 0) := hx
      have hout := hrow.cell k (by have := HZ.out; omega)
      obtain ⟨z, hz⟩ : ∃ z, z = zs.getD k 0 := ⟨_, rfl⟩
      rw [← hz] at hout
      have hfr := hrow.frozen k
      have hprod := mul_lt_word x f hxl hf
      have hprod' : (x : Int) * (f : Int) ≤ 18446744065119617025 := by rw [← Int.natCast_mul]; omega
      have hprod0 : 0 ≤ (x : Int) * (f : Int) := by rw [← Int.natCast_mul]; omega
      clear hx hz hcs hr1 hb1 hprod
      go_wp2
      go_roundw
      case rel =>
        refine ⟨k + 1, (x * f + cN) / 4294967296, zs.set k ((x * f + cN) % 4294967296), by omega, by go_num, rfl, ?_, ?_, ?_, ?_, ?_, ?_⟩
        · have := mul_lt_word x f hxl hf; omega
        · rw [List.length_set]; exact HZ.out
        · exact hzd.set _ _ (Nat.mod_lt _ (by decide))
        · show _ = _
          rw [val_set_succ _ _ _ _ (by have := HZ.out; omega), val_take_succ _ _ _ (by have := HN.out; omega), ← HX.out, Nat.pow_succ]
          exact scale_step _ _ _ _ _ _ _ _ _ _ HV.out (Nat.mod_add_div _ _)
        · exact hrow.set k _ _ rfl
        · exact hbel.setCell (Nat.le_refl _) _
      case measure => simp [intOf]; omega
    · have hkn : k = n := by omega
      subst hkn
      have hout := hrow.cell k (by have := HZ.out; omega)
      obtain ⟨z, hz⟩ : ∃ z, z = zs.getD k 0 := ⟨_, rfl⟩
      rw [← hz] at hout
      have hfr := hrow.frozen k
      have hrow' : Row .u32 167 (wr.setCell ⟨w.heap.size, k, none⟩ (.int .u32 (cN : Int))) w.heap.size (zs.set k cN) := hrow.set k _ _ rfl
      have hl' : (zs.set k cN).length = k + 1 := by rw [List.length_set]; exact HZ.out
      have HL : Hid ((zs.set k cN).length = k + 1) := hl'
      have hsg := hrow'.all
      clear hz hr1 hb1 hl'
      go_wp2_with (go_at_call 113; refine (trimmed_any (some ⟨w.heap.size, 0, none⟩) (k + 1) (k + 1) (zs.set k cN) _ HL.out (Nat.le_refl _) (by unfold maxLen; omega) hsg).mono ?_; rintro e w' ⟨rfl, rfl⟩)
      go_ret
      refine ⟨zs.set k cN, rfl, HL.out, hzd.set _ _ hc, ?_, hrow', hbel.setCell (Nat.le_refl _) _⟩
      have e1 := val_set_succ 4294967296 zs k cN (by have := HZ.out; omega)
      rw [List.take_of_length_le (by rw [HL.out]; exact Nat.le_refl _)] at e1
      have e2 := HV.out
      rw [List.take_of_length_le (l := xs) (by have := HN.out; omega)] at e2
      rw [e1, e2]
end Go.Proofs.YteefniagebcagaaGreatDoor
