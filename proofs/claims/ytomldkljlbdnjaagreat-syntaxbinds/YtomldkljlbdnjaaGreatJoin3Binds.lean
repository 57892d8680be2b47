/- Joined: Base, LexE, EufW, LexF: words and contracts; no statement of the seat is proved here. -/
import Derived.WalkKit
import Derived.WalkSpells
import Derived.WalkLawsBesides
import Derived.Handy
import Derived.Laws.CopyOwn
import Derived.Test.YtomldkljlbdnjaaGreatJoin2Binds
import Derived.Laws.OwnMore
import Derived.Maps.OwnSet
/- Words for the walks: what a slice of numbers holds in a world; no statement of the seat is proved here. -/
namespace Go.Proofs.YtomldkljlbdnjaaGreat
open Go.RowKit

/-- A block of a variable's own. -/
def Blk (t : TypeId) (w : World) (b : Nat) (cs : Array Value) : Prop := w.heap[b]? = some (.cells cs t (0, 0))

section
variable {t : TypeId} {w w' : World} {b : Nat} {cs : Array Value}
theorem Blk.lt (h : Blk t w b cs) : b < w.heap.size := (Array.getElem?_eq_some_iff.1 h).1
theorem Blk.cell (h : Blk t w b cs) (i : Nat) : w.cell? ⟨b, i, none⟩ = cs[i]? := cell_of_row w b i _ t (0, 0) h
theorem Blk.frozen (h : Blk t w b cs) (i : Nat) : w.frozen? ⟨b, i, none⟩ = false := frozen_of_row w b i _ t h
theorem Blk.keep (h : Blk t w b cs) {B : Nat} (hb : Below B w w') (hg : b < B) : Blk t w' b cs := (hb.block b hg).trans h
theorem Blk.stay (h : Blk t w b cs) (hb : Below w.heap.size w w') : Blk t w' b cs := h.keep hb h.lt
theorem Blk.alloc (h : Blk t w b cs) (o : Obj) : Blk t (w.alloc o) b cs := (Below.heap_alloc w o b h.lt).trans h
theorem Blk.other (h : Blk t w b cs) {a : Addr} (ha : a.block ≠ b) (v : Value) : Blk t (w.setCell a v) b cs := (heap_setCell_other w a b v (fun e => ha e.symm)).trans h
theorem Blk.new (w : World) (t : TypeId) (cs : Array Value) : Blk t (w.alloc (.cells cs t (0, 0))) w.heap.size cs := heap_alloc_new w _
theorem Blk.set (h : Blk t w b cs) (i : Nat) (v : Value) : Blk t (w.setCell ⟨b, i, none⟩ v) b (cs.setIfInBounds i v) := heap_setCell_same w b i _ t _ h
end

theorem Blk.two {t : TypeId} {w : World} {b : Nat} {x y : Value} (h : Blk t w b #[x, y]) :
    w.cell? ⟨b, 0, none⟩ = some x ∧ w.cell? ⟨b, 1, none⟩ = some y ∧ w.frozen? ⟨b, 0, none⟩ = false ∧ w.frozen? ⟨b, 1, none⟩ = false :=
  ⟨h.cell 0, h.cell 1, h.frozen 0, h.frozen 1⟩
theorem below_store2 {w w1 : World} {B b : Nat} (h : Below B w w1) (hb : B ≤ b) (u v : Value) : Below B w ((w1.setCell ⟨b, 0, none⟩ u).setCell ⟨b, 1, none⟩ v) := (h.setCell (p := ⟨b, 0, none⟩) hb u).setCell (p := ⟨b, 1, none⟩) hb v

/-- Block g alone has been written; nothing is new. -/
structure Only (g : Nat) (w w' : World) : Prop where
  os : w'.os = w.os
  tape : w'.tape = w.tape
  output : w'.output = w.output
  size : w'.heap.size = w.heap.size
  block : ∀ k, k ≠ g → w'.heap[k]? = w.heap[k]?

/-- A world that came out of a call made behind some allocations. -/
theorem _root_.Go.RowKit.Below.step {B : Nat} {w0 w1 w2 : World} (h : Below B w0 w1) (k : Below w1.heap.size w1 w2) (hB : B ≤ w0.heap.size) : Below B w0 w2 := h.trans (k.mono (Nat.le_trans hB h.size))

end Go.Proofs.YtomldkljlbdnjaaGreat
/- Signs and one token. No statement of the seat is proved here. -/
namespace Go.Proofs.YtomldkljlbdnjaaGreat
open Go.RowKit
set_option linter.unusedVariables false
set_option linter.unusedSimpArgs false
namespace Lex

theorem hide {p : Prop} (h : p) : Hid p := h

theorem index_mem (c : UInt8) : ∀ l : List UInt8, (c ∈ l → 0 ≤ Lib.indexByte l c) ∧ (c ∉ l → Lib.indexByte l c = -1)
  | [] => by simp [Lib.indexByte]
  | d :: r => by
    obtain ⟨i1, i2⟩ := index_mem c r
    by_cases h : d = c
    · subst h; simp [Lib.indexByte]
    · have h' : ¬ c = d := fun k => h k.symm
      simp only [Lib.indexByte, beq_iff_eq, h, if_false, List.mem_cons, h', false_or]
      refine ⟨fun k => ?_, fun k => ?_⟩
      · have := i1 k
        rw [if_neg (by omega)]; omega
      · rw [if_pos (i2 k)]
theorem oneSign (c : UInt8) (w : World) :
    Calls Tryz.prog 129 #[.string ⟨#[40, 41, 123, 125, 91, 93, 44, 59, 58, 46, 61, 60, 62, 43, 45, 42, 47, 37, 33, 124, 63]⟩, .int .u8 (c.toNat : Int)] w
      fun e w' => ∃ z : Int, e = .returned (.int .i64 z) ∧ (c ∈ ones → 0 ≤ z) ∧ (c ∉ ones → z = -1) ∧ w' = w := by
  refine (Tryz.strings_IndexByte _ _ w).mono ?_
  rintro e w' ⟨rfl, rfl⟩
  have e1 : ((c.toNat : Int)).toNat.toUInt8 = c := by simp
  rw [e1]
  exact ⟨_, rfl, (index_mem c ones).1, (index_mem c ones).2, rfl⟩
theorem sgn_cons (c : UInt8) (r : List UInt8) : sgn (c :: r) = if (c :: r).take 2 ∈ twos then 2 else if c ∈ ones then 1 else 0 := by
  unfold sgn
  by_cases h : (c :: r).take 2 ∈ twos
  · rw [if_pos h, if_pos h]
  · rw [if_neg h, if_neg h]
    by_cases h2 : c ∈ ones
    · rw [if_pos ⟨c, rfl, h2⟩, if_pos h2]
    · rw [if_neg (by simpa using h2), if_neg h2]
theorem take2_short {s : ByteArray} (h : s.size < 2) : ¬ (bs s).take 2 ∈ twos := by
  intro k
  have h1 : ((bs s).take 2).length < 2 := by rw [List.length_take, bs_length]; omega
  generalize (bs s).take 2 = u at k h1
  simp only [twos, List.mem_cons, List.not_mem_nil, or_false] at k
  rcases k with rfl | rfl | rfl | rfl | rfl | rfl | rfl <;> simp at h1
theorem sgn_at (s : ByteArray) (h : 0 < s.size) : sgn (bs s) = if (bs s).take 2 ∈ twos then 2 else if (s[0]'h) ∈ ones then 1 else 0 := by
  have := bs_drop s 0 h
  rw [List.drop_zero] at this
  rw [this]; exact sgn_cons _ _

set_option maxHeartbeats 1000000 in
theorem signSize_any (s : ByteArray) (w : World) (h : 0 < s.size) (hs : s.size ≤ 9223372036854775807) :
    Calls Tryz.prog 89 #[.string s] w fun e w' => e = .returned (.int .i64 (sgn (bs s) : Int)) ∧ w' = w := by
  have hx : bs (s.extract 0 2) = (bs s).take 2 := by rw [bs_extract s 0 2 (by omega)]; simp
  rw [sgn_at s h]
  by_cases h2 : 2 ≤ s.size
  · by_cases c1 : (bs s).take 2 ∈ twos
    · rw [if_pos c1]
      rw [← hx] at c1
      have hb := decide_eq_true c1
      clear c1 hx
      go_enter Tryz.func89, Tryz.ntmps89
      go_wp2_with (go_at_call 130; refine (isLongSign_any _ _).mono ?_; rintro e w' ⟨rfl, rfl⟩; rw [hb])
      go_ret
      exact ⟨rfl, rfl⟩
    · rw [if_neg c1]
      rw [← hx] at c1
      have hb := decide_eq_false c1
      clear c1 hx
      by_cases c2 : (s[0]'h) ∈ ones
      · rw [if_pos c2]
        go_enter Tryz.func89, Tryz.ntmps89
        go_wp2_with (first | (go_at_call 130; refine (isLongSign_any _ _).mono ?_; rintro e w' ⟨rfl, rfl⟩; rw [hb]) | (go_at_call 129; refine (oneSign _ _).mono ?_; rintro e w' ⟨z, rfl, hz, -, rfl⟩; have hz0 := hz c2; clear hz))
        go_ret
        exact ⟨rfl, rfl⟩
      · rw [if_neg c2]
        go_enter Tryz.func89, Tryz.ntmps89
        go_wp2_with (first | (go_at_call 130; refine (isLongSign_any _ _).mono ?_; rintro e w' ⟨rfl, rfl⟩; rw [hb]) | (go_at_call 129; refine (oneSign _ _).mono ?_; rintro e w' ⟨z, rfl, -, hz, rfl⟩; obtain rfl := hz c2; clear hz))
        go_ret
        exact ⟨rfl, rfl⟩
  · rw [if_neg (take2_short (by omega))]
    by_cases c2 : (s[0]'h) ∈ ones
    · rw [if_pos c2]
      go_enter Tryz.func89, Tryz.ntmps89
      go_wp2_with (go_at_call 129; refine (oneSign _ _).mono ?_; rintro e w' ⟨z, rfl, hz, -, rfl⟩; have hz0 := hz c2; clear hz)
      go_ret
      exact ⟨rfl, rfl⟩
    · rw [if_neg c2]
      go_enter Tryz.func89, Tryz.ntmps89
      go_wp2_with (go_at_call 129; refine (oneSign _ _).mono ?_; rintro e w' ⟨z, rfl, -, hz, rfl⟩; obtain rfl := hz c2; clear hz)
      go_ret
      exact ⟨rfl, rfl⟩

/-- What scan answers. -/
def ScEnd (r : R) (p : Nat) (e : Ending) : Prop := match r with
  | .ok k n => e = .returned (.tuple #[.int .i64 (k : Int), .int .i64 ((p + n : Nat) : Int), FV 0 0])
  | .bad c a => ∃ x y : Int, e = .returned (.tuple #[.int .i64 x, .int .i64 y, FV c (p + a)])
set_option maxHeartbeats 2000000 in
theorem scan_any (s : ByteArray) (p : Nat) (w : World) (hp : p < s.size) (hs : s.size ≤ 9223372036854775807) :
    Calls Tryz.prog 45 #[.string s, .int .i64 (p : Int)] w fun e w' => ScEnd (tk ((bs s).drop p)) p e ∧ Below w.heap.size w w' := by
  have hx := bs_drop s p hp
  have hp' : p ≤ s.size := by omega
  have hW := tw_le isLD ((bs s).drop p)
  have hN := tw_le isD ((bs s).drop p)
  change spW _ ≤ _ at hW; change spN _ ≤ _ at hN
  rw [List.length_drop, bs_length] at hW hN
  by_cases c1 : isL (s[p]'hp) = true
  · have hK : tk ((bs s).drop p) = if 40 < spW ((bs s).drop p) then .bad 2 0 else .ok 1 (spW ((bs s).drop p)) := by
      rw [hx]; simp [tk, c1]
    rw [hK]
    have HW := hide <| wordEnd_any s p
    generalize spW ((bs s).drop p) = n at hW HW ⊢
    clear hK hx hN
    have HF : Hid (∀ w : World, Calls Tryz.prog 85 #[.int .i64 (p : Int), .int .i64 ((p + n : Nat) : Int)] w fun e w' => e = .returned (if 40 < n then FV 2 p else FV 0 0) ∧ Below w.heap.size w w') := by
      intro w
      have := wordFault_any p (p + n) w (by omega) (by omega)
      rwa [show p + n - p = n by omega] at this
    by_cases h40 : 40 < n
    · rw [if_pos h40] at HF ⊢
      go_enter Tryz.func45, Tryz.ntmps45
      go_wp2_with (first | (go_at_call 52; refine (isLetter_any _ _).mono ?_; rintro e w' ⟨rfl, rfl⟩; rw [c1]) | (go_at_call 53; refine (HW.out _ hp' hs).mono ?_; rintro e w' ⟨rfl, rfl⟩) | (go_at_call 85; refine (HF.out _).mono ?_; rintro e w1 ⟨rfl, hb⟩; have hb0 := (show Below w.heap.size w (w.alloc (.cells #[.int .i64 0, .int .i64 0] 29 (0, 0))) by go_grown).step hb (by simp); obtain ⟨r0, r1, q0, q1⟩ := ((Blk.new w 29 #[.int .i64 0, .int .i64 0]).stay hb).two; clear hb; simp only [FV]))
      refine bodyPost_ret (v := .tuple #[.int .i64 1, .int .i64 ((p + n : Nat) : Int), FV 2 p]) (by simp [results, Tryz.results45, go_sem, FV, r0, r1]) rfl ?_
      refine ⟨⟨_, _, rfl⟩, ?_⟩
      exact below_store2 hb0 (Nat.le_refl _) _ _
    · rw [if_neg h40] at HF ⊢
      go_enter Tryz.func45, Tryz.ntmps45
      go_wp2_with (first | (go_at_call 52; refine (isLetter_any _ _).mono ?_; rintro e w' ⟨rfl, rfl⟩; rw [c1]) | (go_at_call 53; refine (HW.out _ hp' hs).mono ?_; rintro e w' ⟨rfl, rfl⟩) | (go_at_call 85; refine (HF.out _).mono ?_; rintro e w1 ⟨rfl, hb⟩; have hb0 := (show Below w.heap.size w (w.alloc (.cells #[.int .i64 0, .int .i64 0] 29 (0, 0))) by go_grown).step hb (by simp); obtain ⟨r0, r1, q0, q1⟩ := ((Blk.new w 29 #[.int .i64 0, .int .i64 0]).stay hb).two; clear hb; simp only [FV]))
      refine bodyPost_ret (v := .tuple #[.int .i64 1, .int .i64 ((p + n : Nat) : Int), FV 0 0]) (by simp [results, Tryz.results45, go_sem, FV, r0, r1]) rfl ?_
      refine ⟨rfl, ?_⟩
      exact below_store2 hb0 (Nat.le_refl _) _ _
  · have c1' : isL (s[p]'hp) = false := by simpa using c1
    clear c1
    by_cases c2 : isD (s[p]'hp) = true
    · have hK : tk ((bs s).drop p) = if 300 < spN ((bs s).drop p) then .bad 2 0 else if (s[p]'hp).toNat = 48 ∧ 1 < spN ((bs s).drop p) then .bad 10 0 else if hdL (((bs s).drop p).drop (spN ((bs s).drop p))) then .bad 100 (spN ((bs s).drop p)) else .ok 2 (spN ((bs s).drop p)) := by
        rw [hx]; simp [tk, c1', c2]
      rw [hK, List.drop_drop]
      have HN := hide <| numberEnd_any s p
      generalize spN ((bs s).drop p) = n at hN HN ⊢
      clear hK hx hW
      have HF := hide <| fun w => numberFault_any s p n w hp (by omega) hs
      obtain ⟨r, hr⟩ : ∃ r : R, Hid ((if 300 < n then R.bad 2 0 else if (s[p]'hp).toNat = 48 ∧ 1 < n then .bad 10 0 else if hdL ((bs s).drop (p + n)) then .bad 100 n else .ok 2 n) = r) := ⟨_, rfl⟩
      have hr' := hr.out
      rw [hr']
      clear hr'
      obtain ⟨c, a, HF2, hE⟩ : ∃ c a : Nat, Hid (∀ w : World, Calls Tryz.prog 88 #[.string s, .int .i64 (p : Int), .int .i64 ((p + n : Nat) : Int)] w fun e w' => e = .returned (FV c a) ∧ Below w.heap.size w w') ∧ Hid (ScEnd r p (.returned (.tuple #[.int .i64 2, .int .i64 ((p + n : Nat) : Int), FV c a]))) := by
        have hF := HF.out
        have h0 := hr.out
        by_cases h1 : 300 < n
        · rw [if_pos h1] at h0; simp only [if_pos h1] at hF
          exact ⟨2, p, hF, by subst h0; exact ⟨_, _, rfl⟩⟩
        · rw [if_neg h1] at h0; simp only [if_neg h1] at hF
          by_cases h2 : (s[p]'hp).toNat = 48 ∧ 1 < n
          · rw [if_pos h2] at h0; simp only [if_pos h2] at hF
            exact ⟨10, p, hF, by subst h0; exact ⟨_, _, rfl⟩⟩
          · rw [if_neg h2] at h0; simp only [if_neg h2] at hF
            by_cases h3 : hdL ((bs s).drop (p + n)) = true
            · rw [if_pos h3] at h0; simp only [if_pos h3] at hF
              exact ⟨100, p + n, hF, by subst h0; exact ⟨_, _, rfl⟩⟩
            · rw [if_neg h3] at h0; simp only [if_neg h3] at hF
              exact ⟨0, 0, hF, by subst h0; exact (rfl : _ = _)⟩
      clear HF hr
      go_enter Tryz.func45, Tryz.ntmps45
      go_wp2_with (first | (go_at_call 52; refine (isLetter_any _ _).mono ?_; rintro e w' ⟨rfl, rfl⟩; rw [c1']) | (go_at_call 86; refine (isDigit_any _ _).mono ?_; rintro e w' ⟨rfl, rfl⟩; rw [c2]) | (go_at_call 87; refine (HN.out _ hp' hs).mono ?_; rintro e w' ⟨rfl, rfl⟩) | (go_at_call 88; refine (HF2.out _).mono ?_; rintro e w1 ⟨rfl, hb⟩; have hb0 := (show Below w.heap.size w (w.alloc (.cells #[.int .i64 0, .int .i64 0] 29 (0, 0))) by go_grown).step hb (by simp); obtain ⟨r0, r1, q0, q1⟩ := ((Blk.new w 29 #[.int .i64 0, .int .i64 0]).stay hb).two; clear hb; simp only [FV]))
      refine bodyPost_ret (v := .tuple #[.int .i64 2, .int .i64 ((p + n : Nat) : Int), FV c a]) (by simp [results, Tryz.results45, go_sem, FV, r0, r1]) rfl ?_
      refine ⟨hE.out, ?_⟩
      exact below_store2 hb0 (Nat.le_refl _) _ _
    · have c2' : isD (s[p]'hp) = false := by simpa using c2
      clear c2
      have hK : tk ((bs s).drop p) = if sgn ((bs s).drop p) = 0 then .bad 100 0 else .ok 3 (sgn ((bs s).drop p)) := by
        rw [hx]; simp [tk, c1', c2']
      have hG := sgn_le ((bs s).drop p)
      rw [List.length_drop, bs_length] at hG
      have hd : bs (s.extract p s.size) = (bs s).drop p := ext_drop s p hp'
      have hz : (s.extract p s.size).size = s.size - p := by rw [← bs_length, hd, List.length_drop, bs_length]
      have HS := hide <| fun w => signSize_any (s.extract p s.size) w (by rw [hz]; omega) (by rw [hz]; omega)
      rw [hd] at HS
      rw [hK]
      generalize sgn ((bs s).drop p) = n at hG HS ⊢
      clear hK hx hW hN hd hz
      by_cases h0 : n = 0
      · subst h0
        rw [if_pos rfl]
        go_enter Tryz.func45, Tryz.ntmps45
        go_wp2_with (first | (go_at_call 52; refine (isLetter_any _ _).mono ?_; rintro e w' ⟨rfl, rfl⟩; rw [c1']) | (go_at_call 86; refine (isDigit_any _ _).mono ?_; rintro e w' ⟨rfl, rfl⟩; rw [c2']) | (go_at_call 89; refine (HS.out _).mono ?_; rintro e w' ⟨rfl, rfl⟩))
        refine bodyPost_ret (v := .tuple #[.int .i64 0, .int .i64 0, FV 100 p]) (by simp [results, Tryz.results45, go_sem, FV]) rfl ?_
        refine ⟨⟨_, _, rfl⟩, ?_⟩
        go_grown
      · rw [if_neg h0]
        have h0' : ((n : Int) == 0) = false := by rw [beq_eq_false_iff_ne]; omega
        clear h0
        go_enter Tryz.func45, Tryz.ntmps45
        go_wp2_with (first | (go_at_call 52; refine (isLetter_any _ _).mono ?_; rintro e w' ⟨rfl, rfl⟩; rw [c1']) | (go_at_call 86; refine (isDigit_any _ _).mono ?_; rintro e w' ⟨rfl, rfl⟩; rw [c2']) | (go_at_call 89; refine (HS.out _).mono ?_; rintro e w' ⟨rfl, rfl⟩))
        refine bodyPost_ret (v := .tuple #[.int .i64 3, .int .i64 ((p + n : Nat) : Int), FV 0 0]) (by simp [results, Tryz.results45, go_sem, FV]) rfl ?_
        refine ⟨rfl, ?_⟩
        go_grown
end Lex
end Go.Proofs.YtomldkljlbdnjaaGreat
/- Words for lists that live behind a pointer: their cells by a function, writing one of them, append; no statement of the seat is proved here. -/
namespace Go.Proofs.YtomldkljlbdnjaaGreat
open Go.RowKit
set_option linter.unusedVariables false
namespace Euf

/-- The walk stops here. -/
def Stop (p : Prop) : Prop := p
theorem Stop.of {p : Prop} (h : Stop p) : p := h
/-- A slice of n structs of sz cells each: its cells are told by f. -/
def OL (sz : Nat) (e : TypeId) (w : World) (v : Value) (n : Nat) (f : Nat → List Value) : Prop :=
  (v = .slice none 0 0 ∧ n = 0) ∨ ∃ g cap cur, v = .slice (some ⟨g, 0, none⟩) n cap ∧ w.heap[g]? = some (.cells cur e (0, 0)) ∧ n ≤ cap ∧ cap ≤ maxLen ∧ cur.size = cap * sz ∧ ∀ i, i < n → ∀ j, j < sz → cur[i * sz + j]? = (f i)[j]?
section
variable {sz : Nat} {e : TypeId} {w w' : World} {v : Value} {n : Nat} {f : Nat → List Value}
theorem OL.nil (sz : Nat) (e : TypeId) (w : World) (f : Nat → List Value) : OL sz e w (.slice none 0 0) 0 f := Or.inl ⟨rfl, rfl⟩
theorem OL.lt (h : OL sz e w v n f) {b : Nat} (hb : v.ownBlock = some b) : b < w.heap.size := by
  rcases h with ⟨rfl, _⟩ | ⟨g, cap, cur, rfl, hg, _⟩
  · cases hb
  · have : g = b := by simpa [Value.ownBlock] using hb
    subst this; exact (Array.getElem?_eq_some_iff.1 hg).1
theorem OL.stay (h : OL sz e w v n f) (hb : ∀ b, v.ownBlock = some b → w'.heap[b]? = w.heap[b]?) : OL sz e w' v n f := by
  rcases h with h | ⟨g, cap, cur, rfl, hg, r⟩
  · exact Or.inl h
  · exact Or.inr ⟨g, cap, cur, rfl, (hb g rfl).trans hg, r⟩
theorem OL.congr (h : OL sz e w v n f) {f' : Nat → List Value} (hf : ∀ i, i < n → f' i = f i) : OL sz e w v n f' := by
  rcases h with h | ⟨g, cap, cur, rfl, hg, h1, h2, h3, h4⟩
  · exact Or.inl h
  · exact Or.inr ⟨g, cap, cur, rfl, hg, h1, h2, h3, fun i hi j hj => by rw [hf i hi]; exact h4 i hi j hj⟩
/-- A slice with an element has an address. -/
theorem OL.open (h : OL sz e w v n f) (i : Nat) (hi : i < n) : ∃ g cap, v = .slice (some ⟨g, 0, none⟩) n cap ∧ n ≤ cap ∧ cap ≤ maxLen := by
  rcases h with ⟨_, h⟩ | ⟨g, cap, cur, rfl, _, h1, h2, _⟩
  · omega
  · exact ⟨g, cap, rfl, h1, h2⟩
/-- It is a slice, in any case. -/
theorem OL.shape (h : OL sz e w v n f) : ∃ a cap, v = .slice a n cap ∧ n ≤ cap ∧ cap ≤ maxLen ∧ (a = none → n = 0 ∧ cap = 0) ∧ (∀ p, a = some p → p.off = 0 ∧ p.spot = none) := by
  rcases h with ⟨rfl, rfl⟩ | ⟨g, cap, cur, rfl, _, h1, h2, _⟩
  · exact ⟨none, 0, rfl, Nat.le_refl _, Nat.zero_le _, (fun _ => ⟨rfl, rfl⟩), (fun _ h => by cases h)⟩
  · exact ⟨_, cap, rfl, h1, h2, (fun h => by cases h), (fun p hp => by cases hp; exact ⟨rfl, rfl⟩)⟩
theorem OL.cell {g cap : Nat} (h : OL sz e w (.slice (some ⟨g, 0, none⟩) n cap) n f) {i j : Nat} (hi : i < n) (hj : j < sz) : w.cell? ⟨g, i * sz + j, none⟩ = (f i)[j]? := by
  rcases h with ⟨h, _⟩ | ⟨g', cap', cur, hv, hg, h1, h2, h3, h4⟩
  · cases h
  · simp only [Value.slice.injEq, Option.some.injEq, Addr.mk.injEq] at hv
    obtain ⟨⟨rfl, _⟩, _, rfl⟩ := hv
    rw [cell_of_row w g _ cur e (0, 0) hg]
    exact h4 i hi j hj
theorem OL.frozen {g cap : Nat} (h : OL sz e w (.slice (some ⟨g, 0, none⟩) n cap) n f) (o : Nat) : w.frozen? ⟨g, o, none⟩ = false := by
  rcases h with ⟨h, _⟩ | ⟨g', cap', cur, hv, hg, _⟩
  · cases h
  · simp only [Value.slice.injEq, Option.some.injEq, Addr.mk.injEq] at hv
    obtain ⟨⟨rfl, _⟩, _, rfl⟩ := hv
    exact frozen_of_row w g o cur e hg
/-- As a list of all its cells. -/
def flat (f : Nat → List Value) : Nat → List Value
  | 0 => []
  | n + 1 => flat f n ++ f n
theorem flat_length (hl : ∀ k, k < n → (f k).length = sz) : ∀ m, m ≤ n → (flat f m).length = m * sz
  | 0, _ => by simp [flat]
  | m + 1, h => by rw [flat, List.length_append, flat_length hl m (by omega), hl m (by omega), Nat.add_mul, Nat.one_mul]
theorem flat_get (hl : ∀ k, k < n → (f k).length = sz) : ∀ m, m ≤ n → ∀ i j, i < m → j < sz → (flat f m)[i * sz + j]? = (f i)[j]?
  | 0, _, i, _, h, _ => by omega
  | m + 1, hm, i, j, hi, hj => by
    have fl := flat_length (f := f) hl m (by omega)
    rw [flat]
    by_cases e1 : i = m
    · subst e1
      rw [List.getElem?_append_right (by omega), fl]
      congr 1; omega
    · have := Nat.mul_le_mul_right sz (show i + 1 ≤ m by omega)
      rw [Nat.add_mul] at this
      rw [List.getElem?_append_left (by omega)]
      exact flat_get hl m (by omega) i j (by omega) hj
theorem OL.owns (h : OL sz e w v n f) (hl : ∀ k, k < n → (f k).length = sz) (hsz : 0 < sz) {base : Nat} (hb : ∀ b, v.ownBlock = some b → base ≤ b) : w.ownsRow base e sz v n (flat f n) := by
  refine ⟨flat_length hl n (Nat.le_refl _), ?_⟩
  rcases h with h | ⟨g, cap, cur, rfl, hg, k1, k2, k3, k4⟩
  · exact Or.inl h
  · refine Or.inr ⟨g, cap, cur, rfl, hb g rfl, hg, k1, k2, k3, ?_⟩
    apply List.ext_getElem?
    intro k
    have fl := flat_length (f := f) hl n (Nat.le_refl _)
    by_cases hk : k < n * sz
    · rw [List.getElem?_take, if_pos hk, Array.getElem?_toList]
      have e1 : k = (k / sz) * sz + k % sz := by rw [Nat.mul_comm]; exact (Nat.div_add_mod k sz).symm
      have hd : k / sz < n := (Nat.div_lt_iff_lt_mul hsz).2 hk
      have hr : k % sz < sz := Nat.mod_lt _ hsz
      rw [e1, k4 _ hd _ hr, flat_get hl n (Nat.le_refl _) _ _ hd hr]
    · rw [List.getElem?_take, if_neg hk, List.getElem?_eq_none (by omega)]
end
/-- What an append leaves. -/
structure App (v v' : Value) (w w' : World) : Prop where
  os : w'.os = w.os
  tape : w'.tape = w.tape
  output : w'.output = w.output
  size : w.heap.size ≤ w'.heap.size
  other : ∀ b, b < w.heap.size → v.ownBlock ≠ some b → w'.heap[b]? = w.heap[b]?
  at_ : v'.ownBlock = v.ownBlock ∨ ∃ b, v'.ownBlock = some b ∧ w.heap.size ≤ b
/-- The law of append: some elements that lie somewhere else. -/
theorem run_append {P : Program} (w : World) (sz : Nat) (t ty e : TypeId) (i : TypeInfo) (z : Value) (ht : P.underlying t = some (.slice e)) (hi : P.info? e = some i) (hz : i.zero = some z) (hsize : i.size = sz) (hby : i.bytes ≤ 1000) (hzs : z.cells.size = sz) (hsz : 0 < sz)
    (v : Value) (n : Nat) (f : Nat → List Value) (hown : OL sz e w v n f) (hlf : ∀ k, k < n → (f k).length = sz) (a : Addr) (m c : Nat) (news : List Value) (hl : news.length = m * sz) (hnews : ∀ j u, news[j]? = some u → w.cell? (a.add j) = some u) (ho : ∀ u ∈ news, u.oneCell' = true) (hm0 : 0 < m ∨ v ≠ .slice none 0 0) (hn : n + m ≤ 1000000000)
    (f' : Nat → List Value) (hf1 : ∀ k, k < n → f' k = f k) (hf2 : ∀ k, k < m → ∀ j, j < sz → (f' (n + k))[j]? = news[k * sz + j]?) :
    ∃ v' w', (Builtin.append_ #[t, t] ty #[v, .slice (some a) m c]).run P w = .ok v' w' ∧ OL sz e w' v' (n + m) f' ∧ App v v' w w' ∧ v' ≠ .slice none 0 0 := by
  have hl' : news.length = m * i.size := by rw [hsize]; exact hl
  have hmx : 2000000000 ≤ maxLen := by unfold maxLen; decide
  have hbytes : (n + m) * i.bytes ≤ 1000000000 * 1000 := Nat.mul_le_mul hn hby
  have fl := flat_length (f := f) hlf n (Nat.le_refl _)
  have hxs : ∀ k, k < n + m → ∀ j, j < sz → (flat f n ++ news)[k * sz + j]? = (f' k)[j]? := by
    intro k hk j hj
    by_cases e1 : k < n
    · have := Nat.mul_le_mul_right sz (show k + 1 ≤ n by omega)
      rw [Nat.add_mul] at this
      rw [List.getElem?_append_left (by omega), flat_get hlf n (Nat.le_refl _) k j e1 hj, hf1 k e1]
    · obtain ⟨d, rfl⟩ : ∃ d, k = n + d := ⟨k - n, by omega⟩
      rw [List.getElem?_append_right (by rw [fl, Nat.add_mul]; omega), hf2 d (by omega) j hj, fl]
      congr 1
      rw [Nat.add_mul]; omega
  have grown : ∀ (old : Nat), old < n + m →
      OL sz e (w.drew.alloc (.cells ((flat f n).toArray ++ news.toArray ++ Builtin.zeroCells z.cells (grownCap w (n + m) old e - (n + m))) e)) (.slice (some ⟨w.heap.size, 0, none⟩) (n + m) (grownCap w (n + m) old e)) (n + m) f' ∧
      App v (.slice (some ⟨w.heap.size, 0, none⟩) (n + m) (grownCap w (n + m) old e)) w (w.drew.alloc (.cells ((flat f n).toArray ++ news.toArray ++ Builtin.zeroCells z.cells (grownCap w (n + m) old e - (n + m))) e)) := by
    intro old ho'
    have hge := grownCap_ge w (n + m) old e
    have hcm : grownCap w (n + m) old e ≤ maxLen := grownCap_le_maxLen w (n + m) old e (by omega)
    refine ⟨Or.inr ⟨w.heap.size, _, _, rfl, heap_alloc_new w.drew _, hge, hcm, ?_, ?_⟩, ⟨rfl, rfl, rfl, by simp, fun b hb _ => Below.heap_alloc w.drew _ b hb, Or.inr ⟨_, rfl, Nat.le_refl _⟩⟩⟩
    · simp only [Array.size_append, List.size_toArray, size_zeroCells, hzs, fl, hl]
      rw [← Nat.add_mul, ← Nat.add_mul]
      congr 1
      omega
    · intro k hk j hj
      rw [← hxs k hk j hj]
      have h9 := Nat.mul_le_mul_right sz (show k + 1 ≤ n + m by omega)
      rw [Nat.add_mul k, Nat.add_mul n] at h9
      rw [Array.getElem?_append_left (by simp only [Array.size_append, List.size_toArray, fl, hl]; omega)]
      simp
  rcases hown with ⟨rfl, rfl⟩ | ⟨g, cap, cur, rfl, hg, hnc, hcm, hcs, hcell⟩
  · have hm1 : 0 < m := by
      rcases hm0 with k | k
      · exact k
      · exact absurd rfl k
    have hr := run_append_nil (P := P) w t ty e i z ht hi hz a m c news hl' hnews hm1 (by omega) (by rw [Nat.zero_add] at hbytes; omega)
    have hgr := grown 0 (by omega)
    simp only [Nat.zero_add, flat, Array.empty_append] at hgr ⊢
    exact ⟨_, _, hr, hgr.1, hgr.2, (fun h => by cases h)⟩
  · have hown : OL sz e w (.slice (some ⟨g, 0, none⟩) n cap) n f := Or.inr ⟨g, cap, cur, rfl, hg, hnc, hcm, hcs, hcell⟩
    by_cases hroom : n + m ≤ cap
    · have hfit : n * i.size + news.length ≤ cur.size := by rw [hsize, hcs, hl, ← Nat.add_mul]; exact Nat.mul_le_mul_right _ hroom
      have hr := run_append_room (P := P) w t ty e i ht hi g n cap cur hg a m c news hl' hnews ho hroom hfit
      rw [hsize] at hr hfit
      have ow := hown.owns hlf hsz (base := 0) (fun _ _ => Nat.zero_le _)
      have htake : cur.toList.take (n * sz) = flat f n := by
        rcases ow.2 with ⟨h, _⟩ | ⟨g', cap', cur', hv, _, hg', _, _, _, h4⟩
        · cases h
        · simp only [Value.slice.injEq, Option.some.injEq, Addr.mk.injEq] at hv
          obtain ⟨⟨rfl, _⟩, _, rfl⟩ := hv
          rw [hg] at hg'
          injection hg' with hg'
          injection hg' with hg' _ _
          rw [hg']; exact h4
      refine ⟨_, _, hr, Or.inr ⟨g, cap, _, rfl, setRow_heap w g cur _ e _ hg, hroom, hcm, ?_, ?_⟩, ⟨rfl, rfl, rfl, by simp, fun b hb hk => setRow_other w g b _ (fun e => hk (by simp [Value.ownBlock, e])), Or.inl rfl⟩, (fun h => by cases h)⟩
      · have ln : n * sz ≤ cur.size := by rw [hcs]; exact Nat.mul_le_mul_right _ hnc
        simp only [List.size_toArray, List.length_append, List.length_take, List.length_drop, Array.length_toList]
        omega
      · intro k hk j hj
        rw [← hxs k hk j hj, htake]
        have h9 := Nat.mul_le_mul_right sz (show k + 1 ≤ n + m by omega)
        rw [Nat.add_mul k, Nat.add_mul n] at h9
        rw [List.getElem?_toArray, List.getElem?_append_left (by rw [List.length_append, fl, hl]; omega)]
    · have holds : ∀ j u, (flat f n)[j]? = some u → w.cell? ((⟨g, 0, none⟩ : Addr).add j) = some u := (hown.owns hlf hsz (base := 0) (fun _ _ => Nat.zero_le _)).cells (g := g) rfl
      have hr := run_append_grow (P := P) w t ty e i z ht hi hz ⟨g, 0, none⟩ n cap (flat f n) (by rw [hsize]; exact fl) holds a m c news hl' hnews (by omega) (by omega) (growslice_fits (by omega) (by omega))
      have hgr := grown cap (by omega)
      exact ⟨_, _, hr, hgr.1, hgr.2, (fun h => by cases h)⟩
/-- .. in a row of operations. -/
theorem wp_append {P : Program} {w : World} {o : Oper} {act : Act} {K : Act → World → Prop} {Q : Exit → Act → World → Prop} (s x : Operand) (t : TypeId) (hop : o.op = .call { callee := .builtin .append, args := #[s, x], argTypes := #[t, t] })
    (sz : Nat) (e : TypeId) (z : Value) (bytes : Nat) (h1 : P.underlying t = some (.slice e)) (h2 : (P.info? e).map (fun i => (i.zero, i.size, i.bytes)) = some (some z, sz, bytes)) (hby : bytes ≤ 1000) (hzs : z.cells.size = sz) (hsz : 0 < sz)
    (v : Value) (n : Nat) (f : Nat → List Value) (hs : act.eval s = v) (hown : OL sz e w v n f) (hlf : ∀ k, k < n → (f k).length = sz) (a : Addr) (m c : Nat) (hx : act.eval x = .slice (some a) m c) (news : List Value) (hl : news.length = m * sz) (hnews : ∀ j u, news[j]? = some u → w.cell? (a.add j) = some u) (ho : ∀ u ∈ news, u.oneCell' = true) (hm0 : 0 < m ∨ v ≠ .slice none 0 0) (hn : n + m ≤ 1000000000)
    (f' : Nat → List Value) (hf1 : ∀ k, k < n → f' k = f k) (hf2 : ∀ k, k < m → ∀ j, j < sz → (f' (n + k))[j]? = news[k * sz + j]?)
    (h : ∀ v' w', OL sz e w' v' (n + m) f' → App v v' w w' → v' ≠ .slice none 0 0 → K (act.put o.dst v') w') : Oper.wp P o act w K Q := by
  obtain ⟨i, hi, hz0, hz1, hz2⟩ := info_parts h2
  obtain ⟨v', w', hr, k1, k2, k3⟩ := run_append (P := P) w sz t o.type e i z h1 hi hz0 hz1 (by omega) hzs hsz v n f hown hlf a m c news hl hnews ho hm0 hn f' hf1 hf2
  unfold Oper.wp execOp
  simp only [hop, resolve, invoke, builtin, Sem.run_bind, Sem.run_pure, Result.andThen_ok, List.map_toArray, List.map_cons, List.map_nil, hs, hx, hr]
  exact h v' w' k1 k2 k3
theorem App.refl (v : Value) (w : World) : App v v w w := ⟨rfl, rfl, rfl, Nat.le_refl _, fun _ _ _ => rfl, Or.inl rfl⟩
/-- A list is appended to another one. -/
theorem run_append_list {P : Program} (w : World) (sz : Nat) (t ty e : TypeId) (i : TypeInfo) (z : Value) (ht : P.underlying t = some (.slice e)) (hi : P.info? e = some i) (hz : i.zero = some z) (hsize : i.size = sz) (hby : i.bytes ≤ 1000) (hzs : z.cells.size = sz) (hsz : 0 < sz)
    (v : Value) (n : Nat) (f : Nat → List Value) (hown : OL sz e w v n f) (hlf : ∀ k, k < n → (f k).length = sz) (v2 : Value) (m : Nat) (f2 : Nat → List Value) (h2 : OL sz e w v2 m f2) (hl2 : ∀ k, k < m → (f2 k).length = sz) (ho2 : ∀ u ∈ flat f2 m, u.oneCell' = true) (hn : n + m ≤ 1000000000)
    (f' : Nat → List Value) (hf1 : ∀ k, k < n → f' k = f k) (hf2 : ∀ k, k < m → f' (n + k) = f2 k) :
    ∃ v' w', (Builtin.append_ #[t, t] ty #[v, v2]).run P w = .ok v' w' ∧ OL sz e w' v' (n + m) f' ∧ App v v' w w' := by
  rcases h2 with ⟨rfl, rfl⟩ | ⟨g, cap, cur, rfl, hg, k1, k2, k3, k4⟩
  · refine ⟨v, w, run_append_owned_none (P := P) (w := w) 0 t ty e i sz ht hi v n (flat f n) (hown.owns hlf hsz (fun _ _ => Nat.zero_le _)), ?_, App.refl v w⟩
    rw [Nat.add_zero]; exact hown.congr hf1
  · have h2 : OL sz e w (.slice (some ⟨g, 0, none⟩) m cap) m f2 := Or.inr ⟨g, cap, cur, rfl, hg, k1, k2, k3, k4⟩
    have hcells : ∀ j u, (flat f2 m)[j]? = some u → w.cell? ((⟨g, 0, none⟩ : Addr).add j) = some u := (h2.owns hl2 hsz (base := 0) (fun _ _ => Nat.zero_le _)).cells (g := g) rfl
    by_cases hc : 0 < m ∨ v ≠ .slice none 0 0
    · obtain ⟨v', w', r1, r2, r3, _⟩ := run_append (P := P) w sz t ty e i z ht hi hz hsize hby hzs hsz v n f hown hlf ⟨g, 0, none⟩ m cap (flat f2 m) (flat_length hl2 m (Nat.le_refl _)) hcells ho2 hc hn f' hf1 (fun k hk j hj => by
        rw [hf2 k hk, flat_get hl2 m (Nat.le_refl _) k j hk hj])
      exact ⟨v', w', r1, r2, r3⟩
    · obtain ⟨c1, c2⟩ := not_or.1 hc
      obtain rfl : m = 0 := by omega
      have hv : v = .slice none 0 0 := Classical.byContradiction c2
      subst hv
      obtain rfl : n = 0 := by
        rcases hown with ⟨_, h⟩ | ⟨g', cap', cur', h, _⟩
        · exact h
        · cases h
      obtain ⟨v', w', r1, r2, r3, r4⟩ := run_append_own (P := P) (w := w) 0 t ty e i z sz i.bytes ht hi hz hsize rfl hzs hsz (.slice none 0 0) 0 [] (OL.nil sz e w f |>.owns (fun k hk => by omega) hsz (fun _ _ => Nat.zero_le _)) ⟨g, 0, none⟩ 0 cap [] (by simp) (by simp) (by simp) (by unfold maxLen; decide) (by simp) (Nat.zero_le _)
      obtain rfl : v' = .slice none 0 0 := r4.2 ⟨rfl, rfl⟩
      exact ⟨_, w', r1, OL.nil _ _ _ _, ⟨r3.os, r3.tape, r3.output, r3.size, fun b hb _ => r3.block b hb (by simp [Value.ownBlock]), Or.inl rfl⟩⟩
theorem wp_append_list {P : Program} {w : World} {o : Oper} {act : Act} {K : Act → World → Prop} {Q : Exit → Act → World → Prop} (s x : Operand) (t : TypeId) (hop : o.op = .call { callee := .builtin .append, args := #[s, x], argTypes := #[t, t] })
    (sz : Nat) (e : TypeId) (z : Value) (bytes : Nat) (h1 : P.underlying t = some (.slice e)) (h2 : (P.info? e).map (fun i => (i.zero, i.size, i.bytes)) = some (some z, sz, bytes)) (hby : bytes ≤ 1000) (hzs : z.cells.size = sz) (hsz : 0 < sz)
    (v : Value) (n : Nat) (f : Nat → List Value) (hs : act.eval s = v) (hown : OL sz e w v n f) (hlf : ∀ k, k < n → (f k).length = sz) (v2 : Value) (m : Nat) (f2 : Nat → List Value) (hx : act.eval x = v2) (h3 : OL sz e w v2 m f2) (hl2 : ∀ k, k < m → (f2 k).length = sz) (ho2 : ∀ u ∈ flat f2 m, u.oneCell' = true) (hn : n + m ≤ 1000000000)
    (f' : Nat → List Value) (hf1 : ∀ k, k < n → f' k = f k) (hf2 : ∀ k, k < m → f' (n + k) = f2 k)
    (h : ∀ v' w', OL sz e w' v' (n + m) f' → App v v' w w' → K (act.put o.dst v') w') : Oper.wp P o act w K Q := by
  obtain ⟨i, hi, hz0, hz1, hz2⟩ := info_parts h2
  obtain ⟨v', w', hr, k1, k2⟩ := run_append_list (P := P) w sz t o.type e i z h1 hi hz0 hz1 (by omega) hzs hsz v n f hown hlf v2 m f2 h3 hl2 ho2 hn f' hf1 hf2
  unfold Oper.wp execOp
  simp only [hop, resolve, invoke, builtin, Sem.run_bind, Sem.run_pure, Result.andThen_ok, List.map_toArray, List.map_cons, List.map_nil, hs, hx, hr]
  exact h v' w' k1 k2
theorem cell_new_list (w : World) (cs : List Value) (t : TypeId) (j : Nat) (u : Value) (h : cs[j]? = some u) : (w.alloc (.cells cs.toArray t (0, 0))).cell? ((⟨w.heap.size, 0, none⟩ : Addr).add j) = some u := by
  have e : ((⟨w.heap.size, 0, none⟩ : Addr).add j) = ⟨w.heap.size, j, none⟩ := by
    unfold Addr.add
    split
    · rename_i h; subst h; rfl
    · simp
  rw [e, cell_of_row _ w.heap.size j cs.toArray t (0, 0) (heap_alloc_new w _)]
  simpa using h
/-- One element that was just laid down is appended. -/
theorem wp_push {P : Program} {w : World} {o : Oper} {act : Act} {K : Act → World → Prop} {Q : Exit → Act → World → Prop} (s x : Operand) (t : TypeId) (hop : o.op = .call { callee := .builtin .append, args := #[s, x], argTypes := #[t, t] })
    (sz : Nat) (e : TypeId) (z : Value) (bytes : Nat) (h1 : P.underlying t = some (.slice e)) (h2 : (P.info? e).map (fun i => (i.zero, i.size, i.bytes)) = some (some z, sz, bytes)) (hby : bytes ≤ 1000) (hzs : z.cells.size = sz) (hsz : 0 < sz)
    (v : Value) (n : Nat) (f : Nat → List Value) (hs : act.eval s = v) (news : List Value) (te : TypeId) (hown : OL sz e (w.alloc (.cells news.toArray te (0, 0))) v n f) (hlf : ∀ k, k < n → (f k).length = sz) (c : Nat) (hx : act.eval x = .slice (some ⟨w.heap.size, 0, none⟩) 1 c) (hl : news.length = sz) (ho : ∀ u ∈ news, u.oneCell' = true) (hn : n + 1 ≤ 1000000000)
    (f' : Nat → List Value) (hf1 : ∀ k, k < n → f' k = f k) (hf2 : f' n = news)
    (h : ∀ v' w', OL sz e w' v' (n + 1) f' → App v v' (w.alloc (.cells news.toArray te (0, 0))) w' → v' ≠ .slice none 0 0 → K (act.put o.dst v') w') : Oper.wp P o act (w.alloc (.cells news.toArray te (0, 0))) K Q :=
  wp_append s x t hop sz e z bytes h1 h2 hby hzs hsz v n f hs hown hlf ⟨w.heap.size, 0, none⟩ 1 c hx news (by rw [hl, Nat.one_mul]) (cell_new_list w news te) ho (Or.inl (by decide)) hn f' hf1 (fun k hk j hj => by
    obtain rfl : k = 0 := by omega
    rw [Nat.add_zero, hf2, Nat.zero_mul, Nat.zero_add]) h
theorem wpList_push {P : Program} {w : World} {ops : Array Oper} {rest : List Oper} {o : Oper} {act : Act} {Q : Exit → Act → World → Prop} (hgd : o.guard = none) (s x : Operand) (t : TypeId) (hop : o.op = .call { callee := .builtin .append, args := #[s, x], argTypes := #[t, t] })
    (sz : Nat) (e : TypeId) (z : Value) (bytes : Nat) (h1 : P.underlying t = some (.slice e)) (h2 : (P.info? e).map (fun i => (i.zero, i.size, i.bytes)) = some (some z, sz, bytes)) (hby : bytes ≤ 1000) (hzs : z.cells.size = sz) (hsz : 0 < sz)
    (v : Value) (n : Nat) (f : Nat → List Value) (hs : act.eval s = v) (news : List Value) (te : TypeId) (hown : OL sz e (w.alloc (.cells news.toArray te (0, 0))) v n f) (hlf : ∀ k, k < n → (f k).length = sz) (c : Nat) (hx : act.eval x = .slice (some ⟨w.heap.size, 0, none⟩) 1 c) (hl : news.length = sz) (ho : ∀ u ∈ news, u.oneCell' = true) (hn : n + 1 ≤ 1000000000)
    (f' : Nat → List Value) (hf1 : ∀ k, k < n → f' k = f k) (hf2 : f' n = news)
    (h : ∀ v' w', OL sz e w' v' (n + 1) f' → App v v' (w.alloc (.cells news.toArray te (0, 0))) w' → v' ≠ .slice none 0 0 → wpList P ops Q rest (act.put o.dst v') w') : wpList P ops Q (o :: rest) act (w.alloc (.cells news.toArray te (0, 0))) :=
  wpList_plain hgd fun _ hK => wp_push s x t hop sz e z bytes h1 h2 hby hzs hsz v n f hs news te hown hlf c hx hl ho hn f' hf1 hf2 fun v' w' k1 k2 k3 => hK _ _ (h v' w' k1 k2 k3)
/-- A slice of one element that lies by itself. -/
def ONE5 (et : TypeId) (news : List Value) (v : Value) (w : World) : Prop := ∃ b, v = .slice (some ⟨b, 0, none⟩) 1 1 ∧ w.heap[b]? = some (.cells news.toArray et (0, 0))
theorem wp_push1 {P : Program} {w : World} {o : Oper} {act : Act} {K : Act → World → Prop} {Q : Exit → Act → World → Prop} (s x : Operand) (t : TypeId) (hop : o.op = .call { callee := .builtin .append, args := #[s, x], argTypes := #[t, t] })
    (sz : Nat) (e : TypeId) (z : Value) (bytes : Nat) (h1 : P.underlying t = some (.slice e)) (h2 : (P.info? e).map (fun i => (i.zero, i.size, i.bytes)) = some (some z, sz, bytes)) (hby : bytes ≤ 1000) (hzs : z.cells.size = sz) (hsz : 0 < sz)
    (v : Value) (n : Nat) (f : Nat → List Value) (hs : act.eval s = v) (hown : OL sz e w v n f) (hlf : ∀ k, k < n → (f k).length = sz) (news : List Value) (te : TypeId) (v1 : Value) (hone : ONE5 te news v1 w) (hx : act.eval x = v1) (hl : news.length = sz) (ho : ∀ u ∈ news, u.oneCell' = true) (hn : n + 1 ≤ 1000000000)
    (f' : Nat → List Value) (hf1 : ∀ k, k < n → f' k = f k) (hf2 : f' n = news)
    (h : ∀ v' w', OL sz e w' v' (n + 1) f' → App v v' w w' → v' ≠ .slice none 0 0 → K (act.put o.dst v') w') : Oper.wp P o act w K Q := by
  obtain ⟨b, rfl, hb⟩ := hone
  refine wp_append s x t hop sz e z bytes h1 h2 hby hzs hsz v n f hs hown hlf ⟨b, 0, none⟩ 1 1 hx news (by rw [hl, Nat.one_mul]) (fun j u hj => ?_) ho (Or.inl (by decide)) hn f' hf1 (fun k hk j hj => by
    obtain rfl : k = 0 := by omega
    rw [Nat.add_zero, hf2, Nat.zero_mul, Nat.zero_add]) h
  have e9 : ((⟨b, 0, none⟩ : Addr).add j) = ⟨b, j, none⟩ := by
    unfold Addr.add
    split
    · rename_i h; subst h; rfl
    · simp
  rw [e9, cell_of_row _ b j news.toArray te (0, 0) hb]
  simpa using hj
theorem App.of_alloc {v v' : Value} {w w' : World} {o : Obj} (h : App v v' (w.alloc o) w') (hv : ∀ b, v.ownBlock = some b → b < w.heap.size) : App v v' w w' :=
  ⟨h.os, h.tape, h.output, by have := h.size; simp at this; omega, fun b hb hn => (h.other b (by simp; omega) hn).trans (Below.heap_alloc w o b hb), by
    rcases h.at_ with k | ⟨b, k, k2⟩
    · exact Or.inl k
    · exact Or.inr ⟨b, k, by simp at k2; omega⟩⟩

/-! ## Maps to ints -/
end Euf
end Go.Proofs.YtomldkljlbdnjaaGreat
/- All tokens of a text: the walk of lex.Tokens. No statement of the seat is proved here. -/
namespace Go.Proofs.YtomldkljlbdnjaaGreat
open Go.RowKit
set_option linter.unusedVariables false
set_option linter.unusedSimpArgs false
namespace Lex
open Euf (OL App Stop wpList_push)

theorem clone_any (s : ByteArray) (w : World) (hs : s.size ≤ 281474976710656) :
    Calls Tryz.prog 46 #[.string s] w fun e w' => e = .returned (.string s) ∧ Below w.heap.size w w' := by
  go_enter Tryz.func46, Tryz.ntmps46
  go_wp2_with (go_at_call 90; refine (Tryz.stringslite_Clone s w hs).mono ?_; rintro e w1 ⟨rfl, hb⟩)
  go_ret
  exact ⟨rfl, hb⟩
theorem uTok : Tryz.prog.underlying 39 = some (.slice 43) := by kernel_rfl
theorem iTok : (Tryz.prog.info? 43).map (fun i => (i.zero, i.size, i.bytes)) = some (some (.agg #[.int .i64 0, .string ByteArray.empty, .int .i64 0]), 3, 32) := by kernel_rfl
/-- A token's cells. -/
def tv (t : T) : List Value := [.int .i64 (t.k : Int), .string (tx t.x), .int .i64 (t.a : Int)]
def tkC (ts : List T) (i : Nat) : List Value := tv (ts.getD i ⟨0, [], 0⟩)
/-- A list of tokens of the call's own. -/
def TL (w : World) (v : Value) (ts : List T) : Prop := OL 3 43 w v ts.length (tkC ts)
theorem tkC_app {ts : List T} {t : T} : (∀ k, k < ts.length → tkC (ts ++ [t]) k = tkC ts k) ∧ tkC (ts ++ [t]) ts.length = tv t := by
  refine ⟨fun k hk => ?_, ?_⟩
  · simp [tkC, List.getElem?_append_left hk]
  · simp [tkC]
/-- The state between two tokens. -/
structure TS (w0 wr : World) (v : Value) (ts : List T) : Prop where
  bel : Below w0.heap.size w0 wr
  res : Blk 29 wr w0.heap.size #[.int .i64 0, .int .i64 0]
  list : TL wr v ts
  own : ∀ b, v.ownBlock = some b → w0.heap.size < b
theorem TS.below {w0 wr w' : World} {v : Value} {ts : List T} (h : TS w0 wr v ts) (hb : Below wr.heap.size wr w') : TS w0 w' v ts :=
  ⟨h.bel.step hb (Nat.le_refl _), h.res.stay hb, h.list.stay fun b k => hb.block b (h.list.lt k), h.own⟩
theorem TS.push {w0 wr w' : World} {v v' : Value} {ts : List T} {t : T} (h : TS w0 wr v ts) (ha : App v v' wr w') (hl : TL w' v' (ts ++ [t])) : TS w0 w' v' (ts ++ [t]) := by
  have hr := h.res.lt
  have hn : v.ownBlock ≠ some w0.heap.size := fun k => absurd (h.own _ k) (Nat.lt_irrefl _)
  refine ⟨?_, (ha.other _ hr hn).trans h.res, hl, fun b hb => ?_⟩
  · exact ⟨ha.os.trans h.bel.os, ha.tape.trans h.bel.tape, ha.output.trans h.bel.output, Nat.le_trans h.bel.size ha.size, fun b hb => (ha.other b (by omega) (fun k => absurd (h.own _ k) (by omega))).trans (h.bel.block b hb)⟩
  · rcases ha.at_ with k | ⟨b', k, k2⟩
    · exact h.own b (k ▸ hb)
    · rw [hb] at k; injection k with k; omega
/-- What is still to come behind q. -/
def J (s : ByteArray) (q : Nat) (ts : List T) : Prop := sk ((bs s).drop q) = 0 ∧ ∀ ts' c a, Lx ((bs s).drop q) q ts' c a → Lx (bs s) 0 (ts ++ ts') c a
theorem J.start (s : ByteArray) : J s (0 + sk ((bs s).drop 0)) [] := by
  rw [List.drop_zero, Nat.zero_add]
  refine ⟨sk_end _, fun ts' c a h => ?_⟩
  exact h.ahead (by rw [sk_end, List.drop_zero]) (by rw [sk_end]; omega)
theorem J.done {s : ByteArray} {q : Nat} {ts : List T} (h : J s q ts) (hq : s.size ≤ q) : Lx (bs s) 0 ts 0 0 := by
  have := h.2 [] 0 0 (.done (by rw [drop_all s q hq]; exact Nat.zero_le _))
  rwa [List.append_nil] at this
theorem J.bad {s : ByteArray} {q c a : Nat} {ts : List T} (h : J s q ts) (hq : q < s.size) (ht : tk ((bs s).drop q) = .bad c a) : Lx (bs s) 0 ts c (q + a) := by
  have := h.2 [] c (q + a) (by
    have h1 := Lx.bad (p := q) (l := (bs s).drop q) (c := c) (a := a) (by rw [h.1, List.length_drop, bs_length]; omega) (by rw [h.1, List.drop_zero]; exact ht)
    rwa [h.1, Nat.add_zero] at h1)
  rwa [List.append_nil] at this
theorem J.next {s : ByteArray} {q k n : Nat} {ts : List T} (h : J s q ts) (hq : q < s.size) (ht : tk ((bs s).drop q) = .ok k n) :
    J s (q + n + sk ((bs s).drop (q + n))) (ts ++ [⟨k, ((bs s).drop q).take n, q⟩]) := by
  have e1 : (bs s).drop (q + n + sk ((bs s).drop (q + n))) = ((bs s).drop (q + n)).drop (sk ((bs s).drop (q + n))) := by rw [List.drop_drop]
  have e0 : sk ((bs s).drop (q + n + sk ((bs s).drop (q + n)))) = 0 := by rw [e1]; exact sk_end _
  refine ⟨e0, fun ts' c a h1 => ?_⟩
  have h2 : Lx ((bs s).drop (q + n)) (q + n) ts' c a := h1.ahead (by rw [e0, List.drop_zero, e1]) (by rw [e0]; omega)
  have h3 := Lx.tok (p := q) (l := (bs s).drop q) (k := k) (n := n) (ts := ts') (c := c) (a := a) (by rw [h.1, List.length_drop, bs_length]; omega) (by rw [h.1, List.drop_zero]; exact ht)
    (by rw [h.1, Nat.zero_add, List.drop_drop]; exact h2)
  rw [h.1, List.drop_zero, Nat.add_zero] at h3
  have := h.2 _ c a h3
  rwa [List.append_assoc]
/-- What a call of Tokens leaves. -/
def TkEnd (w0 : World) (s : ByteArray) (e : Ending) (w' : World) : Prop :=
  ∃ v ts c a, e = .returned (.tuple #[v, FV c a]) ∧ Out (bs s) ts c a ∧ TL w' v ts ∧ (∀ b, v.ownBlock = some b → w0.heap.size ≤ b) ∧ Below w0.heap.size w0 w'
set_option maxHeartbeats 4000000 in
theorem tokens_any (s : ByteArray) (w : World) (hs : s.size ≤ 9223372036854775807) :
    Calls Tryz.prog 16 #[.string s] w fun e w' => TkEnd w s e w' := by
  by_cases hbig : 65536 < s.size
  · have hbI : (65536 : Int) < (s.size : Int) := by omega
    go_enter Tryz.func16, Tryz.ntmps16
    go_wp2
    refine bodyPost_ret (v := .tuple #[.slice none 0 0, FV 2 65536]) (by simp [results, Tryz.results16, go_sem, FV]) rfl ?_
    refine ⟨_, [], 2, 65536, rfl, Or.inl ⟨by rw [bs_length]; exact hbig, rfl, rfl, rfl⟩, OL.nil _ _ _ _, (fun b h => by cases h), ?_⟩
    go_grown
  · have hbI : ¬ (65536 : Int) < (s.size : Int) := by omega
    have hle : s.size ≤ 65536 := by omega
    have hq0 := sk_le ((bs s).drop 0)
    rw [List.length_drop, bs_length] at hq0
    have HJ0 : Hid (J s (0 + sk ((bs s).drop 0)) []) := J.start s
    have HP0 := hide <| fun w => passOver_any s 0 w (Nat.zero_le _) hs
    have hq0' : 0 + sk ((bs s).drop 0) ≤ s.size := by omega
    generalize 0 + sk ((bs s).drop 0) = q0 at HJ0 HP0 hq0'
    have HT0 : Hid (TS w (w.alloc (.cells #[.int .i64 0, .int .i64 0] 29 (0, 0))) (.slice none 0 0) []) :=
      ⟨by go_grown, Blk.new w _ _, OL.nil _ _ _ _, fun b h => by cases h⟩
    clear hq0
    go_enter Tryz.func16, Tryz.ntmps16
    go_wp2_with (go_at_call 44; refine (HP0.out _).mono ?_; rintro e w' ⟨rfl, rfl⟩)
    go_loopw [4, 5] (fun v4 v5 wr => ∃ (q : Nat) (ts : List T), v5 = .int .i64 (q : Int) ∧ q ≤ s.size ∧ Hid (TS w wr v4 ts) ∧ Hid (J s q ts) ∧ ts.length ≤ q) (fun _ v _ => s.size - (intOf v).toNat)
    case atStart => exact ⟨q0, [], rfl, hq0', HT0, HJ0, Nat.zero_le _⟩
    case round =>
      rename World => wl
      clear HT0 HJ0 HP0 hq0'
      obtain ⟨q, ts, rfl, hq, HT, HJ, hn⟩ := hrel
      obtain ⟨aL, cL, hv, -, -, -, -⟩ := HT.out.list.shape
      subst hv
      by_cases hlt : q < s.size
      · have hltI : (q : Int) < (s.size : Int) := by omega
        have hsc := fun w => scan_any s q w hlt hs
        cases hr : tk ((bs s).drop q) with
        | bad c a =>
          rw [hr] at hsc
          have HS := hide hsc
          clear hsc
          have hc : ((c : Int) == 0) = false := by have := tk_bad hr; rw [beq_eq_false_iff_ne]; omega
          have HO : Hid (Out (bs s) [] c (q + a)) := by
            have := tk_bad hr
            exact Or.inr ⟨by rw [bs_length]; exact hle, ts, HJ.out.bad hlt hr, by rw [if_neg (by omega)]⟩
          clear hr HJ
          go_wp2_with (go_at_call 45; refine (HS.out _).mono ?_; rintro e w1 ⟨⟨x, y, rfl⟩, hb⟩; simp only [FV]; have HB : Hid (Below w.heap.size w w1) := (HT.out.below hb).bel; obtain ⟨r0, r1, q0, q1⟩ := (HT.out.below hb).res.two; have hlb := (HT.out.below hb).res.lt; clear HT hb)
          go_region
          all_goals
            go_wp2
            refine bodyPost_ret (v := .tuple #[.slice none 0 0, FV c (q + a)]) (by simp [results, Tryz.results16, go_sem, FV, r0, r1, q0, q1, hlb, Nat.ne_of_lt hlb]) rfl ?_
            refine ⟨_, [], c, q + a, rfl, HO.out, OL.nil _ _ _ _, (fun b h => by cases h), ?_⟩
            have := HB.out
            go_grown
        | ok k n =>
          rw [hr] at hsc
          have HS := hide hsc
          clear hsc
          have hnn := tk_ok hr
          rw [List.length_drop, bs_length] at hnn
          have hqn : q + n ≤ s.size := by omega
          have hn0 : 0 < n := hnn.1
          clear hnn
          have HJ2 := hide (HJ.out.next hlt hr)
          have hq2 := sk_le ((bs s).drop (q + n))
          rw [List.length_drop, bs_length] at hq2
          have HP := hide <| fun w => passOver_any s (q + n) w hqn hs
          have hq2' : q + n + sk ((bs s).drop (q + n)) ≤ s.size ∧ q < q + n + sk ((bs s).drop (q + n)) := by omega
          generalize q + n + sk ((bs s).drop (q + n)) = q2 at HJ2 HP hq2'
          clear hq2 HJ hr
          have hx : tx (((bs s).drop q).take n) = s.extract q (q + n) := by
            rw [show n = q + n - q by omega, ← bs_extract s q (q + n) (by omega), tx_bs, show q + (q + n - q) = q + n by omega]
          have hxs : (s.extract q (q + n)).size ≤ 281474976710656 := by
            rw [← bs_length, bs_extract s q (q + n) (by omega), List.length_take, List.length_drop, bs_length]; omega
          obtain ⟨t, ht⟩ : ∃ t : T, Hid (t = ⟨k, ((bs s).drop q).take n, q⟩) := ⟨_, rfl⟩
          have htv : Hid (tv t = [.int .i64 (k : Int), .string (s.extract q (q + n)), .int .i64 (q : Int)]) := by
            rw [ht.out]; show tv _ = _; simp only [tv, hx]
          rw [← ht.out] at HJ2
          clear hx ht
          generalize hX : s.extract q (q + n) = X at hxs htv
          go_wp2_with (first | (go_at_call 45; refine (HS.out _).mono ?_; rintro e w1 ⟨rfl, hb⟩; simp only [FV]; have HT1 := hide (HT.out.below hb); clear HT hb) | (go_at_call 46; refine (clone_any _ _ (by first | exact hxs | (rw [hX]; exact hxs))).mono ?_; rintro e w2 ⟨rfl, hb⟩) | (at_builtin; refine Stop.of ?_))
          show wpList _ _ _ _ _ _
          have HT2 := hide (HT1.out.below ((show Below w1.heap.size w1 (w1.alloc (.cells #[.int .i64 0, .int .i64 0] 29 (0, 0))) by go_grown).step hb (Nat.le_refl _)))
          have hol3 : OL 3 43 (w2.alloc (.cells #[.int .i64 (k : Int), .string X, .int .i64 (q : Int)] 43 (0, 0))) (.slice aL ts.length cL) ts.length (tkC ts) := HT2.out.list.stay fun b hb => Below.heap_alloc w2 _ b (HT2.out.list.lt hb)
          refine wpList_push rfl (.tmp 30) (.tmp 39) 39 rfl 3 43 _ 32 uTok iTok (by decide) rfl (by decide) (.slice aL ts.length cL) ts.length (tkC ts) rfl [.int .i64 (k : Int), .string X, .int .i64 (q : Int)] 43 hol3 (fun _ _ => rfl) 1 rfl rfl (by intro u hu; simp at hu; rcases hu with rfl | rfl | rfl <;> rfl) (by omega) (tkC (ts ++ [t])) tkC_app.1 (tkC_app.2.trans htv.out) ?_
          intro v4 w4 hol4 hap4 hne4
          replace hap4 := hap4.of_alloc (fun b hb => HT2.out.list.lt hb)
          have HT4 : Hid (TS w w4 v4 (ts ++ [t])) := HT2.out.push hap4 (by have := hol4; rw [show ts.length + 1 = (ts ++ [t]).length by simp] at this; exact this)
          clear hol3 hol4 hap4 hne4 HT1 HT2 hb htv
          go_wp2_with (go_at_call 44; refine (HP.out _).mono ?_; rintro e w' ⟨rfl, rfl⟩)
          go_roundw
          case rel => exact ⟨q2, ts ++ [t], by go_num, hq2'.1, HT4, HJ2, by rw [List.length_append, List.length_singleton]; omega⟩
          case measure => simp [intOf]; omega
      · have hltI : ¬ (q : Int) < (s.size : Int) := by omega
        have HO : Hid (Out (bs s) ts 0 0) := Or.inr ⟨by rw [bs_length]; exact hle, ts, HJ.out.done (by omega), by rw [if_pos rfl]⟩
        obtain ⟨r0, r1, q0, q1⟩ := HT.out.res.two
        have hlb := HT.out.res.lt
        clear HJ
        go_wp2
        refine bodyPost_ret (v := .tuple #[.slice aL ts.length cL, FV 0 0]) (by simp [results, Tryz.results16, go_sem, FV, r0, r1, q0, q1, hlb]) rfl ?_
        have h9 := HT.out
        refine ⟨_, ts, 0, 0, rfl, HO.out, h9.list.stay (fun b hb => ?_), (fun b hb => Nat.le_of_lt (h9.own b hb)), below_store2 h9.bel (Nat.le_refl _) _ _⟩
        have := h9.own b hb
        rw [heap_setCell_other _ _ _ _ (by simp; omega), heap_setCell_other _ _ _ _ (by simp; omega)]
end Lex
end Go.Proofs.YtomldkljlbdnjaaGreat
