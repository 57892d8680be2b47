/- strings.Cut at a stroke, and what the two Parses answer of a text with or without one; no statement of the seat is proved here. -/
import Derived.Test.YtidpbdhhbeaijabJoin13Folds
import Derived.Test.YtidpbdhhbeaijabJoin8Folds
import Derived.Laws.Externs
namespace Go.Proofs.Ytidpbdhhbeaijab
open Go.RowKit

theorem call_ibs (s : ByteArray) (w : World) : (callFunc 103 #[.string s, .int .u8 47]).run Try.prog w = .ok (.value (.int .i64 (firstIdx s 47))) w := by
  rw [run_callFunc_extern (e := Extern.BytealgIndexByte.indexByte) Try.func103 (by kernel_rfl) (by kernel_rfl) (by kernel_rfl) (by kernel_rfl), run_indexByte_string]
  rfl
/-- No stroke; the first one at k. -/
def NoSl (s : ByteArray) : Prop := ∀ i, i < s.size → (bs s).getD i 0 ≠ 47
def Sl (s : ByteArray) (k : Nat) : Prop := k < s.size ∧ (bs s).getD k 0 = 47 ∧ ∀ i, i < k → (bs s).getD i 0 ≠ 47
theorem slash_any (s : ByteArray) : NoSl s ∨ ∃ k, Sl s k := by
  by_cases h : ∃ i, i < s.size ∧ (bs s).getD i 0 = 47
  · right
    have hx : ∀ n, (∃ i, i ≤ n ∧ i < s.size ∧ (bs s).getD i 0 = 47) → ∃ k, Sl s k := by
      intro n
      induction n using Nat.strongRecOn with
      | ind n ih =>
        rintro ⟨i, h1, h2, h3⟩
        by_cases hs : ∃ j, j < i ∧ (bs s).getD j 0 = 47
        · obtain ⟨j, hj, hj2⟩ := hs
          exact ih j (by omega) ⟨j, Nat.le_refl _, by omega, hj2⟩
        · exact ⟨i, h2, h3, fun j hj e => hs ⟨j, hj, e⟩⟩
    obtain ⟨i, h1, h2⟩ := h
    exact hx i ⟨i, Nat.le_refl _, h1, h2⟩
  · left
    intro i hi e
    exact h ⟨i, hi, e⟩
theorem Sl.same {s : ByteArray} {k k' : Nat} (h : Sl s k) (h' : Sl s k') : k = k' := by
  rcases Nat.lt_trichotomy k k' with e | e | e
  · exact absurd h.2.1 (h'.2.2 k e)
  · exact e
  · exact absurd h'.2.1 (h.2.2 k' e)
theorem Sl.no {s : ByteArray} {k : Nat} (h : Sl s k) (h' : NoSl s) : False := h' k h.1 h.2.1
theorem byte_is (s : ByteArray) (i : Nat) (hi : i < s.size) : (s[i]! == (47 : UInt8)) = true ↔ (bs s).getD i 0 = 47 := by
  rw [← bs_get s i hi, getElem!_pos s i hi, beq_iff_eq]
  constructor
  · intro e; rw [e]; rfl
  · intro e; exact UInt8.toNat_inj.1 e
theorem firstIdx_none {s : ByteArray} (h : NoSl s) : firstIdx s 47 = -1 := by
  unfold firstIdx
  have e : (List.range s.size).find? (fun i => s[i]! == (47 : UInt8)) = none := by
    rw [List.find?_eq_none]
    intro i hi e
    rw [List.mem_range] at hi
    exact h i hi ((byte_is s i hi).1 e)
  rw [e]
theorem firstIdx_some {s : ByteArray} {k : Nat} (h : Sl s k) : firstIdx s 47 = k := by
  unfold firstIdx
  have e : (List.range s.size).find? (fun i => s[i]! == (47 : UInt8)) = some k := by
    rw [List.find?_range_eq_some]
    refine ⟨(byte_is s k h.1).2 h.2.1, List.mem_range.2 h.1, fun j hj => ?_⟩
    rw [Bool.not_eq_true', Bool.eq_false_iff]
    intro e
    exact h.2.2 j hj ((byte_is s j (by have := h.1; omega)).1 e)
  rw [e]

theorem indexByte_any (s : ByteArray) (w : World) :
    Calls Try.prog 96 #[.string s, .int .u8 47] w fun e w' => e = .returned (.int .i64 (firstIdx s 47)) ∧ w' = w := by
  have hc := call_ibs s w
  go_enter Try.func96, Try.ntmps96
  go_wp2_with fail
  go_ret
  exact ⟨rfl, rfl⟩
set_option maxRecDepth 20000 in
set_option maxHeartbeats 1000000 in
theorem index_slash (s : ByteArray) (w : World) :
    Calls Try.prog 87 #[.string s, .string ⟨#[47]⟩] w fun e w' => e = .returned (.int .i64 (firstIdx s 47)) ∧ w' = w := by
  have hc := call_ibs s w
  by_cases h : s = ⟨#[47]⟩
  · have h1 : (([47] : List UInt8) == s.toList) = true := by rw [h, ByteArray.toList_mk]; rfl
    have h2 : firstIdx s 47 = 0 := by
      have : Sl s 0 := by
        rw [h]
        refine ⟨by decide, by decide, fun i hi => by omega⟩
      exact firstIdx_some this
    rw [h2]
    clear hc h h2
    go_enter Try.func87, Try.ntmps87
    go_wp2
    go_ret
    exact ⟨rfl, rfl⟩
  · have h1 : (([47] : List UInt8) == s.toList) = false := by
      rw [beq_eq_false_iff_ne]
      intro e
      apply h
      apply bs_inj
      have e2 : s.data.toList = [47] := by rw [← ByteArray.toList_eq s, ← e]
      unfold bs
      rw [e2]
      try rfl
    clear h
    go_enter Try.func87, Try.ntmps87
    go_wp2_with (go_at_call 96; refine (indexByte_any s _).mono ?_; rintro e w' ⟨rfl, rfl⟩)
    go_ret
    exact ⟨rfl, rfl⟩

set_option maxRecDepth 20000 in
set_option maxHeartbeats 1000000 in
theorem cut2_no (s : ByteArray) (w : World) (h : NoSl s) :
    Calls Try.prog 70 #[.string s, .string ⟨#[47]⟩] w fun e w' => e = .returned (.tuple #[.string s, .string ⟨#[]⟩, .bool false]) ∧ w' = w := by
  have hf := firstIdx_none h
  clear h
  go_enter Try.func70, Try.ntmps70
  go_wp2_with (go_at_call 87; refine (index_slash s _).mono ?_; rintro e w' ⟨rfl, rfl⟩)
  refine bodyPost_ret (v := .tuple #[.string s, .string ⟨#[]⟩, .bool false]) (by simp [results, Try.results70, go_sem]) rfl ?_
  exact ⟨rfl, rfl⟩
set_option maxRecDepth 20000 in
set_option maxHeartbeats 1000000 in
theorem cut2_yes (s : ByteArray) (k : Nat) (w : World) (hl : s.size ≤ 10000) (h : Sl s k) :
    Calls Try.prog 70 #[.string s, .string ⟨#[47]⟩] w fun e w' => e = .returned (.tuple #[.string (s.extract 0 k), .string (s.extract (k + 1) s.size), .bool true]) ∧ ∃ n, w' = w.drewN n := by
  have hf := firstIdx_some h
  have hk := h.1
  clear h
  go_enter Try.func70, Try.ntmps70
  go_wp2_with (go_at_call 87; refine (index_slash s _).mono ?_; rintro e w' ⟨rfl, rfl⟩)
  go_region
  go_wp2
  refine bodyPost_ret (v := .tuple #[.string (s.extract 0 k), .string (s.extract (k + 1) s.size), .bool true]) (by simp [results, Try.results70, go_sem]) rfl ?_
  exact ⟨rfl, 1, rfl⟩

theorem drewN_below (w : World) (n : Nat) : Below w.heap.size w (w.drewN n) := ⟨rfl, rfl, rfl, Nat.le_refl _, fun _ _ => rfl⟩
set_option maxHeartbeats 1000000 in
theorem cutS_no (s : ByteArray) (w : World) (h : NoSl s) :
    Calls Try.prog 52 #[.string s, .string ⟨#[47]⟩] w fun e w' => e = .returned (.tuple #[.string s, .string ⟨#[]⟩, .bool false]) ∧ Below w.heap.size w w' := by
  have H : Hid (NoSl s) := h
  clear h
  go_enter Try.func52, Try.ntmps52
  go_wp2_with (go_at_call 70; refine (cut2_no s _ H.out).mono ?_; rintro e w' ⟨rfl, rfl⟩)
  refine bodyPost_ret (v := .tuple #[.string s, .string ⟨#[]⟩, .bool false]) (by simp [results, Try.results52, go_sem]) rfl ?_
  exact ⟨rfl, Below.refl _ _⟩
set_option maxHeartbeats 1000000 in
theorem cutS_yes (s : ByteArray) (k : Nat) (w : World) (hl : s.size ≤ 10000) (h : Sl s k) :
    Calls Try.prog 52 #[.string s, .string ⟨#[47]⟩] w fun e w' => e = .returned (.tuple #[.string (s.extract 0 k), .string (s.extract (k + 1) s.size), .bool true]) ∧ Below w.heap.size w w' := by
  have H : Hid (Sl s k) := h
  clear h
  go_enter Try.func52, Try.ntmps52
  go_wp2_with (go_at_call 70; refine (cut2_yes s k _ hl H.out).mono ?_; rintro e w' ⟨rfl, n, rfl⟩)
  refine bodyPost_ret (v := .tuple #[.string (s.extract 0 k), .string (s.extract (k + 1) s.size), .bool true]) (by simp [results, Try.results52, go_sem]) rfl ?_
  exact ⟨rfl, drewN_below _ _⟩

/-- What a whole number's Parse answers of a text: the code, the number. -/
def PR (l : List Nat) (c z : Int) : Prop := (¬ Good l ∧ c = 10 ∧ z = 0) ∨ (Good l ∧ c = ec (pval l) ∧ z = hz (pval l))
theorem PR.same {l : List Nat} {c z c' z' : Int} (h : PR l c z) (h' : PR l c' z') : c = c' ∧ z = z' := by
  rcases h with ⟨a, b, d⟩ | ⟨a, b, d⟩ <;> rcases h' with ⟨a', b', d'⟩ | ⟨a', b', d'⟩
  · exact ⟨b.trans b'.symm, d.trans d'.symm⟩
  · exact absurd a' a
  · exact absurd a a'
  · exact ⟨b.trans b'.symm, d.trans d'.symm⟩
theorem PR.codes {l : List Nat} {c z : Int} (h : PR l c z) : c = 10 ∨ c = 0 ∨ c = 11 := by
  rcases h with ⟨_, b, _⟩ | ⟨_, b, _⟩
  · exact Or.inl b
  · right
    rw [b]
    unfold ec
    split <;> simp
theorem PR.zero {l : List Nat} {c z : Int} (h : PR l c z) (hc : c = 0) : Good l ∧ z = pval l := by
  rcases h with ⟨_, b, _⟩ | ⟨a, b, d⟩
  · rw [hc] at b; cases b
  · exact ⟨a, by rw [d, hz_ec (by rw [← b, hc])]⟩
theorem PR.err {l : List Nat} {c z : Int} (h : PR l c z) (hc : c ≠ 0) : z = 0 := by
  rcases h with ⟨_, _, d⟩ | ⟨_, b, d⟩
  · exact d
  · rw [d]
    unfold hz
    rw [if_neg]
    intro k
    exact hc (by rw [b, ec_of k])
theorem parse_z (s : ByteArray) (w : World) (hl : s.size ≤ 10000) :
    Calls Try.prog 53 #[.string s] w fun e w' => ∃ x a n c co z, e = .returned (.tuple #[.agg #[.bool x, .slice a n c], .int .i64 co]) ∧ AInt w' (.agg #[.bool x, .slice a n c]) z ∧ Hid (PR (bs s) co z) ∧ Below w.heap.size w w' := by
  refine (parse_any s w hl).mono ?_
  rintro e w' ⟨v, c, rfl, hb, hp⟩
  have key : ∃ z, AInt w' v z ∧ PR (bs s) c z := by
    rcases hp with ⟨h1, h2, h3⟩ | ⟨h1, h2⟩
    · exact ⟨0, h3, Or.inl ⟨h1, h2, rfl⟩⟩
    · obtain ⟨h3, h4⟩ := h2.code
      exact ⟨_, h4, Or.inr ⟨h1, h3, rfl⟩⟩
  obtain ⟨z, h1, h2⟩ := key
  obtain ⟨x, a, n, c', rfl⟩ := h1.shape
  exact ⟨x, a, n, c', c, z, rfl, h1, h2, hb⟩
theorem rparse_z (s : ByteArray) (w : World) (hl : s.size ≤ 10000) :
    Calls Try.prog 56 #[.string s] w fun e w' => ∃ x a n c co z, e = .returned (.tuple #[.agg #[.bool x, .slice a n c], .int .i64 co]) ∧ RNum w' (.agg #[.bool x, .slice a n c]) z 400 ∧ Hid (PR (bs s) co z) ∧ Below w.heap.size w w' := by
  refine (rparse_any s w hl).mono ?_
  rintro e w' ⟨v, c, rfl, hb, hp⟩
  have key : ∃ z, RNum w' v z 400 ∧ PR (bs s) c z := by
    rcases hp with ⟨h1, h2, h3⟩ | ⟨h1, h2⟩
    · exact ⟨0, h3, Or.inl ⟨h1, h2, rfl⟩⟩
    · rcases h2 with ⟨a1, a2, a3⟩ | ⟨a1, a2, a3⟩
      · exact ⟨_, a3, Or.inr ⟨h1, by rw [ec_of a2]; exact a1, (hz_of a2).symm⟩⟩
      · exact ⟨0, a3, Or.inr ⟨h1, by rw [ec_not (Nat.not_lt.2 a2)]; exact a1, (if_neg (Nat.not_lt.2 a2)).symm⟩⟩
  obtain ⟨z, h1, h2⟩ := key
  obtain ⟨x, a, n, c', rfl⟩ := h1.shape
  exact ⟨x, a, n, c', c, z, rfl, h1, h2, hb⟩

/-- What two numbers about a stroke are: the code, the rational. -/
def PS (c1 z1 c2 z2 c : Int) (q : Rat) : Prop :=
  ((c1 = 10 ∨ c2 = 10) ∧ c = 10 ∧ q = 0) ∨ (¬ (c1 = 10 ∨ c2 = 10) ∧ ¬ (c1 = 0 ∧ c2 = 0) ∧ c = 11 ∧ q = 0) ∨
  (c1 = 0 ∧ c2 = 0 ∧ (z2 ≤ 1 ∨ Int.gcd z1 z2 ≠ 1) ∧ c = 10 ∧ q = 0) ∨ (c1 = 0 ∧ c2 = 0 ∧ 1 < z2 ∧ Int.gcd z1 z2 = 1 ∧ c = 0 ∧ q.num = z1 ∧ (q.den : Int) = z2)
theorem PS.same {c1 z1 c2 z2 c c' : Int} {q q' : Rat} (h : PS c1 z1 c2 z2 c q) (h' : PS c1 z1 c2 z2 c' q') : c = c' ∧ q = q' := by
  rcases h with ⟨a, b, d⟩ | ⟨a, a2, b, d⟩ | ⟨a, a2, a3, b, d⟩ | ⟨a, a2, a3, a4, b, d, d2⟩ <;> rcases h' with ⟨e, f, g⟩ | ⟨e, e2, f, g⟩ | ⟨e, e2, e3, f, g⟩ | ⟨e, e2, e3, e4, f, g, g2⟩
  · exact ⟨b.trans f.symm, d.trans g.symm⟩
  · exact absurd a e
  · omega
  · omega
  · exact absurd e a
  · exact ⟨b.trans f.symm, d.trans g.symm⟩
  · exact absurd ⟨e, e2⟩ a2
  · exact absurd ⟨e, e2⟩ a2
  · omega
  · exact absurd ⟨a, a2⟩ e2
  · exact ⟨b.trans f.symm, d.trans g.symm⟩
  · omega
  · omega
  · exact absurd ⟨a, a2⟩ e2
  · omega
  · refine ⟨b.trans f.symm, Rat.ext (d.trans g.symm) ?_⟩
    have := d2.trans g2.symm
    omega
/-- What both Parses of a rational answer. -/
def PQ (s : ByteArray) (c : Int) (q : Rat) : Prop :=
  (NoSl s ∧ ∃ z : Int, PR (bs s) c z ∧ q = (z : Rat)) ∨
  (∃ k, Sl s k ∧ ∃ c1 z1 c2 z2, PR (bs (s.extract 0 k)) c1 z1 ∧ PR (bs (s.extract (k + 1) s.size)) c2 z2 ∧ PS c1 z1 c2 z2 c q)
theorem PQ.same {s : ByteArray} {c c' : Int} {q q' : Rat} (h : PQ s c q) (h' : PQ s c' q') : c = c' ∧ q = q' := by
  rcases h with ⟨a, z, b, d⟩ | ⟨k, a, c1, z1, c2, z2, p1, p2, p3⟩ <;> rcases h' with ⟨a', z', b', d'⟩ | ⟨k', a', c1', z1', c2', z2', p1', p2', p3'⟩
  · obtain ⟨e1, e2⟩ := b.same b'
    exact ⟨e1, by rw [d, d', e2]⟩
  · exact (a'.no a).elim
  · exact (a.no a').elim
  · obtain rfl := a.same a'
    obtain ⟨rfl, rfl⟩ := p1.same p1'
    obtain ⟨rfl, rfl⟩ := p2.same p2'
    exact p3.same p3'
theorem size_to (s : ByteArray) (k : Nat) (h : s.size ≤ 10000) : (s.extract 0 k).size ≤ 10000 := by
  rw [← bs_length, bs_extract, List.drop_zero, List.length_take, bs_length]; omega
theorem size_from (s : ByteArray) (k : Nat) (h : s.size ≤ 10000) : (s.extract k s.size).size ≤ 10000 := by
  rw [← bs_length, bs_extract_from, List.length_drop, bs_length]; omega
end Go.Proofs.Ytidpbdhhbeaijab
