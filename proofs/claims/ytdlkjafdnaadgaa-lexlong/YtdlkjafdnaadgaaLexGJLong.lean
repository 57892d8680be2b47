/- The document's small functions: a list of texts, spans, what is passed over, signs. No statement of the seat is proved here. -/
import Derived.Test.YtdlkjafdnaadgaaLexFJLong
namespace Go.Proofs.Ytdlkjafdnaadgaa
open Go.RowKit
set_option linter.unusedVariables false
set_option linter.unusedSimpArgs false
namespace Lex
open Euf (OL App Stop wpList_push)

theorem not_both {c : UInt8} (h : isL c = true) : isD c = false ∧ isB c = false := by
  unfold isL at h; unfold isD isB
  simp at h ⊢
  omega
theorem not_both2 {c : UInt8} (h : isD c = true) : isL c = false ∧ isB c = false := by
  unfold isD at h; unfold isL isB
  simp at h ⊢
  omega
theorem kd1 {c : UInt8} (h : isL c = true) : kd c = 1 := by simp [kd, h]
theorem kd2 {c : UInt8} (h : isD c = true) : kd c = 2 := by simp [kd, h, (not_both2 h).1]
theorem kd3 {c : UInt8} (h : isB c = true) : kd c = 3 := by
  have h1 : isL c = false := by cases h' : isL c; rfl; rw [(not_both h').2] at h; cases h
  have h2 : isD c = false := by cases h' : isD c; rfl; rw [(not_both2 h').2] at h; cases h
  simp [kd, h, h1, h2]
theorem kd0 {c : UInt8} (h1 : isL c = false) (h2 : isD c = false) (h3 : isB c = false) : kd c = 0 := by simp [kd, h1, h2, h3]
def spB (b : Bool) (l : List UInt8) : Nat := if b then spW l else spN l

set_option maxHeartbeats 1000000 in
theorem span_any (s : ByteArray) (p : Nat) (b : Bool) (w : World) (hp : p ≤ s.size) (hs : s.size ≤ 9223372036854775807) :
    Calls Try.prog 23 #[.string s, .int .i64 (p : Int), .bool b] w fun e w' => e = .returned (.int .i64 ((p + spB b ((bs s).drop p) : Nat) : Int)) ∧ w' = w := by
  obtain ⟨G, HG⟩ : ∃ G : Nat, Hid (p + spB b ((bs s).drop p) = G) := ⟨_, rfl⟩
  have HG' := HG.out
  rw [HG']
  clear HG'
  cases b
  · go_enter Try.func23, Try.ntmps23
    go_wp2
    go_loop [1] (fun i => ∃ k : Nat, k ≤ s.size ∧ i = .int .i64 k ∧ Hid (k + spB false ((bs s).drop k) = G)) (fun i => s.size - (intOf i).toNat)
    case atStart => exact ⟨p, hp, rfl, HG⟩
    case round =>
      obtain ⟨k, hk, rfl, hG⟩ := hrel
      by_cases hlt : k < s.size
      · have hx := bs_drop s k hlt
        by_cases c2 : isD (s[k]'hlt) = true
        · have hn : Hid (k + 1 + spB false ((bs s).drop (k + 1)) = G) := by
            have := hG.out
            simp only [spB, Bool.false_eq_true, if_false] at this ⊢
            rw [hx, spN_cons c2] at this
            exact (show k + 1 + _ = G by omega)
          have hk2 := kd2 c2
          clear hx
          go_wp2_with (go_at_call 22; refine (kind_any _ _).mono ?_; rintro e w' ⟨rfl, rfl⟩; rw [hk2])
          go_round
          case rel => exact ⟨k + 1, by omega, by go_num, hn⟩
          case measure => simp [intOf]; omega
        · have c2' : isD (s[k]'hlt) = false := by simpa using c2
          have hn : Hid (k = G) := by
            have := hG.out
            simp only [spB, Bool.false_eq_true, if_false] at this
            rw [hx, spN_stop c2'] at this
            exact this
          have hk2 : (kd (s[k]'hlt) == 2) = false := by
            unfold kd
            rw [c2']
            cases isL (s[k]'hlt) <;> cases isB (s[k]'hlt) <;> rfl
          clear hx c2
          go_wp2_with (go_at_call 22; refine (kind_any _ _).mono ?_; rintro e w' ⟨rfl, rfl⟩)
          go_ret
          exact ⟨by rw [← hn.out]; rfl, rfl⟩
      · have hn : Hid (k = G) := by
          have := hG.out
          rw [drop_all s k (by omega)] at this
          exact this
        go_wp2
        go_ret
        exact ⟨by rw [← hn.out]; rfl, rfl⟩
  · go_enter Try.func23, Try.ntmps23
    go_wp2
    go_loop [1] (fun i => ∃ k : Nat, k ≤ s.size ∧ i = .int .i64 k ∧ Hid (k + spB true ((bs s).drop k) = G)) (fun i => s.size - (intOf i).toNat)
    case atStart => exact ⟨p, hp, rfl, HG⟩
    case round =>
      obtain ⟨k, hk, rfl, hG⟩ := hrel
      by_cases hlt : k < s.size
      · have hx := bs_drop s k hlt
        by_cases c1 : isLD (s[k]'hlt) = true
        · have hn : Hid (k + 1 + spB true ((bs s).drop (k + 1)) = G) := by
            have := hG.out
            simp only [spB, if_true] at this ⊢
            rw [hx, spW_cons c1] at this
            exact (show k + 1 + _ = G by omega)
          clear hx
          have c3 : kd (s[k]'hlt) = 2 ∨ kd (s[k]'hlt) = 1 := by
            simp only [isLD, Bool.or_eq_true] at c1
            rcases c1 with c1 | c1
            · exact Or.inr (kd1 c1)
            · exact Or.inl (kd2 c1)
          rcases c3 with c3 | c3
          all_goals
            go_wp2_with (go_at_call 22; refine (kind_any _ _).mono ?_; rintro e w' ⟨rfl, rfl⟩; rw [c3])
            go_round
            case rel => exact ⟨k + 1, by omega, by go_num, hn⟩
            case measure => simp [intOf]; omega
        · have c1' : isLD (s[k]'hlt) = false := by simpa using c1
          have hn : Hid (k = G) := by
            have := hG.out
            simp only [spB, if_true] at this
            rw [hx, spW_stop c1'] at this
            exact this
          have c4 : isL (s[k]'hlt) = false ∧ isD (s[k]'hlt) = false := by simpa [isLD] using c1'
          have hk2 : (kd (s[k]'hlt) == 2) = false := by
            unfold kd
            rw [c4.1, c4.2]
            cases isB (s[k]'hlt) <;> rfl
          have hk1 : (kd (s[k]'hlt) == 1) = false := by
            unfold kd
            rw [c4.1, c4.2]
            cases isB (s[k]'hlt) <;> rfl
          clear hx c1 c1' c4
          go_wp2_with (go_at_call 22; refine (kind_any _ _).mono ?_; rintro e w' ⟨rfl, rfl⟩)
          go_ret
          exact ⟨by rw [← hn.out]; rfl, rfl⟩
      · have hn : Hid (k = G) := by
          have := hG.out
          rw [drop_all s k (by omega)] at this
          exact this
        go_wp2
        go_ret
        exact ⟨by rw [← hn.out]; rfl, rfl⟩

/-- A list of texts. -/
def sC (xs : List (List UInt8)) (i : Nat) : List Value := [.string (tx (xs.getD i []))]
def SL (w : World) (v : Value) (xs : List (List UInt8)) : Prop := OL 1 9 w v xs.length (sC xs)
theorem SL.new (w : World) (xs : List (List UInt8)) (h : xs.length ≤ 100) :
    SL (w.alloc (.cells (xs.map fun x => Value.string (tx x)).toArray 9 (0, 0))) (.slice (some ⟨w.heap.size, 0, none⟩) xs.length xs.length) xs := by
  refine Or.inr ⟨w.heap.size, xs.length, _, rfl, heap_alloc_new w _, Nat.le_refl _, by unfold maxLen; omega, by simp, fun i hi j hj => ?_⟩
  obtain rfl : j = 0 := by omega
  simp [sC, hi]
theorem eqTT (s t : ByteArray) : (s.toList == t.toList) = decide (bs s = bs t) := by
  rw [show t.toList = bs t by simp [ByteArray.toList_eq, bs]]; exact eqT s _
set_option maxHeartbeats 1000000 in
theorem in_any (v : Value) (xs : List (List UInt8)) (s : ByteArray) (w : World) (h : SL w v xs) :
    Calls Try.prog 25 #[v, .string s] w fun e w' => e = .returned (.bool (decide (bs s ∈ xs))) ∧ w' = w := by
  obtain ⟨a, c, hv, hc1, hc2, -, -⟩ := h.shape
  have hm : xs.length ≤ 9223372036854775807 := by unfold maxLen at hc2; omega
  subst hv
  have HL := hide h
  clear h
  obtain ⟨B, hB⟩ : ∃ B : Bool, Hid (decide (bs s ∈ xs) = B) := ⟨_, rfl⟩
  have hB' := hB.out
  rw [hB']
  clear hB'
  go_enter Try.func25, Try.ntmps25
  go_wp2
  go_loop [5] (fun i => ∃ k : Nat, k ≤ xs.length ∧ i = .int .i64 k ∧ Hid (∀ j, j < k → xs[j]? ≠ some (bs s))) (fun i => xs.length - (intOf i).toNat)
  case atStart => exact ⟨0, Nat.zero_le _, rfl, fun j hj => absurd hj (Nat.not_lt_zero _)⟩
  case round =>
    obtain ⟨k, hk, rfl, hN⟩ := hrel
    by_cases hlt : k < xs.length
    · obtain ⟨g, cap, hv, hcap1, hcap2⟩ := HL.out.open k hlt
      simp only [Value.slice.injEq] at hv
      obtain ⟨rfl, -, rfl⟩ := hv
      have hcell := HL.out.cell (i := k) (j := 0) hlt (by decide)
      simp only [Nat.mul_one, Nat.add_zero, sC, List.getElem?_cons_zero] at hcell
      have hq := eqTT (tx (xs.getD k [])) s
      rw [bs_tx] at hq
      have hgx : xs[k]? = some (xs.getD k []) := by simp [hlt]
      generalize xs.getD k [] = x at hcell hq hgx
      by_cases hxe : x = bs s
      · rw [decide_eq_true hxe] at hq
        have hb : Hid (true = B) := by rw [← hB.out]; exact (decide_eq_true (by rw [← hxe]; exact List.mem_of_getElem? hgx)).symm
        clear hxe hgx
        go_wp2
        go_ret
        exact ⟨by rw [← hb.out]; rfl, rfl⟩
      · rw [decide_eq_false hxe] at hq
        have hN2 : Hid (∀ j, j < k + 1 → xs[j]? ≠ some (bs s)) := fun j hj => by
          by_cases e : j = k
          · subst e; rw [hgx]; intro k2; injection k2 with k2; exact hxe k2
          · exact hN.out j (by omega)
        clear hxe hgx
        go_wp2
        go_round
        case rel => exact ⟨k + 1, by omega, by go_num, hN2⟩
        case measure => simp [intOf]; omega
    · have hb : Hid (false = B) := by
        rw [← hB.out]
        refine (decide_eq_false fun hm => ?_).symm
        obtain ⟨j, hj, e⟩ := List.mem_iff_getElem.1 hm
        exact hN.out j (by omega) (by rw [List.getElem?_eq_getElem hj, e])
      go_wp2
      go_ret
      exact ⟨by rw [← hb.out]; rfl, rfl⟩
end Lex
end Go.Proofs.Ytdlkjafdnaadgaa
