/- Contracts of strings.CutPrefix, arith.isPlain and arith.readDigits; they prove no statement of the seat. -/
import Derived.Test.YteaejdcnpjhpoabScale
namespace Go.Proofs.Yteaejdcnpjhpoab
open Go.RowKit

/-- A text's bytes, as numbers. -/
def bs (s : ByteArray) : List Nat := s.data.toList.map UInt8.toNat

theorem bs_length (s : ByteArray) : (bs s).length = s.size := by
  simp only [bs, List.length_map, Array.length_toList]; rfl
theorem bs_get (s : ByteArray) (k : Nat) (h : k < s.size) : (s[k]'h).toNat = (bs s).getD k 0 := by
  have h' : k < s.data.toList.length := by rw [Array.length_toList]; exact h
  rw [bs, List.getD_eq_getElem?_getD, List.getElem?_map, List.getElem?_eq_getElem h']
  rfl
theorem bs_inj {s t : ByteArray} (h : bs s = bs t) : s = t := by
  have h1 : s.data.toList = t.data.toList := by
    unfold bs at h
    exact List.map_inj_right (fun a b e => UInt8.toNat_inj.1 e) |>.1 h
  cases s; cases t
  congr 1
  exact Array.toList_inj.1 h1
theorem bs_lt (s : ByteArray) (i : Nat) : (bs s).getD i 0 < 256 := by
  rw [List.getD_eq_getElem?_getD]
  cases h : (bs s)[i]? with
  | none => simp
  | some y =>
    obtain ⟨a, _, rfl⟩ := List.mem_map.1 (List.mem_of_getElem? h)
    simpa using a.toNat_lt

theorem bs_extract (s : ByteArray) (a b : Nat) : bs (s.extract a b) = ((bs s).take b).drop a := by
  simp only [bs, ByteArray.data_extract, Array.toList_extract, List.extract_eq_take_drop, List.map_drop, List.map_take]
  rw [List.drop_take]
theorem bs_extract_from (s : ByteArray) (a : Nat) : bs (s.extract a s.size) = (bs s).drop a := by
  rw [bs_extract, ← bs_length, List.take_length]

/-- Digits alone, none ahead of others a nought. -/
def Plain (l : List Nat) : Prop := 0 < l.length ∧ ¬ (l.getD 0 0 = 48 ∧ 1 < l.length) ∧ ∀ i, i < l.length → 48 ≤ l.getD i 0 ∧ l.getD i 0 ≤ 57
def AllDig (l : List Nat) (k : Nat) : Prop := ∀ i, i < k → 48 ≤ l.getD i 0 ∧ l.getD i 0 ≤ 57

set_option maxHeartbeats 400000 in
theorem isPlain_yes (s : ByteArray) (w : World) (hl : s.size ≤ 10000) (hp : Plain (bs s)) :
    Calls Try.prog 42 #[.string s] w fun e w' => e = .returned (.bool true) ∧ w' = w := by
  have HP : Hid (Plain (bs s)) := hp
  obtain ⟨h1, h2, h3⟩ := hp
  rw [bs_length] at h1 h2 h3
  have hz : ((s.size : Int) == 0) = false := by rw [beq_eq_false_iff_ne]; omega
  have h0 := bs_get s 0 h1
  have hcase : ((((s[0]'h1).toNat : Int) == 48) = true ∧ ¬ 1 < s.size) ∨ (((s[0]'h1).toNat : Int) == 48) = false := by
    by_cases e : (s[0]'h1).toNat = 48
    · left; exact ⟨by simp [e], fun h => h2 ⟨h0 ▸ e, h⟩⟩
    · right; rw [beq_eq_false_iff_ne]; omega
  have HA : Hid (∀ i, i < s.size → 48 ≤ (bs s).getD i 0 ∧ (bs s).getD i 0 ≤ 57) := h3
  clear h0 h2 h3
  rcases hcase with ⟨hf, hs⟩ | hf
  all_goals
    go_enter Try.func42, Try.ntmps42
    go_wp2
    go_loop [19] (fun i => ∃ k : Nat, k ≤ s.size ∧ i = .int .i64 k) (fun i => s.size - (intOf i).toNat)
    case atStart => exact ⟨0, by omega, rfl⟩
    case round =>
      obtain ⟨k, hk, rfl⟩ := hrel
      by_cases hlt : k < s.size
      · have hx := bs_get s k hlt
        have ha := HA.out k hlt
        rw [← hx] at ha
        obtain ⟨ha1, ha2⟩ := ha
        clear hx
        go_wp2
        go_round
        case rel => exact ⟨k + 1, by omega, by go_num⟩
        case measure => simp [intOf]; omega
      · go_wp2
        go_ret
        exact ⟨rfl, rfl⟩
set_option maxHeartbeats 400000 in
theorem isPlain_no (s : ByteArray) (w : World) (hl : s.size ≤ 10000) (hp : ¬ Plain (bs s)) :
    Calls Try.prog 42 #[.string s] w fun e w' => e = .returned (.bool false) ∧ w' = w := by
  by_cases h1 : 0 < s.size
  · have hz : ((s.size : Int) == 0) = false := by rw [beq_eq_false_iff_ne]; omega
    have h0 := bs_get s 0 h1
    by_cases h2 : (s[0]'h1).toNat = 48 ∧ 1 < s.size
    · obtain ⟨e1, e2⟩ := h2
      have hf : (((s[0]'h1).toNat : Int) == 48) = true := by simp [e1]
      clear e1 h0 hp
      go_enter Try.func42, Try.ntmps42
      go_wp2
      go_ret
      exact ⟨rfl, rfl⟩
    · have hcase : ((((s[0]'h1).toNat : Int) == 48) = true ∧ ¬ 1 < s.size) ∨ (((s[0]'h1).toNat : Int) == 48) = false := by
        by_cases e : (s[0]'h1).toNat = 48
        · left; exact ⟨by simp [e], fun h => h2 ⟨e, h⟩⟩
        · right; rw [beq_eq_false_iff_ne]; omega
      have HA : Hid (¬ AllDig (bs s) s.size) := by
        intro h
        refine hp ⟨by rw [bs_length]; exact h1, ?_, by rw [bs_length]; exact h⟩
        rw [bs_length, ← h0]; exact h2
      clear h0 h2 hp
      rcases hcase with ⟨hf, hs⟩ | hf
      all_goals
        go_enter Try.func42, Try.ntmps42
        go_wp2
        go_loop [19] (fun i => ∃ k : Nat, k ≤ s.size ∧ i = .int .i64 k ∧ Hid (AllDig (bs s) k)) (fun i => s.size - (intOf i).toNat)
        case atStart => exact ⟨0, by omega, rfl, fun i hi => by omega⟩
        case round =>
          obtain ⟨k, hk, rfl, hAD⟩ := hrel
          by_cases hlt : k < s.size
          · have hx := bs_get s k hlt
            have HX : Hid ((s[k]'hlt).toNat = (bs s).getD k 0) := hx
            clear hx
            by_cases hd : 48 ≤ (s[k]'hlt).toNat ∧ (s[k]'hlt).toNat ≤ 57
            · obtain ⟨ha1, ha2⟩ := hd
              go_wp2
              go_round
              case rel =>
                refine ⟨k + 1, by omega, by go_num, fun i hi => ?_⟩
                by_cases e : i = k
                · subst e; rw [← HX.out]; exact ⟨ha1, ha2⟩
                · exact hAD.out i (by omega)
              case measure => simp [intOf]; omega
            · by_cases hd1 : 48 ≤ (s[k]'hlt).toNat
              · have hd2 : ¬ (s[k]'hlt).toNat ≤ 57 := fun h => hd ⟨hd1, h⟩
                clear hd
                go_wp2
                go_ret
                exact ⟨rfl, rfl⟩
              · clear hd
                go_wp2
                go_ret
                exact ⟨rfl, rfl⟩
          · have hk' : k = s.size := by omega
            exact absurd (hk' ▸ hAD.out) HA.out
  · have hs : s = ByteArray.empty := by
      apply bs_inj
      apply List.eq_nil_of_length_eq_zero
      rw [bs_length]; omega
    subst hs
    go_enter Try.func42, Try.ntmps42
    go_wp2
    go_ret
    exact ⟨rfl, rfl⟩

theorem toList_beq (a : ByteArray) (l : List UInt8) : (a.toList == l) = decide (bs a = l.map UInt8.toNat) := by
  rw [ByteArray.toList_eq, Bool.eq_iff_iff, beq_iff_eq, decide_eq_true_iff]
  constructor
  · intro h; rw [bs, h]
  · intro h; exact (List.map_inj_right (fun a b e => UInt8.toNat_inj.1 e)).1 h

theorem toList_beq' (a b : ByteArray) : (a.toList == b.toList) = decide (bs a = bs b) := by
  rw [toList_beq, ByteArray.toList_eq b]; rfl

theorem toList_one (s : ByteArray) (h : 1 ≤ s.size) : ((s.extract 0 1).toList == [45]) = ((bs s).getD 0 0 == 45) := by
  rw [toList_beq, bs_extract, List.drop_zero]
  have hl : 1 ≤ (bs s).length := by rw [bs_length]; exact h
  cases e : bs s with
  | nil => rw [e] at hl; simp at hl
  | cons x r => simp; rfl

set_option maxHeartbeats 400000 in
theorem cut_yes (s : ByteArray) (w : World) (hl : s.size ≤ 10000) (h0 : 1 ≤ s.size) (h1 : (bs s).getD 0 0 = 45) :
    Calls Try.prog 41 #[.string s, .string ⟨#[45]⟩] w fun e w' => e = .returned (.tuple #[.string (s.extract 1 s.size), .bool true]) ∧ w' = w := by
  have h2 : ((s.extract 0 1).toList == [45]) = true := by rw [toList_one s h0, h1]; rfl
  clear h1
  go_enter Try.func41, Try.ntmps41
  go_wp2
  go_ret2
  exact ⟨rfl, rfl⟩

set_option maxHeartbeats 400000 in
theorem cut_no (s : ByteArray) (w : World) (hl : s.size ≤ 10000) (h1 : ¬ (1 ≤ s.size ∧ (bs s).getD 0 0 = 45)) :
    Calls Try.prog 41 #[.string s, .string ⟨#[45]⟩] w fun e w' => e = .returned (.tuple #[.string s, .bool false]) ∧ w' = w := by
  by_cases h0 : 1 ≤ s.size
  · have h2 : ((s.extract 0 1).toList == [45]) = false := by
      rw [toList_one s h0, beq_eq_false_iff_ne]; exact fun e => h1 ⟨h0, e⟩
    clear h1
    go_enter Try.func41, Try.ntmps41
    go_wp2
    go_ret2
    exact ⟨rfl, rfl⟩
  · clear h1
    go_enter Try.func41, Try.ntmps41
    go_wp2
    go_ret2
    exact ⟨rfl, rfl⟩

/-- The number that decimal digits write, the highest first. -/
def dec (l : List Nat) : Nat := l.foldl (fun a c => a * 10 + (c - 48)) 0
theorem dec_snoc (l : List Nat) (c : Nat) : dec (l ++ [c]) = dec l * 10 + (c - 48) := by simp [dec]
theorem pow10_step (j : Nat) (h : j ≤ 8) : (10 ^ j * 10 = 1000000000 ∧ j = 8) ∨ (10 ^ j * 10 ≤ 100000000 ∧ j < 8) := by
  have h' : ∀ j : Fin 9, (10 ^ j.val * 10 = 1000000000 ∧ j.val = 8) ∨ (10 ^ j.val * 10 ≤ 100000000 ∧ j.val < 8) := by decide
  exact h' ⟨j, by omega⟩
theorem dec_step (L p c d D : Nat) (h : L * p + c = D) : L * (p * 10) + (c * 10 + d) = D * 10 + d := by
  subst h
  rw [Nat.add_mul, ← Nat.mul_assoc]; omega
end Go.Proofs.Yteaejdcnpjhpoab
