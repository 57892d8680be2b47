/- Contracts of arith's Small; they prove no statement of the seat. -/
import Derived.Test.YteaejdcnpjhpoaaRFrom
namespace Go.Proofs.Yteaejdcnpjhpoaa
open Go.RowKit

theorem len_two {xs : List Nat} (hn : Norm xs) (hv : val 4294967296 xs < 18446744073709551616) : xs.length ≤ 2 := by
  rcases Nat.lt_or_ge 2 xs.length with h | h
  · have h1 := hn.ge (B := 4294967296) (List.ne_nil_of_length_pos (by omega)) (by decide)
    have h2 : 4294967296 ^ 2 ≤ 4294967296 ^ (xs.length - 1) := Nat.pow_le_pow_right (by decide) (by omega)
    omega
  · exact h
theorem two_len {xs : List Nat} (hd : Digs 4294967296 xs) (h : xs.length ≤ 2) : val 4294967296 xs < 18446744073709551616 := by
  have h1 := val_lt hd
  have h2 : 4294967296 ^ xs.length ≤ 4294967296 ^ 2 := Nat.pow_le_pow_right (by decide) h
  omega

set_option maxHeartbeats 2000000 in
theorem small_in (va : Value) (x : Int) (w : World) (ha : AInt w va x) (h1 : -9223372036854775808 ≤ x) (h2 : x ≤ 9223372036854775807) :
    Calls Try.prog 37 #[va] w fun e w' => e = .returned (.tuple #[.int .i64 x, .bool true]) ∧ Below w.heap.size w w' := by
  obtain ⟨neg, xs, hv, hx, hl⟩ := ha
  obtain ⟨ao, cap, rfl, g1, g2, hs, hd, hn, h3⟩ := hv
  have hab : val 4294967296 xs = x.natAbs := by rw [hx, sv_natAbs]
  have hlen : xs.length ≤ 2 := len_two hn (by omega)
  have hlen' : (xs.length : Int) ≤ 2 := by omega
  obtain ⟨W, hW⟩ : ∃ W, W = val 4294967296 xs := ⟨_, rfl⟩
  have hbw : Below w.heap.size w (w.alloc (.cells #[.bool neg, .slice ao xs.length cap] 25 (0, 0))) := by go_grown
  have HJ : Hid (∀ w', Below w.heap.size w w' → Calls Try.prog 67 #[.slice ao xs.length cap] w' fun e w'' => e = .returned (.int .u64 W) ∧ w'' = w') := by
    intro w' hb
    rw [hW]
    exact joinWord_any ao xs.length cap xs w' rfl hlen (hs.below hb) hd
  have HXW : Hid (x = sv neg W) := by show _ = _; rw [hW]; exact hx
  have hWx : W = x.natAbs := by rw [hW]; exact hab
  have hneg0 : neg = true → 0 < W := by
    intro h
    rw [hW]
    refine (hn.pos (B := 4294967296) (List.ne_nil_of_length_pos ?_)).resolve_right (by decide)
    rcases Nat.eq_zero_or_pos xs.length with k | k
    · rw [h3 k] at h; cases h
    · exact k
  clear hab hW hx hl h3 hs hd hn hlen
  cases neg with
  | false =>
    have hW2 : (W : Int) ≤ 9223372036854775807 := by have := HXW.out; simp [sv] at this; omega
    clear hneg0 hWx
    go_enter Try.func37, Try.ntmps37
    go_wp2_with (go_at_call 67; refine (HJ.out _ hbw).mono ?_; rintro e w1 ⟨rfl, rfl⟩)
    go_ret2
    exact ⟨by rw [HXW.out]; simp [sv], hbw⟩
  | true =>
    have hW1 : 1 ≤ (W : Int) := by have := hneg0 rfl; omega
    have hW2 : (W : Int) ≤ 9223372036854775808 := by omega
    clear hneg0 hWx
    go_enter Try.func37, Try.ntmps37
    go_wp2_with (go_at_call 67; refine (HJ.out _ hbw).mono ?_; rintro e w1 ⟨rfl, rfl⟩)
    go_ret2
    refine ⟨?_, hbw⟩
    rw [HXW.out]
    simp [sv]
    try omega

set_option maxRecDepth 20000 in
set_option maxHeartbeats 2000000 in
theorem small_out (va : Value) (x : Int) (w : World) (ha : AInt w va x) (h : x < -9223372036854775808 ∨ 9223372036854775807 < x) :
    Calls Try.prog 37 #[va] w fun e w' => e = .returned (.tuple #[.int .i64 0, .bool false]) ∧ Below w.heap.size w w' := by
  obtain ⟨neg, xs, hv, hx, hl⟩ := ha
  obtain ⟨ao, cap, rfl, g1, g2, hs, hd, hn, h3⟩ := hv
  have hab : val 4294967296 xs = x.natAbs := by rw [hx, sv_natAbs]
  have hbw : Below w.heap.size w (w.alloc (.cells #[.bool neg, .slice ao xs.length cap] 25 (0, 0))) := by go_grown
  by_cases hlen : xs.length ≤ 2
  · have hlen' : (xs.length : Int) ≤ 2 := by omega
    obtain ⟨W, hW⟩ : ∃ W, W = val 4294967296 xs := ⟨_, rfl⟩
    have HJ : Hid (∀ w', Below w.heap.size w w' → Calls Try.prog 67 #[.slice ao xs.length cap] w' fun e w'' => e = .returned (.int .u64 W) ∧ w'' = w') := by
      intro w' hb
      rw [hW]
      exact joinWord_any ao xs.length cap xs w' rfl hlen (hs.below hb) hd
    have HXW : Hid (x = sv neg W) := by show _ = _; rw [hW]; exact hx
    have HW3 : Hid ((W : Int) ≤ 18446744073709551615) := by show _ ≤ _; rw [hW]; have := two_len hd hlen; omega
    clear hab hW hx hl h3 hs hd hn hlen
    cases neg with
    | false =>
      have hW2 : decide ((W : Int) ≤ 9223372036854775807) = false := by rw [decide_eq_false_iff_not]; have := HXW.out; simp [sv] at this; omega
      clear h
      go_enter Try.func37, Try.ntmps37
      go_wp2_with (go_at_call 67; refine (HJ.out _ hbw).mono ?_; rintro e w1 ⟨rfl, rfl⟩)
      go_ret2
      exact ⟨rfl, hbw⟩
    | true =>
      have hW1 : 1 ≤ (W : Int) := by have := HXW.out; simp [sv] at this; omega
      have hW3 := HW3.out
      have hW2 : decide ((W : Int) - 1 ≤ 9223372036854775807) = false := by rw [decide_eq_false_iff_not]; have := HXW.out; simp [sv] at this; omega
      clear h
      go_enter Try.func37, Try.ntmps37
      go_wp2_with (go_at_call 67; refine (HJ.out _ hbw).mono ?_; rintro e w1 ⟨rfl, rfl⟩)
      go_ret2
      exact ⟨rfl, hbw⟩
  · have hlen' : 2 < (xs.length : Int) := by omega
    go_enter Try.func37, Try.ntmps37
    go_wp2
    go_ret2
    exact ⟨rfl, hbw⟩
end Go.Proofs.Yteaejdcnpjhpoaa
