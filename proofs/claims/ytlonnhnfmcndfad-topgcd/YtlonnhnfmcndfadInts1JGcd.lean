/- Contracts of arith.gcdWords and From; they prove no statement of the seat. -/
import Derived.Test.YtlonnhnfmcndfadMulJGcd
namespace Go.Proofs.Ytlonnhnfmcndfad
open Go.RowKit

set_option maxHeartbeats 1000000 in
theorem gcdWords_any (a b : Nat) (w : World) (ha : (a : Int) < 18446744073709551616) (hb : (b : Int) < 18446744073709551616) :
    Calls Try.prog 37 #[.int .u64 a, .int .u64 b] w fun e w' => e = .returned (.int .u64 (Nat.gcd a b)) ∧ Below w.heap.size w w' := by
  go_enter Try.func37, Try.ntmps37
  go_wp2
  go_loopw [0, 1] (fun u v wr => ∃ x y : Nat, u = .int .u64 x ∧ v = .int .u64 y ∧ (x : Int) < 18446744073709551616 ∧ (y : Int) < 18446744073709551616 ∧ Hid (Nat.gcd x y = Nat.gcd a b) ∧ Below w.heap.size w wr) (fun _ v _ => (intOf v).toNat)
  case atStart => exact ⟨a, b, rfl, rfl, ha, hb, (rfl : _ = _), Below.refl _ _⟩
  case round =>
    obtain ⟨x, y, rfl, rfl, hx, hy, HG, hbel⟩ := hrel
    by_cases h0 : y = 0
    · have hn : ((y : Int) != 0) = false := by rw [bne_eq_false_iff_eq]; omega
      have HY : Hid (y = 0) := h0
      clear h0
      go_wp2
      go_ret
      refine ⟨?_, hbel⟩
      have h1 := HG.out
      rw [HY.out, Nat.gcd_zero_right] at h1
      rw [h1]
      rfl
    · have hn : ((y : Int) != 0) = true := by rw [bne_iff_ne]; omega
      have hm : x % y < y := Nat.mod_lt _ (by omega)
      have hm' : (x : Int) % (y : Int) < (y : Int) := by rw [← Int.natCast_emod]; omega
      have hm0 : 0 ≤ (x : Int) % (y : Int) := by rw [← Int.natCast_emod]; exact Int.natCast_nonneg _
      go_wp2
      go_region
      go_wp2
      go_roundw
      case rel =>
        refine ⟨y, x % y, rfl, by rw [Int.natCast_emod], hy, by omega, ?_, hbel.drew⟩
        show _ = _
        rw [← HG.out, Nat.gcd_comm, ← Nat.gcd_rec, Nat.gcd_comm]
      case measure => simp [intOf]; omega

theorem words_val (n : Nat) : val 4294967296 [n % 4294967296, n / 4294967296] = n := by
  simp [val]; omega
theorem words_digs (n : Nat) (h : n < 18446744073709551616) : Digs 4294967296 [n % 4294967296, n / 4294967296] :=
  Digs.cons (Nat.mod_lt _ (by decide)) (Digs.cons (by omega) (Digs.nil _))

theorem word_lim : 18446744073709551616 ≤ lim := by decide +kernel

/-- arith's signed of a word's limbs. -/
theorem splitWord_int (n : Nat) (N : Int) (hN : N = (n : Int)) (w : World) (hn : n < 18446744073709551616) :
    Calls Try.prog 32 #[.int .u64 N] w fun e w' => ∃ v, e = .returned v ∧ LimR w' v n 2 ∧ Below w.heap.size w w' := by
  subst hN
  refine (splitWord_any n w (by omega)).mono ?_
  rintro e w' ⟨rfl, hr, hb, _⟩
  refine ⟨_, rfl, ?_, hb⟩
  have h := LimR.row hr (words_digs n hn) 2 2 (Nat.le_refl _) (Nat.le_refl _)
  rw [words_val] at h
  exact h

theorem signed_lim (neg : Bool) (v : Value) (N L : Nat) (w : World) (hv : LimR w v N L) (hL : L ≤ 10000) (hlim : N < lim) :
    Calls Try.prog 31 #[.bool neg, v] w fun e w' => ∃ v', e = .returned v' ∧ AInt w' v' (sv neg N) ∧ Below w.heap.size w w' := by
  obtain ⟨ao, cap, ls, rfl, h1, h2, hs, hd, hn, rfl⟩ := hv
  refine (signed_any neg ao ls.length cap ls w rfl h1 (by omega) hs hd).mono ?_
  rintro e w' ⟨v', neg', rfl, hv', hsv, hb⟩
  refine ⟨v', rfl, ⟨neg', trimZ ls, hv', ?_, by rw [val_trimZ]; exact hlim⟩, hb⟩
  rw [val_trimZ, hsv]

set_option maxHeartbeats 1000000 in
theorem from_any (n : Int) (w : World) (h1 : -9223372036854775808 ≤ n) (h2 : n ≤ 9223372036854775807) :
    Calls Try.prog 17 #[.int .i64 n] w fun e w' => ∃ v, e = .returned v ∧ AInt w' v n ∧ Below w.heap.size w w' := by
  have B0 := Blk.new w 50 #[.bool false, .slice none 0 0]
  by_cases hneg : n < 0
  · go_enter Try.func17, Try.ntmps17
    go_wp2_with fail
    refine (splitWord_int n.natAbs _ (by omega) _ (by omega)).mono ?_
    rintro e w1 ⟨v1, rfl, hl1, hb1⟩
    have B1 := B0.stay hb1
    go_wp2_with fail
    refine (signed_lim true v1 n.natAbs 2 _ hl1 (by decide) (by have := word_lim; omega)).mono ?_
    rintro e w2 ⟨v2, rfl, ha2, hb2⟩
    obtain ⟨x, a, m, c, rfl⟩ := ha2.shape
    have B2 := B1.stay hb2
    obtain ⟨c0, c1, f0, f1⟩ := B2.two
    go_wp2
    refine bodyPost_ret (v := .agg #[.bool x, .slice a m c]) (by simp [results, Try.results17, go_sem, c0, c1]) rfl ?_
    refine ⟨_, rfl, ?_, below_store2 ((((Below.refl _ _).alloc (Nat.le_refl _) _).step hb1 (Nat.le_refl _)).step hb2 (Nat.le_refl _)) (Nat.le_refl _) _ _⟩
    have e : sv true n.natAbs = n := by simp [sv]; omega
    rw [e] at ha2
    exact ha2.store2 B2 _ _ _ _
  · go_enter Try.func17, Try.ntmps17
    go_wp2_with fail
    refine (splitWord_int n.natAbs _ (by omega) _ (by omega)).mono ?_
    rintro e w1 ⟨v1, rfl, hl1, hb1⟩
    have B1 := B0.stay hb1
    go_wp2_with fail
    refine (signed_lim false v1 n.natAbs 2 _ hl1 (by decide) (by have := word_lim; omega)).mono ?_
    rintro e w2 ⟨v2, rfl, ha2, hb2⟩
    obtain ⟨x, a, m, c, rfl⟩ := ha2.shape
    have B2 := B1.stay hb2
    obtain ⟨c0, c1, f0, f1⟩ := B2.two
    go_wp2
    refine bodyPost_ret (v := .agg #[.bool x, .slice a m c]) (by simp [results, Try.results17, go_sem, c0, c1]) rfl ?_
    refine ⟨_, rfl, ?_, below_store2 ((((Below.refl _ _).alloc (Nat.le_refl _) _).step hb1 (Nat.le_refl _)).step hb2 (Nat.le_refl _)) (Nat.le_refl _) _ _⟩
    have e : sv false n.natAbs = n := by simp [sv]; omega
    rw [e] at ha2
    exact ha2.store2 B2 _ _ _ _
end Go.Proofs.Ytlonnhnfmcndfad
