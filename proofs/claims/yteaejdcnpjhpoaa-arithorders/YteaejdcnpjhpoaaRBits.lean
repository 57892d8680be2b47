/- Contract of suretyref01's Bits; it proves no statement of the seat. -/
import Derived.Test.YteaejdcnpjhpoaaRSmall
namespace Go.Proofs.Yteaejdcnpjhpoaa
open Go.RowKit

theorem rcmp_r (ao bo : Option Addr) (n m cap cap' : Nat) (xs ys : List Nat) (r : Int) (w : World) (hn : xs.length = n) (hm : ys.length = m) (h1 : n ≤ 100000) (h2 : m ≤ 100000) (hs : Seg .i64 w ao xs) (ht : Seg .i64 w bo ys) (hdx : Digs 10 xs) (hdy : Digs 10 ys) (hr : cmpL 10 xs ys = r) :
    Calls Try.prog 62 #[.slice ao n cap, .slice bo m cap'] w fun e w' => e = .returned (.int .i64 r) ∧ Below w.heap.size w w' := by
  subst hr
  exact rcmp_any ao bo n m cap cap' xs ys w hn hm h1 h2 hs ht hdx hdy

theorem ten_two (L : Nat) : 10 ^ L ≤ 2 ^ (4 * L) := by
  rw [Nat.pow_mul]
  exact Nat.pow_le_pow_left (by decide) L

theorem two_below {k len v : Nat} (h1 : v < 10 ^ len) (hl : len ≤ 400) (h : 2 ^ k ≤ v) : k < 1600 := by
  have a := ten_two len
  have b : 2 ^ k < 2 ^ (4 * len) := by omega
  have := (Nat.pow_lt_pow_iff_right (by decide)).1 b
  omega

theorem cmp_le {xs ys : List Nat} (dx : Digs 10 xs) (dy : Digs 10 ys) (nx : Norm xs) (ny : Norm ys) : cmpL 10 xs ys ≤ 0 ↔ val 10 xs ≤ val 10 ys := by
  rw [cmpL_norm (by decide) dx dy nx ny]
  constructor
  · intro h
    rcases Nat.lt_or_ge (val 10 ys) (val 10 xs) with k | k
    · rw [Int.sign_eq_one_of_pos (by omega)] at h; omega
    · exact k
  · intro h
    exact sign_le (by omega)

set_option maxHeartbeats 4000000 in
theorem rbits_any (va : Value) (x : Int) (w : World) (ha : RNum w va x 400) :
    Calls Try.prog 30 #[va] w fun e w' => ∃ n : Nat, e = .returned (.int .i64 n) ∧ (x.natAbs < 2 ^ n ∧ ∀ m, m < n → 2 ^ m ≤ x.natAbs) ∧ Below w.heap.size w w' := by
  obtain ⟨neg, ds, ⟨ao, cap, rfl, g1, g2, g3, hs, hd, hn, g4⟩, hx, hl⟩ := ha
  have HX : Hid (x.natAbs = val 10 ds) := by show _ = _; rw [hx, sv_natAbs]
  have X0 := Blk.new w 31 #[.bool neg, .slice ao ds.length cap]
  have hl0 := Own.lit (w.alloc (.cells #[.bool neg, .slice ao ds.length cap] 31)) .i64 3 [1] (w.heap.size + 1) (by simp) (by decide)
  have HND : Hid (Norm ds) := hn
  have hb0 : Below w.heap.size w (w.alloc (.cells #[.bool neg, .slice ao ds.length cap] 31)) := below_new _ _
  clear hx g4 g3 hn
  go_enter Try.func30, Try.ntmps30
  go_wp2
  go_loopw [3, 4] (fun nv v wr => ∃ k : Nat, ∃ zs, nv = .int .i64 k ∧ Own .i64 3 (w.heap.size + 1) wr v zs ∧ Digs 10 zs ∧ Hid (Norm zs) ∧ Hid (val 10 zs = 2 ^ k) ∧ Hid (zs.length ≤ k + 1) ∧ Hid (∀ m, m < k → 2 ^ m ≤ val 10 ds) ∧ (k : Int) ≤ 1600 ∧ Below (w.heap.size + 1) (w.alloc (.cells #[.bool neg, .slice ao ds.length cap] 31)) wr) (fun nv _ _ => 2000 - (intOf nv).toNat)
  case atStart => 
    refine ⟨0, [1], rfl, ?_, Digs.cons (by decide) (Digs.nil _), (rfl : _ = _), (rfl : _ = _), (Nat.le_refl _ : _ ≤ _), (fun m hm => by omega : ∀ m, m < 0 → 2 ^ m ≤ val 10 ds), by decide, (Below.refl _ _).alloc (by simp) _⟩
    simpa using hl0
  case round =>
    obtain ⟨k, zs, rfl, hown, hdz, HNM, HV, HLEN, HM, hk, hbel⟩ := hrel
    obtain ⟨bo, capb, rfl, q1, q2, hsz, q3⟩ := hown.open
    have X1 := X0.keep hbel (by omega)
    obtain ⟨x0, x1, -, -⟩ := X1.two
    have hbw : Below w.heap.size w wr := hb0.trans (hbel.mono (by omega))
    have hs1 := hs.below hbw
    have HZ : Hid (zs.length ≤ 10000) := by show _ ≤ _; have := HLEN.out; omega
    have HSZ : Hid (w.heap.size + 1 ≤ wr.heap.size) := by have := hbel.size; simp at this; exact this
    obtain ⟨r, hr⟩ : ∃ r, cmpL 10 zs ds = r := ⟨_, rfl⟩
    have HR : Hid (cmpL 10 zs ds = r) := hr
    have hcl := cmp_le hdz hd HNM.out HND.out
    rw [hr, HV.out] at hcl
    clear hr
    by_cases h0 : 2 ^ k ≤ val 10 ds
    · have hr0 : r ≤ 0 := hcl.2 h0
      have H0 : Hid (2 ^ k ≤ val 10 ds) := h0
      have hk2 : (k : Int) < 1600 := by have := two_below (val_lt hd) hl h0; omega
      clear hcl h0
      go_wp2_with (first
        | (go_at_call 62; refine (rcmp_r bo ao zs.length ds.length capb cap zs ds r _ rfl rfl (by have := HZ.out; omega) (by omega) hsz hs1 hdz hd HR.out).mono ?_; rintro e w2 ⟨rfl, hb2⟩; have hsz2 := hsz.below hb2)
        | (go_at_call 61; refine (rplus_any bo bo zs.length zs.length capb capb zs zs _ rfl rfl HZ.out HZ.out hsz2 hsz2 hdz hdz).mono ?_; rintro e w3 ⟨v3, rfl, ys, hown3, hd3, hv3, hl1, hl2, hl3, hb3⟩))
      go_roundw
      case rel =>
        refine ⟨k + 1, ys, by go_num, hown3.mono (Nat.le_trans HSZ.out hb2.size), hd3, (plus_norm HNM.out HNM.out hd3 hv3 hl1 hl2 hl3 : Norm _), ?_, ?_, ?_, by omega, (hbel.step hb2 (by simp)).step hb3 (by simp)⟩
        · show _ = _
          rw [hv3, HV.out, Nat.pow_succ]; omega
        · show _ ≤ _
          have := HLEN.out
          omega
        · intro m hm
          rcases Nat.lt_or_ge m k with h | h
          · exact HM.out m h
          · have e : m = k := by omega
            rw [e]; exact H0.out
      case measure => simp [intOf]; omega
    · have hr0 : ¬ r ≤ 0 := fun h => h0 (hcl.1 h)
      have H0 : Hid (val 10 ds < 2 ^ k) := Nat.lt_of_not_le h0
      clear hcl h0
      go_wp2_with (go_at_call 62; refine (rcmp_r bo ao zs.length ds.length capb cap zs ds r _ rfl rfl (by have := HZ.out; omega) (by omega) hsz hs1 hdz hd HR.out).mono ?_; rintro e w2 ⟨rfl, hb2⟩)
      go_ret
      refine ⟨k, rfl, ⟨by rw [HX.out]; exact H0.out, fun m hm => by rw [HX.out]; exact HM.out m hm⟩, hbw.step hb2 (Nat.le_refl _)⟩

theorem bits_h (va : Value) (x : Int) (w : World) (ha : AInt w va x) :
    Calls Try.prog 29 #[va] w fun e w' => ∃ n : Nat, e = .returned (.int .i64 n) ∧ (x.natAbs < 2 ^ n ∧ ∀ m, m < n → 2 ^ m ≤ x.natAbs) ∧ Below w.heap.size w w' := by
  obtain ⟨neg, xs, hv, hx, hl⟩ := ha
  refine (bits_any va neg xs w hv).mono ?_
  rintro e w' ⟨rfl, hb⟩
  obtain ⟨_, _, _, _, _, _, hd, hn, _⟩ := hv
  have e1 : x.natAbs = val 4294967296 xs := by rw [hx, sv_natAbs]
  refine ⟨blen xs, rfl, ⟨by rw [e1]; exact (blen_le_iff hd hn _).1 (Nat.le_refl _), fun m hm => ?_⟩, hb⟩
  rw [e1]
  exact Nat.le_of_not_lt fun h => by have := (blen_le_iff hd hn m).2 h; omega

theorem bits_same {x n m : Nat} (hn : x < 2 ^ n ∧ ∀ k, k < n → 2 ^ k ≤ x) (hm : x < 2 ^ m ∧ ∀ k, k < m → 2 ^ k ≤ x) : n = m := by
  rcases Nat.lt_trichotomy n m with h | h | h
  · have := hm.2 n h; omega
  · exact h
  · have := hn.2 m h; omega
end Go.Proofs.Yteaejdcnpjhpoaa
