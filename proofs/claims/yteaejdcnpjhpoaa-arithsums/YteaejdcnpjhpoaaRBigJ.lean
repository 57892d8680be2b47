/- Contracts of suretyref01.power and TooBig; they prove no statement of the seat. -/
import Derived.Test.YteaejdcnpjhpoaaRPlusJ
import Derived.Deep.RegionWith
namespace Go.Proofs.Yteaejdcnpjhpoaa
open Go.RowKit

theorem plus_norm {xs ys zs : List Nat} (nx : Norm xs) (ny : Norm ys) (hd : Digs 10 zs) (hv : val 10 zs = val 10 xs + val 10 ys)
    (h1 : xs.length ≤ zs.length) (h2 : ys.length ≤ zs.length) (h3 : zs.length ≤ xs.length ∨ zs.length ≤ ys.length ∨ ((zs.length = xs.length + 1 ∨ zs.length = ys.length + 1) ∧ 10 ^ (zs.length - 1) ≤ val 10 zs)) : Norm zs := by
  by_cases h0 : zs.length = 0
  · rw [List.eq_nil_of_length_eq_zero h0]; exact Norm.nil
  · refine norm_of_ge (by decide) hd (by omega) ?_
    rcases h3 with h | h | h
    · have e : zs.length = xs.length := by omega
      have := nx.ge (B := 10) (List.ne_nil_of_length_pos (by omega)) (by decide)
      rw [e, hv]; omega
    · have e : zs.length = ys.length := by omega
      have := ny.ge (B := 10) (List.ne_nil_of_length_pos (by omega)) (by decide)
      rw [e, hv]; omega
    · exact h.2

set_option maxHeartbeats 1000000 in
theorem rpower_any (n : Nat) (N : Int) (hN : N = (n : Int)) (w : World) (hn : n ≤ 2000) :
    Calls Try.prog 71 #[.int .i64 N] w fun e w' => ∃ v, e = .returned v ∧ ∃ zs, Own .i64 3 w.heap.size w' v zs ∧ Digs 10 zs ∧ Norm zs ∧ val 10 zs = 2 ^ n ∧ zs.length ≤ n + 1 ∧ Below w.heap.size w w' := by
  subst hN
  have hl := Own.lit w .i64 3 [1] w.heap.size (Nat.le_refl _) (by decide)
  go_enter Try.func71, Try.ntmps71
  go_wp2
  go_loopw [3, 4] (fun v i wr => ∃ k : Nat, ∃ zs, k ≤ n ∧ i = .int .i64 k ∧ Own .i64 3 w.heap.size wr v zs ∧ Digs 10 zs ∧ Hid (Norm zs) ∧ Hid (val 10 zs = 2 ^ k) ∧ Hid (zs.length ≤ k + 1) ∧ Below w.heap.size w wr) (fun _ i _ => n - (intOf i).toNat)
  case atStart => exact ⟨0, [1], Nat.zero_le _, rfl, hl, Digs.cons (by decide) (Digs.nil _), (rfl : _ = _), (rfl : _ = _), (Nat.le_refl _ : _ ≤ _), (Below.refl _ _).alloc (Nat.le_refl _) _⟩
  case round =>
    obtain ⟨k, zs, hk, rfl, hown, hd, HNM, HV, HLEN, hbel⟩ := hrel
    by_cases h0 : k < n
    · obtain ⟨ao, cap, rfl, k1, k2, hseg, k3⟩ := hown.open
      have HZ : Hid (zs.length ≤ 10000) := by show _ ≤ _; have := HLEN.out; omega
      go_wp2_with (go_at_call 61; refine (rplus_any ao ao zs.length zs.length cap cap zs zs _ rfl rfl HZ.out HZ.out hseg hseg hd hd).mono ?_; rintro e w2 ⟨v2, rfl, ys, hown2, hd2, hv2, hl1, hl2, hl3, hb2⟩)
      go_roundw
      case rel =>
        refine ⟨k + 1, ys, by omega, by go_num, hown2.mono hbel.size, hd2, (plus_norm HNM.out HNM.out hd2 hv2 hl1 hl2 hl3 : Norm _), ?_, ?_, hbel.step hb2 (Nat.le_refl _)⟩
        · show _ = _
          rw [hv2, HV.out, Nat.pow_succ]; omega
        · show _ ≤ _
          have := HLEN.out
          omega
      case measure => simp [intOf]; omega
    · have hkn : k = n := by omega
      subst hkn
      go_wp2
      go_ret
      exact ⟨_, rfl, zs, hown, hd, HNM.out, HV.out, HLEN.out, hbel⟩

theorem rpower_lim (n : Nat) (hk : n = 32 * 32) (N : Int) (hN : N = (n : Int)) (w : World) :
    Calls Try.prog 71 #[.int .i64 N] w fun e w' => ∃ v, e = .returned v ∧ ∃ zs, Own .i64 3 w.heap.size w' v zs ∧ Digs 10 zs ∧ Norm zs ∧ val 10 zs = lim ∧ zs.length ≤ 2000 ∧ Below w.heap.size w w' := by
  refine (rpower_any n N hN w (by omega)).mono ?_
  rintro e w' ⟨v, rfl, zs, h1, h2, h3, h4, h5, h6⟩
  exact ⟨v, rfl, zs, h1, h2, h3, h4.trans (lim_pow n hk), by omega, h6⟩

/-- A suretyref01.Num: its sign and its decimal digits. -/
def NumV (w : World) (v : Value) (neg : Bool) (ds : List Nat) : Prop :=
  ∃ ao cap, v = .agg #[.bool neg, .slice ao ds.length cap] ∧ ds.length ≤ cap ∧ cap ≤ maxLen ∧ (ao = none → cap = 0) ∧ Seg .i64 w ao ds ∧ Digs 10 ds ∧ Norm ds ∧ (ds.length = 0 → neg = false)

theorem NumV.below {w w' : World} {v : Value} {neg : Bool} {ds : List Nat} (h : NumV w v neg ds) (hb : Below w.heap.size w w') : NumV w' v neg ds := by
  obtain ⟨ao, cap, h1, h2, h3, h4, h5, h6⟩ := h
  exact ⟨ao, cap, h1, h2, h3, h4, h5.below hb, h6⟩

theorem NumV.store2 {w : World} {v : Value} {neg : Bool} {ds : List Nat} (h : NumV w v neg ds) {t : TypeId} {b : Nat} {x : Bool} {a : Option Addr} {n c : Nat} (hB : Blk t w b #[.bool x, .slice a n c]) (y : Bool) (a' : Option Addr) (n' c' : Nat) :
    NumV ((w.setCell ⟨b, 0, none⟩ (.bool y)).setCell ⟨b, 1, none⟩ (.slice a' n' c')) v neg ds := by
  obtain ⟨ao, cap, h1, h2, h3, h4, h5, h6⟩ := h
  exact ⟨ao, cap, h1, h2, h3, h4, h5.store2 hB y a' n' c', h6⟩

theorem NumV.zero (w : World) : NumV w (.agg #[.bool false, .slice none 0 0]) false [] :=
  ⟨none, 0, rfl, Nat.le_refl _, Nat.zero_le _, fun _ => rfl, Seg.nil _ _ _, Digs.nil _, Norm.nil, fun _ => rfl⟩

/-- 10 to so many, against the limit. -/
theorem pow3le (a k : Nat) (h : k ≤ a + a + a) : 10 ^ k ≤ 10 ^ a * 10 ^ a * 10 ^ a := by
  rw [← Nat.pow_add, ← Nat.pow_add]
  exact Nat.pow_le_pow_right (by decide) h
theorem lim_low (k : Nat) (hk : k ≤ 308) : 10 ^ k ≤ lim := by
  have h : 10 ^ 102 * 10 ^ 102 * 10 ^ 104 ≤ lim := by decide +kernel
  refine Nat.le_trans ?_ h
  have e : ∀ a b c k : Nat, k ≤ a + b + c → 10 ^ k ≤ 10 ^ a * 10 ^ b * 10 ^ c := by
    intro a b c k h
    rw [← Nat.pow_add, ← Nat.pow_add]
    exact Nat.pow_le_pow_right (by decide) h
  exact e 102 102 104 k (by omega)

theorem toobig_short {ds : List Nat} (hd : Digs 10 ds) (h : ds.length < 309) : val 10 ds < lim := by
  have h1 := val_lt hd
  have h2 := lim_low ds.length (by omega)
  omega
theorem toobig_long {ds : List Nat} (hn : Norm ds) (h : 309 < ds.length) : lim ≤ val 10 ds := by
  have h1 := hn.ge (B := 10) (by intro e; subst e; simp at h) (by decide)
  have h2 := lim_dec (ds.length - 1) (by omega)
  omega

set_option maxHeartbeats 1000000 in
theorem toobig_short_any (v : Value) (neg : Bool) (ds : List Nat) (w : World) (hv : NumV w v neg ds) (hl : ds.length ≤ 10000) (h : ds.length < 309) :
    Calls Try.prog 50 #[v] w fun e w' => e = .returned (.bool false) ∧ Below w.heap.size w w' := by
  obtain ⟨ao, cap, rfl, h1, h2, h3, hs, hd, hn, h4⟩ := hv
  have g1 : decide (309 < (ds.length : Int)) = false := by simp; omega
  have g2 : ((ds.length : Int) == 309) = false := by rw [beq_eq_false_iff_ne]; omega
  go_enter Try.func50, Try.ntmps50
  go_wp2
  go_quiet (fail)
  go_wp2
  go_ret
  exact ⟨rfl, below_drewN ((Below.refl _ _).alloc (Nat.le_refl _) _) _⟩

set_option maxHeartbeats 1000000 in
theorem toobig_long_any (v : Value) (neg : Bool) (ds : List Nat) (w : World) (hv : NumV w v neg ds) (hl : ds.length ≤ 10000) (h : 309 < ds.length) :
    Calls Try.prog 50 #[v] w fun e w' => e = .returned (.bool true) ∧ Below w.heap.size w w' := by
  obtain ⟨ao, cap, rfl, h1, h2, h3, hs, hd, hn, h4⟩ := hv
  have g1 : decide (309 < (ds.length : Int)) = true := by simp; omega
  go_enter Try.func50, Try.ntmps50
  go_wp2
  go_quiet (fail)
  go_wp2
  go_ret
  exact ⟨rfl, below_drewN ((Below.refl _ _).alloc (Nat.le_refl _) _) _⟩

set_option maxHeartbeats 1000000 in
theorem toobig_mid_any (v : Value) (neg : Bool) (ds : List Nat) (w : World) (hv : NumV w v neg ds) (h : ds.length = 309) :
    Calls Try.prog 50 #[v] w fun e w' => e = .returned (.bool (decide (lim ≤ val 10 ds))) ∧ Below w.heap.size w w' := by
  obtain ⟨ao, cap, rfl, h1, h2, h3, hs, hd, hn, h4⟩ := hv
  have HL : Hid (ds.length = 309) := h
  rw [h]
  rw [h] at h1
  clear h h4
  have g1 : decide (309 < ((309 : Nat) : Int)) = false := by simp
  have B0 := Blk.new w 31 #[.bool neg, .slice ao 309 cap]
  go_enter Try.func50, Try.ntmps50
  go_wp2
  have HS : Hid (((val 10 ds : Int) - lim).sign ≥ 0 ↔ lim ≤ val 10 ds) := by
    show _ ↔ _
    constructor
    · intro h
      rcases Nat.lt_or_ge (val 10 ds) lim with h' | h'
      · rw [Int.sign_eq_neg_one_of_neg (by omega)] at h; omega
      · exact h'
    · intro h
      rcases Nat.lt_or_ge lim (val 10 ds) with h' | h'
      · rw [Int.sign_eq_one_of_pos (by omega)]; omega
      · rw [show (val 10 ds : Int) - lim = 0 by omega]; simp
  go_region_with (first
    | (go_at_call 71; refine (rpower_lim 1024 rfl _ rfl _).mono ?_; rintro e w2 ⟨v2, rfl, ys, hown2, hd2, hn2, hv2, hl2, hb2⟩; obtain ⟨bo, capb, rfl, k1, k2, hsy, k3⟩ := hown2.open; have B2 := Blk.stay (by first | exact B0 | exact B0.drew) hb2; obtain ⟨c0, c1, f0, f1⟩ := B2.two; have hbw : Below w.heap.size w w2 := Below.trans (by first | exact (Below.refl _ _).alloc (Nat.le_refl _) _ | exact ((Below.refl _ _).alloc (Nat.le_refl _) _).drew) (hb2.mono (by simp)); have HV2 : Hid (val 10 ys = lim) := hv2; clear hv2)
    | (go_at_call 62; refine (rcmp_any ao bo 309 ys.length cap capb ds ys _ HL.out rfl (by decide) (by omega) (hs.below hbw) hsy hd hd2).mono ?_; rintro e w3 ⟨rfl, hb3⟩))
  all_goals
    go_wp2
    go_ret
    refine ⟨?_, hbw.step hb3 (Nat.le_refl _)⟩
    refine congrArg Ending.returned (congrArg Value.bool ?_)
    rw [cmpL_norm (by decide) hd hd2 hn hn2, HV2.out]
    exact decide_eq_decide.2 HS.out
end Go.Proofs.Yteaejdcnpjhpoaa
