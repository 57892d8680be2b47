/- Joined: RBig, RTrim, RForm, RForm2: words and contracts; no statement of the seat is proved here. -/
import Derived.Test.YtidpbdhhbeaijabJoin6Folds
import Derived.Deep.RegionWith
/- Contracts of suretyref01.power and TooBig; they prove no statement of the seat. -/
namespace Go.Proofs.Ytidpbdhhbeaijab
open Go.RowKit

theorem plus_norm {xs ys zs : List Nat} (nx : Norm xs) (ny : Norm ys) (hd : Digs 10 zs) (hv : val 10 zs = val 10 xs + val 10 ys)
    (h1 : xs.length ≤ zs.length) (h2 : ys.length ≤ zs.length) (h3 : zs.length ≤ xs.length ∨ zs.length ≤ ys.length ∨ ((zs.length = xs.length + 1 ∨ zs.length = ys.length + 1) ∧ 10 ^ (zs.length - 1) ≤ val 10 zs)) : Norm zs := by
  by_cases h0 : zs.length = 0
  · rw [List.eq_nil_of_length_eq_zero h0]; exact Norm.nil
  · refine norm_of_ge (by decide) hd (by omega) ?_
    rcases h3 with h | h | h
    · have e : zs.length = xs.length := by omega
      have := nx.ge (B := 10) (List.ne_nil_of_length_pos (by omega)) (by decide)
      rw [e, hv]; omega
    · have e : zs.length = ys.length := by omega
      have := ny.ge (B := 10) (List.ne_nil_of_length_pos (by omega)) (by decide)
      rw [e, hv]; omega
    · exact h.2

set_option maxHeartbeats 1000000 in
theorem rpower_any (n : Nat) (N : Int) (hN : N = (n : Int)) (w : World) (hn : n ≤ 2000) :
    Calls Try.prog 90 #[.int .i64 N] w fun e w' => ∃ v, e = .returned v ∧ ∃ zs, Own .i64 3 w.heap.size w' v zs ∧ Digs 10 zs ∧ Norm zs ∧ val 10 zs = 2 ^ n ∧ zs.length ≤ n + 1 ∧ Below w.heap.size w w' := by
  subst hN
  have hl := Own.lit w .i64 3 [1] w.heap.size (Nat.le_refl _) (by decide)
  go_enter Try.func90, Try.ntmps90
  go_wp2
  go_loopw [3, 4] (fun v i wr => ∃ k : Nat, ∃ zs, k ≤ n ∧ i = .int .i64 k ∧ Own .i64 3 w.heap.size wr v zs ∧ Digs 10 zs ∧ Hid (Norm zs) ∧ Hid (val 10 zs = 2 ^ k) ∧ Hid (zs.length ≤ k + 1) ∧ Below w.heap.size w wr) (fun _ i _ => n - (intOf i).toNat)
  case atStart => exact ⟨0, [1], Nat.zero_le _, rfl, hl, Digs.cons (by decide) (Digs.nil _), (rfl : _ = _), (rfl : _ = _), (Nat.le_refl _ : _ ≤ _), (Below.refl _ _).alloc (Nat.le_refl _) _⟩
  case round =>
    obtain ⟨k, zs, hk, rfl, hown, hd, HNM, HV, HLEN, hbel⟩ := hrel
    by_cases h0 : k < n
    · obtain ⟨ao, cap, rfl, k1, k2, hseg, k3⟩ := hown.open
      have HZ : Hid (zs.length ≤ 10000) := by show _ ≤ _; have := HLEN.out; omega
      go_wp2_with (go_at_call 101; refine (rplus_any ao ao zs.length zs.length cap cap zs zs _ rfl rfl HZ.out HZ.out hseg hseg hd hd).mono ?_; rintro e w2 ⟨v2, rfl, ys, hown2, hd2, hv2, hl1, hl2, hl3, hb2⟩)
      go_roundw
      case rel =>
        refine ⟨k + 1, ys, by omega, by go_num, hown2.mono hbel.size, hd2, (plus_norm HNM.out HNM.out hd2 hv2 hl1 hl2 hl3 : Norm _), ?_, ?_, hbel.step hb2 (Nat.le_refl _)⟩
        · show _ = _
          rw [hv2, HV.out, Nat.pow_succ]; omega
        · show _ ≤ _
          have := HLEN.out
          omega
      case measure => simp [intOf]; omega
    · have hkn : k = n := by omega
      subst hkn
      go_wp2
      go_ret
      exact ⟨_, rfl, zs, hown, hd, HNM.out, HV.out, HLEN.out, hbel⟩

theorem rpower_lim (n : Nat) (hk : n = 32 * 32) (N : Int) (hN : N = (n : Int)) (w : World) :
    Calls Try.prog 90 #[.int .i64 N] w fun e w' => ∃ v, e = .returned v ∧ ∃ zs, Own .i64 3 w.heap.size w' v zs ∧ Digs 10 zs ∧ Norm zs ∧ val 10 zs = lim ∧ zs.length ≤ 2000 ∧ Below w.heap.size w w' := by
  refine (rpower_any n N hN w (by omega)).mono ?_
  rintro e w' ⟨v, rfl, zs, h1, h2, h3, h4, h5, h6⟩
  exact ⟨v, rfl, zs, h1, h2, h3, h4.trans (lim_pow n hk), by omega, h6⟩

/-- A suretyref01.Num: its sign and its decimal digits. -/
def NumV (w : World) (v : Value) (neg : Bool) (ds : List Nat) : Prop :=
  ∃ ao cap, v = .agg #[.bool neg, .slice ao ds.length cap] ∧ ds.length ≤ cap ∧ cap ≤ maxLen ∧ (ao = none → cap = 0) ∧ Seg .i64 w ao ds ∧ Digs 10 ds ∧ Norm ds ∧ (ds.length = 0 → neg = false)

theorem NumV.below {w w' : World} {v : Value} {neg : Bool} {ds : List Nat} (h : NumV w v neg ds) (hb : Below w.heap.size w w') : NumV w' v neg ds := by
  obtain ⟨ao, cap, h1, h2, h3, h4, h5, h6⟩ := h
  exact ⟨ao, cap, h1, h2, h3, h4, h5.below hb, h6⟩

theorem NumV.store2 {w : World} {v : Value} {neg : Bool} {ds : List Nat} (h : NumV w v neg ds) {t : TypeId} {b : Nat} {x : Bool} {a : Option Addr} {n c : Nat} (hB : Blk t w b #[.bool x, .slice a n c]) (y : Bool) (a' : Option Addr) (n' c' : Nat) :
    NumV ((w.setCell ⟨b, 0, none⟩ (.bool y)).setCell ⟨b, 1, none⟩ (.slice a' n' c')) v neg ds := by
  obtain ⟨ao, cap, h1, h2, h3, h4, h5, h6⟩ := h
  exact ⟨ao, cap, h1, h2, h3, h4, h5.store2 hB y a' n' c', h6⟩

theorem NumV.zero (w : World) : NumV w (.agg #[.bool false, .slice none 0 0]) false [] :=
  ⟨none, 0, rfl, Nat.le_refl _, Nat.zero_le _, fun _ => rfl, Seg.nil _ _ _, Digs.nil _, Norm.nil, fun _ => rfl⟩

/-- 10 to so many, against the limit. -/
theorem pow3le (a k : Nat) (h : k ≤ a + a + a) : 10 ^ k ≤ 10 ^ a * 10 ^ a * 10 ^ a := by
  rw [← Nat.pow_add, ← Nat.pow_add]
  exact Nat.pow_le_pow_right (by decide) h
theorem lim_low (k : Nat) (hk : k ≤ 308) : 10 ^ k ≤ lim := by
  have h : 10 ^ 102 * 10 ^ 102 * 10 ^ 104 ≤ lim := by decide +kernel
  refine Nat.le_trans ?_ h
  have e : ∀ a b c k : Nat, k ≤ a + b + c → 10 ^ k ≤ 10 ^ a * 10 ^ b * 10 ^ c := by
    intro a b c k h
    rw [← Nat.pow_add, ← Nat.pow_add]
    exact Nat.pow_le_pow_right (by decide) h
  exact e 102 102 104 k (by omega)

theorem toobig_short {ds : List Nat} (hd : Digs 10 ds) (h : ds.length < 309) : val 10 ds < lim := by
  have h1 := val_lt hd
  have h2 := lim_low ds.length (by omega)
  omega
theorem toobig_long {ds : List Nat} (hn : Norm ds) (h : 309 < ds.length) : lim ≤ val 10 ds := by
  have h1 := hn.ge (B := 10) (by intro e; subst e; simp at h) (by decide)
  have h2 := lim_dec (ds.length - 1) (by omega)
  omega

set_option maxHeartbeats 1000000 in
theorem toobig_short_any (v : Value) (neg : Bool) (ds : List Nat) (w : World) (hv : NumV w v neg ds) (hl : ds.length ≤ 10000) (h : ds.length < 309) :
    Calls Try.prog 76 #[v] w fun e w' => e = .returned (.bool false) ∧ Below w.heap.size w w' := by
  obtain ⟨ao, cap, rfl, h1, h2, h3, hs, hd, hn, h4⟩ := hv
  have g1 : decide (309 < (ds.length : Int)) = false := by simp; omega
  have g2 : ((ds.length : Int) == 309) = false := by rw [beq_eq_false_iff_ne]; omega
  go_enter Try.func76, Try.ntmps76
  go_wp2
  go_quiet (fail)
  go_wp2
  go_ret
  exact ⟨rfl, below_drewN ((Below.refl _ _).alloc (Nat.le_refl _) _) _⟩

set_option maxHeartbeats 1000000 in
theorem toobig_long_any (v : Value) (neg : Bool) (ds : List Nat) (w : World) (hv : NumV w v neg ds) (hl : ds.length ≤ 10000) (h : 309 < ds.length) :
    Calls Try.prog 76 #[v] w fun e w' => e = .returned (.bool true) ∧ Below w.heap.size w w' := by
  obtain ⟨ao, cap, rfl, h1, h2, h3, hs, hd, hn, h4⟩ := hv
  have g1 : decide (309 < (ds.length : Int)) = true := by simp; omega
  go_enter Try.func76, Try.ntmps76
  go_wp2
  go_quiet (fail)
  go_wp2
  go_ret
  exact ⟨rfl, below_drewN ((Below.refl _ _).alloc (Nat.le_refl _) _) _⟩

set_option maxHeartbeats 1000000 in
theorem toobig_mid_any (v : Value) (neg : Bool) (ds : List Nat) (w : World) (hv : NumV w v neg ds) (h : ds.length = 309) :
    Calls Try.prog 76 #[v] w fun e w' => e = .returned (.bool (decide (lim ≤ val 10 ds))) ∧ Below w.heap.size w w' := by
  obtain ⟨ao, cap, rfl, h1, h2, h3, hs, hd, hn, h4⟩ := hv
  have HL : Hid (ds.length = 309) := h
  rw [h]
  rw [h] at h1
  clear h h4
  have g1 : decide (309 < ((309 : Nat) : Int)) = false := by simp
  have B0 := Blk.new w 30 #[.bool neg, .slice ao 309 cap]
  go_enter Try.func76, Try.ntmps76
  go_wp2
  have HS : Hid (((val 10 ds : Int) - lim).sign ≥ 0 ↔ lim ≤ val 10 ds) := by
    show _ ↔ _
    constructor
    · intro h
      rcases Nat.lt_or_ge (val 10 ds) lim with h' | h'
      · rw [Int.sign_eq_neg_one_of_neg (by omega)] at h; omega
      · exact h'
    · intro h
      rcases Nat.lt_or_ge lim (val 10 ds) with h' | h'
      · rw [Int.sign_eq_one_of_pos (by omega)]; omega
      · rw [show (val 10 ds : Int) - lim = 0 by omega]; simp
  go_region_with (first
    | (go_at_call 90; refine (rpower_lim 1024 rfl _ rfl _).mono ?_; rintro e w2 ⟨v2, rfl, ys, hown2, hd2, hn2, hv2, hl2, hb2⟩; obtain ⟨bo, capb, rfl, k1, k2, hsy, k3⟩ := hown2.open; have B2 := Blk.stay (by first | exact B0 | exact B0.drew) hb2; obtain ⟨c0, c1, f0, f1⟩ := B2.two; have hbw : Below w.heap.size w w2 := Below.trans (by first | exact (Below.refl _ _).alloc (Nat.le_refl _) _ | exact ((Below.refl _ _).alloc (Nat.le_refl _) _).drew) (hb2.mono (by simp)); have HV2 : Hid (val 10 ys = lim) := hv2; clear hv2)
    | (go_at_call 77; refine (rcmp_any ao bo 309 ys.length cap capb ds ys _ HL.out rfl (by decide) (by omega) (hs.below hbw) hsy hd hd2).mono ?_; rintro e w3 ⟨rfl, hb3⟩))
  all_goals
    go_wp2
    go_ret
    refine ⟨?_, hbw.step hb3 (Nat.le_refl _)⟩
    refine congrArg Ending.returned (congrArg Value.bool ?_)
    rw [cmpL_norm (by decide) hd hd2 hn hn2, HV2.out]
    exact decide_eq_decide.2 HS.out
end Go.Proofs.Ytidpbdhhbeaijab
/- Contracts of suretyref01's trim, form, TooBig whole; they prove no statement of the seat. -/
namespace Go.Proofs.Ytidpbdhhbeaijab
open Go.RowKit

/-- A suretyref01.Num: its value, and how many digits it has at most. -/
def RNum (w : World) (v : Value) (z : Int) (L : Nat) : Prop := ∃ neg ds, NumV w v neg ds ∧ z = sv neg (val 10 ds) ∧ ds.length ≤ L

theorem RNum.below {w w' : World} {v : Value} {z : Int} {L : Nat} (h : RNum w v z L) (hb : Below w.heap.size w w') : RNum w' v z L := by
  obtain ⟨neg, ds, h1, h2⟩ := h
  exact ⟨neg, ds, h1.below hb, h2⟩
theorem RNum.store2 {w : World} {v : Value} {z : Int} {L : Nat} (h : RNum w v z L) {t : TypeId} {b : Nat} {x : Bool} {a : Option Addr} {n c : Nat} (hB : Blk t w b #[.bool x, .slice a n c]) (y : Bool) (a' : Option Addr) (n' c' : Nat) :
    RNum ((w.setCell ⟨b, 0, none⟩ (.bool y)).setCell ⟨b, 1, none⟩ (.slice a' n' c')) v z L := by
  obtain ⟨neg, ds, h1, h2⟩ := h
  exact ⟨neg, ds, h1.store2 hB y a' n' c', h2⟩
theorem RNum.zero (w : World) (L : Nat) : RNum w (.agg #[.bool false, .slice none 0 0]) 0 L := ⟨false, [], NumV.zero w, by simp [sv, val], Nat.zero_le _⟩
theorem RNum.shape {w : World} {v : Value} {z : Int} {L : Nat} (h : RNum w v z L) : ∃ x a n c, v = .agg #[.bool x, .slice a n c] := by
  obtain ⟨neg, ds, ⟨ao, cap, h, _⟩, _⟩ := h
  exact ⟨neg, ao, ds.length, cap, h⟩
theorem RNum.mono {w : World} {v : Value} {z : Int} {L L' : Nat} (h : RNum w v z L) (hl : L ≤ L') : RNum w v z L' := by
  obtain ⟨neg, ds, h1, h2, h3⟩ := h
  exact ⟨neg, ds, h1, h2, Nat.le_trans h3 hl⟩

theorem toobig_any (v : Value) (neg : Bool) (ds : List Nat) (w : World) (hv : NumV w v neg ds) (hl : ds.length ≤ 10000) :
    Calls Try.prog 76 #[v] w fun e w' => e = .returned (.bool (decide (lim ≤ val 10 ds))) ∧ Below w.heap.size w w' := by
  have hv' := hv
  obtain ⟨ao, cap, _, _, _, _, _, hd, hn, _⟩ := hv'
  rcases Nat.lt_trichotomy ds.length 309 with h | h | h
  · have := toobig_short hd h
    rw [show decide (lim ≤ val 10 ds) = false by simp; omega]
    exact toobig_short_any v neg ds w hv hl h
  · exact toobig_mid_any v neg ds w hv h
  · have := toobig_long hn h
    rw [show decide (lim ≤ val 10 ds) = true by simp; omega]
    exact toobig_long_any v neg ds w hv hl h

set_option maxHeartbeats 1000000 in
theorem rtrim_any (neg : Bool) (ao : Option Addr) (n cap : Nat) (xs : List Nat) (w : World) (hn : xs.length = n) (h1 : n ≤ cap) (_h2 : cap ≤ maxLen) (h3 : n ≤ 10000) (hs : Seg .i64 w ao xs) (hd : Digs 10 xs) :
    Calls Try.prog 81 #[.bool neg, .slice ao n cap] w fun e w' => ∃ v, e = .returned v ∧ RNum w' v (sv neg (val 10 xs)) n ∧ Below w.heap.size w w' := by
  have HN : Hid (xs.length = n) := hn
  clear hn
  unfold maxLen at _h2
  have hs' : Seg .i64 (w.alloc (.cells #[.bool false, .slice none 0 0] 30)) ao xs := hs.below ((Below.refl _ _).alloc (Nat.le_refl _) _)
  have B0 := Blk.new w 30 #[.bool false, .slice none 0 0]
  go_enter Try.func81, Try.ntmps81
  go_wp2
  go_loop [5] (fun i => ∃ k : Nat, k ≤ n ∧ i = .int .i64 k ∧ Hid (∀ i, k ≤ i → i < n → xs.getD i 0 = 0)) (fun i => (intOf i).toNat)
  case atStart => exact ⟨_, Nat.le_refl _, rfl, fun i h1 h2 => by omega⟩
  case round =>
    obtain ⟨k, hk, rfl, hz⟩ := hrel
    by_cases h0 : 0 < k
    · obtain ⟨b, off, rfl, hc⟩ := hs'.open (k - 1) (by have := HN.out; omega)
      obtain ⟨j, rfl⟩ : ∃ j, k = j + 1 := ⟨k - 1, by omega⟩
      have hcell := hc j (by have := HN.out; omega)
      obtain ⟨x, hx⟩ : ∃ x, x = xs.getD j 0 := ⟨_, rfl⟩
      rw [← hx] at hcell
      have HX : Hid (x = xs.getD j 0) := hx
      clear hc hx
      by_cases hx0 : x = 0
      · have hb : ((x : Int) == 0) = true := by rw [beq_iff_eq]; omega
        have HX0 : Hid (x = 0) := hx0
        clear hx0
        go_wp2
        go_round
        case rel =>
          refine ⟨j, by omega, rfl, fun i h1 h2 => ?_⟩
          by_cases e : i = j
          · subst e; rw [← HX.out, HX0.out]
          · exact hz.out i (by omega) h2
        case measure => simp [intOf]
      · have hb : ((x : Int) == 0) = false := by rw [beq_eq_false_iff_ne]; omega
        have HX0 : Hid (x ≠ 0) := hx0
        have hk0 : (((j : Int) + 1) == 0) = false := by rw [beq_eq_false_iff_ne]; omega
        clear hx0
        have hjn : j + 1 ≤ 10000 := by omega
        have hob : Own .i64 3 (w.heap.size + 1) ((w.alloc (.cells #[.bool false, .slice none 0 0] 30)).alloc (.cells #[] 3)) (.slice (some ⟨w.heap.size + 1, 0, none⟩) 0 0) [] := by
          have h := Own.lit (w.alloc (.cells #[.bool false, .slice none 0 0] 30)) .i64 3 [] (w.heap.size + 1) (by simp) (by decide)
          simpa using h
        have B1 : Blk 30 ((w.alloc (.cells #[.bool false, .slice none 0 0] 30)).alloc (.cells #[] 3)) w.heap.size #[.bool false, .slice none 0 0] := B0.alloc _
        have hsx : Seg .i64 ((w.alloc (.cells #[.bool false, .slice none 0 0] 30)).alloc (.cells #[] 3)) (some ⟨b, off, none⟩) (xs.take (j + 1)) := (hs'.below ((Below.refl _ _).alloc (Nat.le_refl _) _)).take (j + 1)
        have HTL : Hid ((xs.take (j + 1)).length = j + 1) := by show _ = _; rw [List.length_take, HN.out]; omega
        go_wp2_with (at_builtin; refine wpList_append_seg rfl (.tmp 24) (.tmp 27) 28 rfl (w.heap.size + 1) 3 .i64 8 Try.underlying28 Try.info3 (by decide) _ [] rfl hob (some ⟨b, off, none⟩) (j + 1) _ rfl (fun h => by cases h) (xs.take (j + 1)) HTL.out hsx (by simp; omega) (by simp) ?_; intro v' w3 hown3 hblk3 hbel3; rw [List.nil_append] at hown3; obtain ⟨ao3, cap3, hv3, q1, q2, hs3, q3⟩ := hown3.open; rw [HTL.out] at hv3 q1; subst hv3; have B3 := B1.keep hbel3 (by omega); obtain ⟨c0, c1, f0, f1⟩ := B3.two; clear hblk3 q3)
        refine bodyPost_ret (v := .agg #[.bool neg, .slice ao3 (j + 1) cap3]) (by simp [results, Try.results81, go_sem, c0, c1]) rfl ?_
        have e1 : trimZ xs = xs.take (j + 1) := by
          rw [trimZ_eq_of_zeros xs (j + 1) (by have := HN.out; omega) (by rw [HN.out]; exact hz.out), take_snoc xs j (by have := HN.out; omega), trimZ_snoc_ne _ _ (by rw [← HX.out]; exact HX0.out)]
        have hbw : Below w.heap.size w w3 := (((Below.refl _ _).alloc (Nat.le_refl _) _).alloc (by simp) _).trans (hbel3.mono (by omega))
        refine ⟨_, rfl, ⟨neg, xs.take (j + 1), NumV.store2 ⟨ao3, cap3, by rw [HTL.out], by rw [HTL.out]; exact q1, q2, ?_, hs3, hd.take _, by rw [← e1]; exact norm_trimZ _, fun h => by rw [HTL.out] at h; omega⟩ B3 _ _ _ _, ?_, by rw [HTL.out]; exact hk⟩, below_store2 hbw (Nat.le_refl _) _ _⟩
        · intro h
          rw [h] at hs3
          rcases hs3 with h' | ⟨_, _, h', _⟩
          · have := congrArg List.length h'; rw [HTL.out] at this; simp at this
          · cases h'
        · rw [← e1, val_trimZ]
    · have hk0 : k = 0 := by omega
      subst hk0
      go_wp2
      refine bodyPost_ret (v := .agg #[.bool false, .slice none 0 0]) (by simp [results, Try.results81, go_sem]) rfl ?_
      have e1 : trimZ xs = [] := by rw [trimZ_eq_of_zeros xs 0 (by omega) (by rw [HN.out]; exact hz.out)]; rfl
      have e2 := val_trimZ 10 xs
      rw [e1, val_nil] at e2
      refine ⟨_, rfl, ?_, (Below.refl _ _).alloc (Nat.le_refl _) _⟩
      rw [← e2, sv_zero]
      exact RNum.zero _ _
end Go.Proofs.Ytidpbdhhbeaijab
/- Contract of suretyref01's form; it proves no statement of the seat. -/
namespace Go.Proofs.Ytidpbdhhbeaijab
open Go.RowKit

theorem good_iff (l : List Nat) (i0 : Nat) (hi : i0 = if pneg l = true then 1 else 0) :
    Good l ↔ i0 < l.length ∧ ¬ (l.getD i0 0 = 48 ∧ 1 < l.length) ∧ ∀ i, i0 ≤ i → i < l.length → 48 ≤ l.getD i 0 ∧ l.getD i 0 ≤ 57 := by
  unfold Good GoodB Plain pbody
  by_cases h : pneg l = true
  · rw [if_pos h] at hi ⊢
    subst hi
    cases l with
    | nil => simp
    | cons x r =>
      simp only [List.drop_succ_cons, List.drop_zero, List.length_cons]
      constructor
      · rintro ⟨⟨h1, h2, h3⟩, h4⟩
        refine ⟨by omega, ?_, ?_⟩
        · rintro ⟨h5, h6⟩
          have h7 : r.getD 0 0 = 48 := by simpa using h5
          apply h4
          refine ⟨h, ?_⟩
          match r, h1, h2, h7 with
          | [y], _, _, h7 => simp at h7; rw [h7]
          | y :: z :: q, _, h2, h7 => exact absurd ⟨h7, by simp⟩ h2
        · intro i h5 h6
          obtain ⟨j, rfl⟩ : ∃ j, i = j + 1 := ⟨i - 1, by omega⟩
          simpa using h3 j (by omega)
      · rintro ⟨h1, h2, h3⟩
        refine ⟨⟨by omega, ?_, ?_⟩, ?_⟩
        · rintro ⟨h5, h6⟩
          exact h2 ⟨by simpa using h5, by omega⟩
        · intro i h5
          simpa using h3 (i + 1) (by omega) (by omega)
        · rintro ⟨_, h5⟩
          subst h5
          exact h2 ⟨by simp, by simp⟩
  · rw [if_neg h] at hi ⊢
    subst hi
    constructor
    · rintro ⟨⟨h1, h2, h3⟩, _⟩
      exact ⟨h1, h2, fun i _ h5 => h3 i h5⟩
    · rintro ⟨h1, h2, h3⟩
      exact ⟨⟨h1, h2, fun i h5 => h3 i (Nat.zero_le _) h5⟩, fun h5 => h h5.1⟩

set_option maxHeartbeats 1000000 in
theorem form_yes (s : ByteArray) (w : World) (hl : s.size ≤ 10000) (hg : Good (bs s)) :
    Calls Try.prog 74 #[.string s] w fun e w' => e = .returned (.bool true) ∧ w' = w := by
  by_cases hp : pneg (bs s) = true
  · obtain ⟨g1, g2, g3⟩ := (good_iff (bs s) 1 (by rw [if_pos hp])).1 hg
    rw [bs_length] at g1 g2 g3
    have hp' := ((pneg_iff s).1 hp).2
    have x0 := bs_get s 0 (by omega)
    have x1 := bs_get s 1 g1
    have t0 : (((s[0]'(by omega)).toNat : Int) == 45) = true := by rw [beq_iff_eq]; omega
    have t1 : (((s[1]'g1).toNat : Int) == 48) = false := by
      rw [beq_eq_false_iff_ne]
      intro h
      exact g2 ⟨by omega, g1⟩
    have t2 : ((1 : Int) == (s.size : Int)) = false := by rw [beq_eq_false_iff_ne]; omega
    have hsz : 0 < s.size := by omega
    have HA : Hid (∀ i, 1 ≤ i → i < s.size → 48 ≤ (bs s).getD i 0 ∧ (bs s).getD i 0 ≤ 57) := g3
    clear g2 g3 x0 x1 hp' hp hg
    go_enter Try.func74, Try.ntmps74
    go_wp2
    go_loop [3] (fun i => ∃ k : Nat, 1 ≤ k ∧ k ≤ s.size ∧ i = .int .i64 k) (fun i => s.size - (intOf i).toNat)
    case atStart => exact ⟨1, Nat.le_refl _, by omega, rfl⟩
    case round =>
      obtain ⟨k, hk1, hk, rfl⟩ := hrel
      by_cases hlt : k < s.size
      · have hx := bs_get s k hlt
        have ha := HA.out k hk1 hlt
        rw [← hx] at ha
        obtain ⟨ha1, ha2⟩ := ha
        clear hx
        go_wp2
        go_round
        case rel => exact ⟨k + 1, by omega, by omega, by go_num⟩
        case measure => simp [intOf]; omega
      · go_wp2
        go_ret
        exact ⟨rfl, rfl⟩
  · obtain ⟨g1, g2, g3⟩ := (good_iff (bs s) 0 (by rw [if_neg hp])).1 hg
    rw [bs_length] at g1 g2 g3
    have x0 := bs_get s 0 g1
    have t0 : (((s[0]'g1).toNat : Int) == 45) = false := by
      rw [beq_eq_false_iff_ne]
      intro h
      exact hp ((pneg_iff s).2 ⟨g1, by omega⟩)
    have t2 : ((0 : Int) == (s.size : Int)) = false := by rw [beq_eq_false_iff_ne]; omega
    have hcase : ((((s[0]'g1).toNat : Int) == 48) = true ∧ ¬ 1 < s.size) ∨ (((s[0]'g1).toNat : Int) == 48) = false := by
      by_cases e : (s[0]'g1).toNat = 48
      · left; exact ⟨by simp [e], fun h => g2 ⟨by omega, h⟩⟩
      · right; rw [beq_eq_false_iff_ne]; omega
    have HA : Hid (∀ i, 0 ≤ i → i < s.size → 48 ≤ (bs s).getD i 0 ∧ (bs s).getD i 0 ≤ 57) := g3
    clear g2 g3 x0 hp hg
    rcases hcase with ⟨hf, hs⟩ | hf
    all_goals
      go_enter Try.func74, Try.ntmps74
      go_wp2
      go_loop [3] (fun i => ∃ k : Nat, k ≤ s.size ∧ i = .int .i64 k) (fun i => s.size - (intOf i).toNat)
      case atStart => exact ⟨0, by omega, rfl⟩
      case round =>
        obtain ⟨k, hk, rfl⟩ := hrel
        by_cases hlt : k < s.size
        · have hx := bs_get s k hlt
          have ha := HA.out k (Nat.zero_le _) hlt
          rw [← hx] at ha
          obtain ⟨ha1, ha2⟩ := ha
          clear hx
          go_wp2
          go_round
          case rel => exact ⟨k + 1, by omega, by go_num⟩
          case measure => simp [intOf]; omega
        · go_wp2
          go_ret
          exact ⟨rfl, rfl⟩
end Go.Proofs.Ytidpbdhhbeaijab
/- Contract of suretyref01's form where a text is no number's; it proves no statement of the seat. -/
namespace Go.Proofs.Ytidpbdhhbeaijab
open Go.RowKit

set_option maxHeartbeats 1000000 in
theorem form_no (s : ByteArray) (w : World) (hl : s.size ≤ 10000) (hg : ¬ Good (bs s)) :
    Calls Try.prog 74 #[.string s] w fun e w' => e = .returned (.bool false) ∧ w' = w := by
  by_cases hp : pneg (bs s) = true
  · have hgi := fun h => hg ((good_iff (bs s) 1 (by rw [if_pos hp])).2 h)
    rw [bs_length] at hgi
    obtain ⟨hsz, hp'⟩ := (pneg_iff s).1 hp
    have x0 := bs_get s 0 (by omega)
    have t0 : (((s[0]'(by omega)).toNat : Int) == 45) = true := by rw [beq_iff_eq]; omega
    clear x0 hp' hp hg
    by_cases g1 : 1 < s.size
    · have t2 : ((1 : Int) == (s.size : Int)) = false := by rw [beq_eq_false_iff_ne]; omega
      have x1 := bs_get s 1 g1
      by_cases e1 : (s[1]'g1).toNat = 48
      · have t1 : (((s[1]'g1).toNat : Int) == 48) = true := by rw [beq_iff_eq]; omega
        clear x1 e1 hgi
        go_enter Try.func74, Try.ntmps74
        go_wp2
        go_ret
        exact ⟨rfl, rfl⟩
      · have t1 : (((s[1]'g1).toNat : Int) == 48) = false := by rw [beq_eq_false_iff_ne]; omega
        have HA : Hid (¬ ∀ i, 1 ≤ i → i < s.size → 48 ≤ (bs s).getD i 0 ∧ (bs s).getD i 0 ≤ 57) := fun h => hgi ⟨g1, fun h' => e1 (by omega), h⟩
        clear x1 e1 hgi
        go_enter Try.func74, Try.ntmps74
        go_wp2
        go_loop [3] (fun i => ∃ k : Nat, 1 ≤ k ∧ k ≤ s.size ∧ i = .int .i64 k ∧ Hid (∀ i, 1 ≤ i → i < k → 48 ≤ (bs s).getD i 0 ∧ (bs s).getD i 0 ≤ 57)) (fun i => s.size - (intOf i).toNat)
        case atStart => exact ⟨1, Nat.le_refl _, by omega, rfl, fun i h1 h2 => by omega⟩
        case round =>
          obtain ⟨k, hk1, hk, rfl, hAD⟩ := hrel
          by_cases hlt : k < s.size
          · have HX : Hid ((s[k]'hlt).toNat = (bs s).getD k 0) := bs_get s k hlt
            by_cases hd1 : 48 ≤ (s[k]'hlt).toNat
            · by_cases hd2 : (s[k]'hlt).toNat ≤ 57
              · go_wp2
                go_round
                case rel =>
                  refine ⟨k + 1, by omega, by omega, by go_num, fun i h1 h2 => ?_⟩
                  by_cases e : i = k
                  · subst e; rw [← HX.out]; exact ⟨hd1, hd2⟩
                  · exact hAD.out i h1 (by omega)
                case measure => simp [intOf]; omega
              · go_wp2
                go_ret
                exact ⟨rfl, rfl⟩
            · go_wp2
              go_ret
              exact ⟨rfl, rfl⟩
          · have hk' : k = s.size := by omega
            exact absurd (hk' ▸ hAD.out) HA.out
    · have t2 : ((1 : Int) == (s.size : Int)) = true := by rw [beq_iff_eq]; omega
      clear hgi
      go_enter Try.func74, Try.ntmps74
      go_wp2
      go_ret
      exact ⟨rfl, rfl⟩
  · have hgi := fun h => hg ((good_iff (bs s) 0 (by rw [if_neg hp])).2 h)
    rw [bs_length] at hgi
    by_cases g1 : 0 < s.size
    · have x0 := bs_get s 0 g1
      have t0 : (((s[0]'g1).toNat : Int) == 45) = false := by
        rw [beq_eq_false_iff_ne]
        intro h
        exact hp ((pneg_iff s).2 ⟨g1, by omega⟩)
      have t2 : ((0 : Int) == (s.size : Int)) = false := by rw [beq_eq_false_iff_ne]; omega
      clear hp hg
      by_cases h2 : (s[0]'g1).toNat = 48 ∧ 1 < s.size
      · obtain ⟨e1, e2⟩ := h2
        have hf : (((s[0]'g1).toNat : Int) == 48) = true := by rw [beq_iff_eq]; omega
        clear e1 x0 hgi
        go_enter Try.func74, Try.ntmps74
        go_wp2
        go_ret
        exact ⟨rfl, rfl⟩
      · have hcase : ((((s[0]'g1).toNat : Int) == 48) = true ∧ ¬ 1 < s.size) ∨ (((s[0]'g1).toNat : Int) == 48) = false := by
          by_cases e : (s[0]'g1).toNat = 48
          · left; exact ⟨by simp [e], fun h => h2 ⟨e, h⟩⟩
          · right; rw [beq_eq_false_iff_ne]; omega
        have HA : Hid (¬ ∀ i, 0 ≤ i → i < s.size → 48 ≤ (bs s).getD i 0 ∧ (bs s).getD i 0 ≤ 57) := fun h => hgi ⟨g1, fun h' => h2 ⟨by omega, h'.2⟩, h⟩
        clear x0 h2 hgi
        rcases hcase with ⟨hf, hs⟩ | hf
        all_goals
          go_enter Try.func74, Try.ntmps74
          go_wp2
          go_loop [3] (fun i => ∃ k : Nat, k ≤ s.size ∧ i = .int .i64 k ∧ Hid (∀ i, 0 ≤ i → i < k → 48 ≤ (bs s).getD i 0 ∧ (bs s).getD i 0 ≤ 57)) (fun i => s.size - (intOf i).toNat)
          case atStart => exact ⟨0, by omega, rfl, fun i h1 h2 => by omega⟩
          case round =>
            obtain ⟨k, hk, rfl, hAD⟩ := hrel
            by_cases hlt : k < s.size
            · have HX : Hid ((s[k]'hlt).toNat = (bs s).getD k 0) := bs_get s k hlt
              by_cases hd1 : 48 ≤ (s[k]'hlt).toNat
              · by_cases hd2 : (s[k]'hlt).toNat ≤ 57
                · go_wp2
                  go_round
                  case rel =>
                    refine ⟨k + 1, by omega, by go_num, fun i h1 h2 => ?_⟩
                    by_cases e : i = k
                    · subst e; rw [← HX.out]; exact ⟨hd1, hd2⟩
                    · exact hAD.out i h1 (by omega)
                  case measure => simp [intOf]; omega
                · go_wp2
                  go_ret
                  exact ⟨rfl, rfl⟩
              · go_wp2
                go_ret
                exact ⟨rfl, rfl⟩
            · have hk' : k = s.size := by omega
              exact absurd (hk' ▸ hAD.out) HA.out
    · have hs : s = ByteArray.empty := by
        apply bs_inj
        apply List.eq_nil_of_length_eq_zero
        rw [bs_length]; omega
      subst hs
      go_enter Try.func74, Try.ntmps74
      go_wp2
      go_ret
      exact ⟨rfl, rfl⟩
end Go.Proofs.Ytidpbdhhbeaijab
