/- Joined: Mul, Ints1, Ints2, Div1: words and contracts; no statement of the seat is proved here. -/
import Derived.Test.YtidpbdhhbeaijabJoin4Folds
import Derived.Deep.RegionHeld3
/- Contract of arith.mulLimbs; it proves no statement of the seat. -/
namespace Go.Proofs.Ytidpbdhhbeaijab
open Go.RowKit

theorem mul_step (A P Q c Z0 x Y y z d c' B : Nat) (h : A + P * Q * c = Z0 + P * x * Y) (hs : d + B * c' = x * y + z + c) :
    (A + P * Q * d) + P * Q * B * c' = (Z0 + P * Q * z) + P * x * (Y + Q * y) := by
  have e := congrArg (P * Q * ·) hs
  simp only [Nat.mul_add, Nat.mul_assoc] at *
  have e2 : Q * (x * y) = x * (Q * y) := by rw [← Nat.mul_assoc, Nat.mul_comm Q x, Nat.mul_assoc]
  rw [e2] at e
  omega

theorem mul_end (A P Q c V0 x Y X : Nat) (h : A + P * Q * c = V0 + P * x * Y) (h0 : V0 = X * Y) : A + P * Q * c = (X + P * x) * Y := by
  rw [h, h0, Nat.add_mul]

theorem take_zeros (B n k : Nat) : val B ((List.replicate n 0).take k) = 0 := by
  rw [List.take_replicate, val_replicate_zero]

set_option maxHeartbeats 4000000 in
theorem mulLimbs_any (ao bo : Option Addr) (n m cap cap' : Nat) (xs ys : List Nat) (w : World) (hn : xs.length = n) (hm : ys.length = m) (h1 : n ≤ 4000) (h2 : m ≤ 4000) (hs : Seg .u32 w ao xs) (ht : Seg .u32 w bo ys) (hdx : Digs 4294967296 xs) (hdy : Digs 4294967296 ys) :
    Calls Try.prog 64 #[.slice ao n cap, .slice bo m cap'] w fun e w' => ∃ v, e = .returned v ∧ LimR w' v (val 4294967296 xs * val 4294967296 ys) 9001 ∧ Below w.heap.size w w' := by
  have HN : Hid (xs.length = n) := hn
  have HM : Hid (ys.length = m) := hm
  clear hn hm
  go_enter Try.func64, Try.ntmps64
  go_wp2_with (first
    | (at_make; refine wpList_make_nums _ rfl _ _ 23 rfl 91 .u32 4 Try.underlying23 Try.info91 _ _ _ _ (n + m) rfl rfl (by omega) (by omega) (by decide) (by omega) ?_; intro w1 hr1 hb1 hz1))
  go_loopw [20] (fun i wr => ∃ k : Nat, ∃ zs, k ≤ n ∧ i = .int .i64 k ∧ Hid (zs.length = n + m) ∧ Digs 4294967296 zs ∧ Hid (val 4294967296 (zs.take (k + m)) = val 4294967296 (xs.take k) * val 4294967296 ys) ∧ Row .u32 91 wr w.heap.size zs ∧ Below w.heap.size w wr) (fun i _ => n - (intOf i).toNat)
  case atStart => exact ⟨0, _, Nat.zero_le _, rfl, (by simp : _ = _), Digs.replicate _ _ (by decide), (by rw [take_zeros]; simp [val] : _ = _), hr1, hb1⟩
  case round =>
    obtain ⟨k, z0, hk, rfl, HZ0, hzd0, HV0, hrow0, hbel0⟩ := hrel
    by_cases h0 : k < n
    · obtain ⟨b, off, rfl, hcs⟩ := hs.open k (by have := HN.out; omega)
      have hbw : b < w.heap.size := World.block_lt_of_cell? w ⟨b, off + k, none⟩ (hcs k (by have := HN.out; omega))
      have hcell := (hbel0.cell (p := ⟨b, off + k, none⟩) hbw).trans (hcs k (by have := HN.out; omega))
      obtain ⟨x, hx⟩ : ∃ x, x = xs.getD k 0 := ⟨_, rfl⟩
      have hxl : x < 4294967296 := hx ▸ hdx.getD (by decide) k
      rw [← hx] at hcell
      have HX : Hid (x = xs.getD k 0) := hx
      clear hx hcs hr1 hb1 hz1
      go_wp2
      go_loopw [8, 27] (fun c i wr => ∃ j cN : Nat, ∃ zs, j ≤ m ∧ i = .int .i64 j ∧ c = .int .u64 cN ∧ cN < 4294967296 ∧ Hid (zs.length = n + m) ∧ Digs 4294967296 zs ∧ Hid (zs.drop (k + j) = z0.drop (k + j)) ∧
        Hid (val 4294967296 (zs.take (k + j)) + 4294967296 ^ k * 4294967296 ^ j * cN = val 4294967296 (z0.take (k + j)) + 4294967296 ^ k * x * val 4294967296 (ys.take j)) ∧ Row .u32 91 wr w.heap.size zs ∧ Below w.heap.size w wr) (fun _ i _ => m - (intOf i).toNat)
      case atStart => exact ⟨0, 0, z0, Nat.zero_le _, rfl, rfl, by omega, HZ0, hzd0, (rfl : _ = _), (by simp [val] : _ = _), hrow0, hbel0⟩
      case round =>
        obtain ⟨j, cN, zs, hj, rfl, rfl, hcl, HZ, hzd, HD, HV, hrow, hbel⟩ := hrel
        by_cases hjm : j < m
        · obtain ⟨b2, off2, rfl, hcs2⟩ := ht.open j (by have := HM.out; omega)
          have hbw2 : b2 < w.heap.size := World.block_lt_of_cell? w ⟨b2, off2 + j, none⟩ (hcs2 j (by have := HM.out; omega))
          have hcell2 := (hbel.cell (p := ⟨b2, off2 + j, none⟩) hbw2).trans (hcs2 j (by have := HM.out; omega))
          obtain ⟨y, hy⟩ : ∃ y, y = ys.getD j 0 := ⟨_, rfl⟩
          have hyl : y < 4294967296 := hy ▸ hdy.getD (by decide) j
          rw [← hy] at hcell2
          have HY : Hid (y = ys.getD j 0) := hy
          have hout := hrow.cell (k + j) (by have := HZ.out; omega)
          obtain ⟨z, hz⟩ : ∃ z, z = zs.getD (k + j) 0 := ⟨_, rfl⟩
          rw [← hz] at hout
          have hzl : z < 4294967296 := hz ▸ hzd.getD (by decide) (k + j)
          have HZZ : Hid (z = z0.getD (k + j) 0) := by show _ = _; rw [hz, getD_drop0 zs _ (k + j) HD.out]
          have hfr := hrow.frozen (k + j)
          have hprod := mul_lt_word x y hxl hyl
          have hprod' : (x : Int) * (y : Int) ≤ 18446744065119617025 := by rw [← Int.natCast_mul]; omega
          have hprod0 : 0 ≤ (x : Int) * (y : Int) := by rw [← Int.natCast_mul]; omega
          clear hy hz hcs2 hprod
          go_wp2
          go_roundw
          case rel =>
            have hprod := mul_lt_word x y hxl hyl
            refine ⟨j + 1, (x * y + z + cN) / 4294967296, zs.set (k + j) ((x * y + z + cN) % 4294967296), by omega, by go_num, rfl, by omega, ?_, hzd.set _ _ (Nat.mod_lt _ (by decide)), ?_, ?_, hrow.set (k + j) _ _ rfl, hbel.setCell (Nat.le_refl _) _⟩
            · show _ = _
              rw [List.length_set]; exact HZ.out
            · show _ = _
              rw [← Nat.add_assoc, drop_set_succ]; exact drop_succ_of _ _ _ HD.out
            · show _ = _
              rw [← Nat.add_assoc, val_set_succ _ _ _ _ (by have := HZ.out; omega), val_take_succ', val_take_succ', ← HZZ.out, ← HY.out, Nat.pow_succ, Nat.pow_add, ← Nat.mul_assoc]
              exact mul_step _ _ _ _ _ _ _ _ _ _ _ _ HV.out (Nat.mod_add_div _ _)
          case measure => simp [intOf]; omega
        · have hjm' : j = m := by omega
          subst hjm'
          have hout := hrow.cell (k + j) (by have := HZ.out; omega)
          obtain ⟨z, hz⟩ : ∃ z, z = zs.getD (k + j) 0 := ⟨_, rfl⟩
          rw [← hz] at hout
          have hfr := hrow.frozen (k + j)
          clear hz
          go_wp2
          go_roundw
          case rel =>
            refine ⟨k + 1, zs.set (k + j) cN, by omega, by go_num, ?_, hzd.set _ _ hcl, ?_, hrow.set (k + j) _ _ rfl, hbel.setCell (Nat.le_refl _) _⟩
            · show _ = _
              rw [List.length_set]; exact HZ.out
            · show _ = _
              have h5 := HV.out
              rw [List.take_of_length_le (l := ys) (by have := HM.out; omega)] at h5
              rw [show k + 1 + j = k + j + 1 by omega, val_set_succ _ _ _ _ (by have := HZ.out; omega), val_take_succ', ← HX.out, Nat.pow_add]
              exact mul_end _ _ _ _ _ _ _ _ h5 HV0.out
          case measure => simp [intOf]; omega
    · have hkn : k = n := by omega
      subst hkn
      have HV2 : Hid (val 4294967296 z0 = val 4294967296 xs * val 4294967296 ys) := by
        show _ = _
        have h := HV0.out
        rw [List.take_of_length_le (by have := HZ0.out; omega), List.take_of_length_le (by have := HN.out; omega)] at h
        exact h
      have hsg := hrow0.all
      go_wp2_with (go_at_call 66; refine (trimmed_any (some ⟨w.heap.size, 0, none⟩) (k + m) (k + m) z0 _ HZ0.out (Nat.le_refl _) (by unfold maxLen; omega) hsg).mono ?_; rintro e w' ⟨rfl, rfl⟩)
      go_ret
      refine ⟨_, rfl, ?_, hbel0⟩
      have h5 := LimR.row hrow0 hzd0 (k + m) 9001 (by rw [HZ0.out]; exact Nat.le_refl _) (by omega)
      rw [HV2.out] at h5
      exact h5
end Go.Proofs.Ytidpbdhhbeaijab
/- Contracts of arith.gcdWords and From; they prove no statement of the seat. -/
namespace Go.Proofs.Ytidpbdhhbeaijab
open Go.RowKit

set_option maxHeartbeats 1000000 in
theorem gcdWords_any (a b : Nat) (w : World) (ha : (a : Int) < 18446744073709551616) (hb : (b : Int) < 18446744073709551616) :
    Calls Try.prog 62 #[.int .u64 a, .int .u64 b] w fun e w' => e = .returned (.int .u64 (Nat.gcd a b)) ∧ Below w.heap.size w w' := by
  go_enter Try.func62, Try.ntmps62
  go_wp2
  go_loopw [0, 1] (fun u v wr => ∃ x y : Nat, u = .int .u64 x ∧ v = .int .u64 y ∧ (x : Int) < 18446744073709551616 ∧ (y : Int) < 18446744073709551616 ∧ Hid (Nat.gcd x y = Nat.gcd a b) ∧ Below w.heap.size w wr) (fun _ v _ => (intOf v).toNat)
  case atStart => exact ⟨a, b, rfl, rfl, ha, hb, (rfl : _ = _), Below.refl _ _⟩
  case round =>
    obtain ⟨x, y, rfl, rfl, hx, hy, HG, hbel⟩ := hrel
    by_cases h0 : y = 0
    · have hn : ((y : Int) != 0) = false := by rw [bne_eq_false_iff_eq]; omega
      have HY : Hid (y = 0) := h0
      clear h0
      go_wp2
      go_ret
      refine ⟨?_, hbel⟩
      have h1 := HG.out
      rw [HY.out, Nat.gcd_zero_right] at h1
      rw [h1]
      rfl
    · have hn : ((y : Int) != 0) = true := by rw [bne_iff_ne]; omega
      have hm : x % y < y := Nat.mod_lt _ (by omega)
      have hm' : (x : Int) % (y : Int) < (y : Int) := by rw [← Int.natCast_emod]; omega
      have hm0 : 0 ≤ (x : Int) % (y : Int) := by rw [← Int.natCast_emod]; exact Int.natCast_nonneg _
      go_wp2
      go_region
      go_wp2
      go_roundw
      case rel =>
        refine ⟨y, x % y, rfl, by rw [Int.natCast_emod], hy, by omega, ?_, hbel.drew⟩
        show _ = _
        rw [← HG.out, Nat.gcd_comm, ← Nat.gcd_rec, Nat.gcd_comm]
      case measure => simp [intOf]; omega

theorem words_val (n : Nat) : val 4294967296 [n % 4294967296, n / 4294967296] = n := by
  simp [val]; omega
theorem words_digs (n : Nat) (h : n < 18446744073709551616) : Digs 4294967296 [n % 4294967296, n / 4294967296] :=
  Digs.cons (Nat.mod_lt _ (by decide)) (Digs.cons (by omega) (Digs.nil _))

theorem word_lim : 18446744073709551616 ≤ lim := by decide +kernel

/-- arith's signed of a word's limbs. -/
theorem splitWord_int (n : Nat) (N : Int) (hN : N = (n : Int)) (w : World) (hn : n < 18446744073709551616) :
    Calls Try.prog 44 #[.int .u64 N] w fun e w' => ∃ v, e = .returned v ∧ LimR w' v n 2 ∧ Below w.heap.size w w' := by
  subst hN
  refine (splitWord_any n w (by omega)).mono ?_
  rintro e w' ⟨rfl, hr, hb, _⟩
  refine ⟨_, rfl, ?_, hb⟩
  have h := LimR.row hr (words_digs n hn) 2 2 (Nat.le_refl _) (Nat.le_refl _)
  rw [words_val] at h
  exact h

theorem signed_lim (neg : Bool) (v : Value) (N L : Nat) (w : World) (hv : LimR w v N L) (hL : L ≤ 10000) (hlim : N < lim) :
    Calls Try.prog 43 #[.bool neg, v] w fun e w' => ∃ v', e = .returned v' ∧ AInt w' v' (sv neg N) ∧ Below w.heap.size w w' := by
  obtain ⟨ao, cap, ls, rfl, h1, h2, hs, hd, hn, rfl⟩ := hv
  refine (signed_any neg ao ls.length cap ls w rfl h1 (by omega) hs hd).mono ?_
  rintro e w' ⟨v', neg', rfl, hv', hsv, hb⟩
  refine ⟨v', rfl, ⟨neg', trimZ ls, hv', ?_, by rw [val_trimZ]; exact hlim⟩, hb⟩
  rw [val_trimZ, hsv]

theorem fitting_lim (neg : Bool) (v : Value) (N L : Nat) (w : World) (hv : LimR w v N L) (hL : L ≤ 10000) :
    Calls Try.prog 45 #[.bool neg, v] w fun e w' => ∃ v' c, e = .returned (.tuple #[v', .int .i64 c]) ∧ Held w' v' c (sv neg N) ∧ Below w.heap.size w w' := by
  obtain ⟨ao, cap, ls, rfl, h1, h2, hs, hd, hn, rfl⟩ := hv
  exact fitting_any neg ao ls.length cap ls w rfl h1 (by omega) hs hd

set_option maxHeartbeats 1000000 in
theorem from_any (n : Int) (w : World) (h1 : -9223372036854775808 ≤ n) (h2 : n ≤ 9223372036854775807) :
    Calls Try.prog 21 #[.int .i64 n] w fun e w' => ∃ v, e = .returned v ∧ AInt w' v n ∧ Below w.heap.size w w' := by
  have B0 := Blk.new w 25 #[.bool false, .slice none 0 0]
  by_cases hneg : n < 0
  · go_enter Try.func21, Try.ntmps21
    go_wp2_with fail
    refine (splitWord_int n.natAbs _ (by omega) _ (by omega)).mono ?_
    rintro e w1 ⟨v1, rfl, hl1, hb1⟩
    have B1 := B0.stay hb1
    go_wp2_with fail
    refine (signed_lim true v1 n.natAbs 2 _ hl1 (by decide) (by have := word_lim; omega)).mono ?_
    rintro e w2 ⟨v2, rfl, ha2, hb2⟩
    obtain ⟨x, a, m, c, rfl⟩ := ha2.shape
    have B2 := B1.stay hb2
    obtain ⟨c0, c1, f0, f1⟩ := B2.two
    go_wp2
    refine bodyPost_ret (v := .agg #[.bool x, .slice a m c]) (by simp [results, Try.results21, go_sem, c0, c1]) rfl ?_
    refine ⟨_, rfl, ?_, below_store2 ((((Below.refl _ _).alloc (Nat.le_refl _) _).step hb1 (Nat.le_refl _)).step hb2 (Nat.le_refl _)) (Nat.le_refl _) _ _⟩
    have e : sv true n.natAbs = n := by simp [sv]; omega
    rw [e] at ha2
    exact ha2.store2 B2 _ _ _ _
  · go_enter Try.func21, Try.ntmps21
    go_wp2_with fail
    refine (splitWord_int n.natAbs _ (by omega) _ (by omega)).mono ?_
    rintro e w1 ⟨v1, rfl, hl1, hb1⟩
    have B1 := B0.stay hb1
    go_wp2_with fail
    refine (signed_lim false v1 n.natAbs 2 _ hl1 (by decide) (by have := word_lim; omega)).mono ?_
    rintro e w2 ⟨v2, rfl, ha2, hb2⟩
    obtain ⟨x, a, m, c, rfl⟩ := ha2.shape
    have B2 := B1.stay hb2
    obtain ⟨c0, c1, f0, f1⟩ := B2.two
    go_wp2
    refine bodyPost_ret (v := .agg #[.bool x, .slice a m c]) (by simp [results, Try.results21, go_sem, c0, c1]) rfl ?_
    refine ⟨_, rfl, ?_, below_store2 ((((Below.refl _ _).alloc (Nat.le_refl _) _).step hb1 (Nat.le_refl _)).step hb2 (Nat.le_refl _)) (Nat.le_refl _) _ _⟩
    have e : sv false n.natAbs = n := by simp [sv]; omega
    rw [e] at ha2
    exact ha2.store2 B2 _ _ _ _
end Go.Proofs.Ytidpbdhhbeaijab
/- Contract of arith.Mul; it proves no statement of the seat. -/
namespace Go.Proofs.Ytidpbdhhbeaijab
open Go.RowKit

theorem sv_mul (a b : Bool) (m n : Nat) : sv (!(a == b)) (m * n) = sv a m * sv b n := by
  cases a <;> cases b <;> simp [sv, Int.natCast_mul, Int.neg_mul, Int.mul_neg]

set_option maxHeartbeats 4000000 in
theorem mul_any (va vb : Value) (x y : Int) (w : World) (ha : AInt w va x) (hb : AInt w vb y) :
    Calls Try.prog 35 #[va, vb] w fun e w' => ∃ v c, e = .returned (.tuple #[v, .int .i64 c]) ∧ Held w' v c (x * y) ∧ Below w.heap.size w w' := by
  obtain ⟨na, xs, hva, hxe, hxl⟩ := ha
  obtain ⟨nb, ys, hvb, hye, hyl⟩ := hb
  have hl1 := AInt.len hva hxl
  have hl2 := AInt.len hvb hyl
  obtain ⟨ao, cap, rfl, h1, h2, hs, hd, hn, h3⟩ := hva
  obtain ⟨bo, cap', rfl, k1, k2, ks, kd, kn, k3⟩ := hvb
  have HXY : Hid (x * y = sv (!(na == nb)) (val 4294967296 xs * val 4294967296 ys)) := by show _ = _; rw [sv_mul, hxe, hye]
  clear hxe hye hxl hyl h3 k3
  have A0 := ((Blk.new w 25 #[.bool na, .slice ao xs.length cap]).alloc (.cells #[.bool nb, .slice bo ys.length cap'] 25 (0, 0))).alloc (.cells #[.bool false, .slice none 0 0] 25 (0, 0))
  have B0 := (Blk.new (w.alloc (.cells #[.bool na, .slice ao xs.length cap] 25 (0, 0))) 25 #[.bool nb, .slice bo ys.length cap']).alloc (.cells #[.bool false, .slice none 0 0] 25 (0, 0))
  have R0 := Blk.new ((w.alloc (.cells #[.bool na, .slice ao xs.length cap] 25 (0, 0))).alloc (.cells #[.bool nb, .slice bo ys.length cap'] 25 (0, 0))) 25 #[.bool false, .slice none 0 0]
  simp only [World.size_alloc] at B0 R0
  have hbw : Below w.heap.size w (((w.alloc (.cells #[.bool na, .slice ao xs.length cap] 25 (0, 0))).alloc (.cells #[.bool nb, .slice bo ys.length cap'] 25 (0, 0))).alloc (.cells #[.bool false, .slice none 0 0] 25 (0, 0))) := by go_grown
  go_enter Try.func35, Try.ntmps35
  go_wp2
  go_region_held3 (fun w' => w'.cell? ⟨w.heap.size, 0, none⟩ = some (.bool na) ∧ w'.cell? ⟨w.heap.size, 1, none⟩ = some (.slice ao xs.length cap) ∧ w'.cell? ⟨w.heap.size + 1, 0, none⟩ = some (.bool nb) ∧ w'.cell? ⟨w.heap.size + 1, 1, none⟩ = some (.slice bo ys.length cap'))
    (simp [*, go_sem])
    (first
      | (go_at_call 64; refine (mulLimbs_any ao bo xs.length ys.length cap cap' xs ys _ rfl rfl (by omega) (by omega) (hs.below hbw.drew) (ks.below hbw.drew) hd kd).mono ?_; rintro e w1 ⟨v1, rfl, hl, hb1⟩; have A1 := Blk.stay A0.drew hb1; have B1 := Blk.stay B0.drew hb1; have R1 := Blk.stay R0.drew hb1; obtain ⟨ca0, ca1, _, _⟩ := A1.two; obtain ⟨cb0, cb1, _, _⟩ := B1.two)
      | (go_at_call 45; refine (fitting_lim _ v1 _ 9001 _ hl (by decide)).mono ?_; rintro e w2 ⟨v2, c, rfl, hheld, hb2⟩; obtain ⟨xx, aa, nn, cc, rfl⟩ := hheld.shape; obtain ⟨da0, da1, _, _⟩ := (A1.stay hb2).two; obtain ⟨db0, db1, _, _⟩ := (B1.stay hb2).two; have R2 := R1.stay hb2; obtain ⟨r0, r1, q0, q1⟩ := R2.two))
  go_wp2
  refine bodyPost_ret (v := .tuple #[.agg #[.bool xx, .slice aa nn cc], .int .i64 c]) (by simp [results, Try.results35, go_sem, r0, r1]) rfl ?_
  refine ⟨_, _, rfl, ?_, below_store2 (((hbw.drew).step hb1 (Nat.le_refl _)).step hb2 (Nat.le_refl _)) (by omega) _ _⟩
  rw [HXY.out]
  exact hheld.store2 R2 _ _ _ _
end Go.Proofs.Ytidpbdhhbeaijab
/- Contract of arith.divLimbs where the divisor is greater or has one limb; it proves no statement of the seat. -/
namespace Go.Proofs.Ytidpbdhhbeaijab
open Go.RowKit

/-- What arith.divLimbs answers: the quotient and the rest. -/
def DivC (xs ys : List Nat) : Prop := ∀ (ao bo : Option Addr) (cap cap' : Nat) (w : World), Seg .u32 w ao xs → Seg .u32 w bo ys →
  Calls Try.prog 61 #[.slice ao xs.length cap, .slice bo ys.length cap'] w fun e w' => ∃ v1 v2, e = .returned (.tuple #[v1, v2]) ∧ LimR w' v1 (val 4294967296 xs / val 4294967296 ys) 9001 ∧ LimR w' v2 (val 4294967296 xs % val 4294967296 ys) 9001 ∧ Below w.heap.size w w'

theorem LimR.all {t : TypeId} {w : World} {g : Nat} {zs : List Nat} (h : Row .u32 t w g zs) (hd : Digs 4294967296 zs) (hn : Norm zs) (L : Nat) (hL : zs.length ≤ L) : LimR w (.slice (some ⟨g, 0, none⟩) zs.length zs.length) (val 4294967296 zs) L :=
  ⟨_, _, zs, rfl, Nat.le_refl _, hL, h.all, hd, hn, rfl⟩
theorem LimR.nil (w : World) (L : Nat) : LimR w (.slice none 0 0) 0 L := ⟨none, 0, [], rfl, Nat.le_refl _, Nat.zero_le _, Seg.nil _ _ _, Digs.nil _, Norm.nil, rfl⟩

theorem cmpL_neg {B : Nat} {xs ys : List Nat} (hB : 0 < B) (hx : Digs B xs) (hy : Digs B ys) (nx : Norm xs) (ny : Norm ys) : cmpL B xs ys < 0 ↔ val B xs < val B ys := by
  rw [cmpL_norm hB hx hy nx ny, Int.sign_neg_iff]
  omega

set_option maxHeartbeats 1000000 in
theorem divLimbs_less (xs ys : List Nat) (hl : xs.length ≤ 9000) (hl' : ys.length ≤ 9000) (hdx : Digs 4294967296 xs) (hdy : Digs 4294967296 ys) (nx : Norm xs) (ny : Norm ys) (hlt : val 4294967296 xs < val 4294967296 ys) : DivC xs ys := by
  intro ao bo cap cap' w hs ht
  have hc : cmpL 4294967296 xs ys < 0 := (cmpL_neg (by decide) hdx hdy nx ny).2 hlt
  have HL : Hid (val 4294967296 xs < val 4294967296 ys) := hlt
  clear hlt
  go_enter Try.func61, Try.ntmps61
  go_wp2_with fail
  refine (cmpLimbs_any ao bo xs.length ys.length cap cap' xs ys _ rfl rfl (by omega) (by omega) hs ht hdx hdy).mono ?_
  rintro e w1 ⟨rfl, hb1⟩
  go_wp2_with (go_at_call 60; refine (copied_any ao xs.length cap xs _ rfl (by omega) (hs.below hb1)).mono ?_; rintro e w2 ⟨rfl, hr2, hb2, _⟩)
  go_ret2
  refine ⟨_, _, rfl, ?_, ?_, hb1.step hb2 (Nat.le_refl _)⟩
  · rw [Nat.div_eq_of_lt HL.out]; exact LimR.nil _ _
  · rw [Nat.mod_eq_of_lt HL.out]; exact LimR.all hr2 hdx nx 9001 (by omega)

theorem drop_none (xs : List Nat) (n : Nat) (h : xs.length = n) : xs.drop n = [] := by rw [← h, List.drop_length]

set_option maxHeartbeats 1000000 in
theorem divLimbs_one (xs ys : List Nat) (hl : xs.length ≤ 9000) (hl' : ys.length = 1) (hdx : Digs 4294967296 xs) (hdy : Digs 4294967296 ys) (nx : Norm xs) (ny : Norm ys) (hge : val 4294967296 ys ≤ val 4294967296 xs) : DivC xs ys := by
  intro ao bo cap cap' w hs ht
  have hc : ¬ cmpL 4294967296 xs ys < 0 := fun h => by have := (cmpL_neg (by decide) hdx hdy nx ny).1 h; omega
  obtain ⟨b, off, rfl, hcs⟩ := ht.open 0 (by omega)
  have hc0 := hcs 0 (by omega)
  obtain ⟨y, hy⟩ : ∃ y, y = ys.getD 0 0 := ⟨_, rfl⟩
  rw [← hy, Nat.add_zero] at hc0
  have hyl : y < 4294967296 := hy ▸ hdy.getD (by decide) 0
  have hy0 : 0 < y := by
    have := ny.last (by omega)
    rw [hl'] at this
    rw [hy]; exact Nat.pos_of_ne_zero this
  have HYV : Hid (val 4294967296 ys = y) := by
    show _ = _
    match ys, hl', hy with
    | [z], _, hy => simp at hy; simp [val, hy]
  have hbw : b < w.heap.size := World.block_lt_of_cell? w ⟨b, off, none⟩ hc0
  have HLY : Hid (ys.length = 1) := hl'
  have hone : (((ys.length : Nat) : Int) == 1) = true := by rw [beq_iff_eq]; omega
  clear hcs hy hl' hge
  go_enter Try.func61, Try.ntmps61
  go_wp2_with fail
  refine (cmpLimbs_any ao _ xs.length ys.length cap cap' xs ys _ rfl rfl (by omega) (by have := HLY.out; omega) hs ht hdx hdy).mono ?_
  rintro e w1 ⟨rfl, hb1⟩
  go_wp2_with fail
  refine (copied_any ao xs.length cap xs _ rfl (by omega) (hs.below hb1)).mono ?_
  rintro e w2 ⟨rfl, hr2, hb2, _⟩
  have hb12 := hb1.step hb2 (Nat.le_refl _)
  have hcell : w2.cell? ⟨b, off, none⟩ = some (.int .u32 y) := (hb12.cell (p := ⟨b, off, none⟩) hbw).trans hc0
  have hyn : 0 < ys.length := by have := HLY.out; omega
  go_wp2_with fail
  refine (shrinkLimbs_any w1.heap.size xs.length xs.length y xs _ (Nat.le_refl _) (by omega) hr2 hdx hy0 hyl).mono ?_
  rintro e w3 ⟨r, qs, rfl, hr, hql, hqd, hqv, hr3, honly⟩
  rw [List.take_length] at hqv
  rw [drop_none xs _ rfl, List.append_nil] at hr3
  have HQ : Hid (qs.length = xs.length ∧ val 4294967296 xs = val 4294967296 qs * y + r) := ⟨hql, hqv⟩
  clear hql hqv
  go_wp2_with fail
  refine (trimmed_any (some ⟨w1.heap.size, 0, none⟩) xs.length xs.length qs _ HQ.out.1 (Nat.le_refl _) (by unfold maxLen; omega) hr3.all).mono ?_
  rintro e w3' ⟨rfl, rfl⟩
  go_wp2_with fail
  have hr4 := Row.new w3' .u32 91 [r]
  refine (trimmed_any (some ⟨w3'.heap.size, 0, none⟩) 1 1 [r] _ rfl (Nat.le_refl _) (by unfold maxLen; omega) hr4.all).mono ?_
  rintro e w4 ⟨rfl, rfl⟩
  go_wp2
  go_ret2
  have e1 : val 4294967296 xs / val 4294967296 ys = val 4294967296 qs := by
    rw [HYV.out, HQ.out.2, Nat.mul_comm, Nat.mul_add_div hy0, Nat.div_eq_of_lt hr, Nat.add_zero]
  have e2 : val 4294967296 xs % val 4294967296 ys = val 4294967296 [r] := by
    rw [HYV.out, HQ.out.2, Nat.mul_comm, Nat.mul_add_mod, Nat.mod_eq_of_lt hr]; simp [val]
  have hb3 : Below w.heap.size w w3' := hb12.trans (honly.below hb1.size)
  refine ⟨_, _, rfl, ?_, ?_, hb3.alloc hb3.size _⟩
  · rw [e1]
    exact (LimR.row hr3 hqd xs.length 9001 (by rw [HQ.out.1]; exact Nat.le_refl _) (by omega)).below ((Below.refl _ _).alloc (Nat.le_refl _) _)
  · rw [e2]
    exact LimR.row hr4 (Digs.cons (by omega) (Digs.nil _)) 1 9001 (Nat.le_refl _) (by decide)
end Go.Proofs.Ytidpbdhhbeaijab
