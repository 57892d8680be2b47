/- Joined: RLess, RInts1, RMul, RFrom: words and contracts; no statement of the seat is proved here. -/
import Derived.Test.YteefniagebcagaaGreatDoorJoin7Tells
import Derived.Test.YteefniagebcagaaGreatDoorJoin12Tells
import Derived.Test.YteefniagebcagaaGreatDoorJoin11Tells
import Derived.Test.YteefniagebcagaaGreatDoorJoin5Tells
/- Contract of suretyref01.less; it proves no statement of the seat. -/
namespace Go.Proofs.YteefniagebcagaaGreatDoor
open Go.RowKit

theorem less_step {P A Y X bo x y d bo' : Nat} (h : A + Y = X + P * bo) (hs : d + y + bo = x + 10 * bo') : (A + P * d) + (Y + P * y) = (X + P * x) + P * 10 * bo' := by
  have e := congrArg (P * ·) hs
  simp only [Nat.mul_add] at e
  rw [Nat.mul_assoc P 10 bo']
  omega

set_option maxHeartbeats 4000000 in
theorem rless_any (ao bo' : Option Addr) (n m cap cap' : Nat) (xs ys : List Nat) (w : World) (hn : xs.length = n) (hm : ys.length = m) (h1 : n ≤ 10000) (h2 : m ≤ n) (hs : Seg .i64 w ao xs) (ht : Seg .i64 w bo' ys) (hdx : Digs 10 xs) (hdy : Digs 10 ys) (hle : val 10 ys ≤ val 10 xs) :
    Calls Tryz.prog 98 #[.slice ao n cap, .slice bo' m cap'] w fun e w' => ∃ v, e = .returned v ∧ ∃ zs, Own .i64 3 w.heap.size w' v zs ∧ Digs 10 zs ∧ val 10 zs = val 10 xs - val 10 ys ∧ zs.length = n ∧ Below w.heap.size w w' := by
  have HN : Hid (xs.length = n) := hn
  have HM : Hid (ys.length = m) := hm
  have HLE : Hid (val 10 ys ≤ val 10 xs) := hle
  clear hn hm hle
  go_enter Tryz.func98, Tryz.ntmps98
  go_wp2
  go_loopw [5, 6, 7] (fun v c i wr => ∃ k bo : Nat, ∃ zs, k ≤ n ∧ i = .int .i64 k ∧ c = .int .i64 bo ∧ bo ≤ 1 ∧ Hid (zs.length = k) ∧ Digs 10 zs ∧ Own .i64 3 w.heap.size wr v zs ∧ Hid (val 10 zs + val 10 (ys.take k) = val 10 (xs.take k) + 10 ^ k * bo) ∧ Below w.heap.size w wr ∧ w.heap.size ≤ wr.heap.size) (fun _ _ i _ => n - (intOf i).toNat)
  case atStart => exact ⟨0, 0, [], Nat.zero_le _, rfl, rfl, by omega, (rfl : _ = _), Digs.nil _, Own.nil _ _ _ _, (by simp [val] : _ = _), Below.refl _ _, Nat.le_refl _⟩
  case round =>
    obtain ⟨k, bo, zs, hk, rfl, rfl, hc, HZ, hzd, hown, HV, hbel, hsz⟩ := hrel
    have hs' := hs.below hbel
    have ht' := ht.below hbel
    have HZL : Hid (zs.length ≤ 100000) := by show _ ≤ _; rw [HZ.out]; omega
    by_cases ha : k < n
    · obtain ⟨x, hx⟩ : ∃ x, x = xs.getD k 0 := ⟨_, rfl⟩
      obtain ⟨y, hy⟩ : ∃ y, y = ys.getD k 0 := ⟨_, rfl⟩
      have hx10 : x < 10 := hx ▸ hdx.getD (by decide) k
      have hy10 : y < 10 := hy ▸ hdy.getD (by decide) k
      have HX : Hid (x = xs.getD k 0) := hx
      have HY : Hid (y = ys.getD k 0) := hy
      clear hx hy
      obtain ⟨b, off, rfl, hc1⟩ := hs'.open k (by have := HN.out; omega)
      have c1 := hc1 k (by have := HN.out; omega)
      rw [← HX.out] at c1
      clear hc1 hs'
      by_cases hb : k < m
      · obtain ⟨b2, off2, rfl, hc2⟩ := ht'.open k (by have := HM.out; omega)
        have c2 := hc2 k (by have := HM.out; omega)
        rw [← HY.out] at c2
        clear hc2 ht'
        by_cases hng : x < bo + y
        · have g : decide ((x : Int) - (bo : Int) - (y : Int) < 0) = true := by simp; omega
          go_wp2_with (at_builtin; refine wpList_append_num rfl (.tmp 35) (.tmp 37) 37 rfl w.heap.size 3 .i64 8 Tryz.underlying37 Tryz.info3 (by decide) _ _ rfl hown _ (x + 10 - bo - y) (by omega) rfl HZL.out hsz ?_; intro v' w3 hown3 hblk3 hbel3)
          go_roundw
          case rel =>
            refine ⟨k + 1, 1, zs ++ [(x + 10 - bo - y)], by omega, by go_num, rfl, by omega, ?_, hzd.append (Digs.cons (by omega) (Digs.nil _)), hown3, ?_, hbel.trans hbel3, by have := hbel3.size; omega⟩
            · show _ = _
              rw [List.length_append, HZ.out]; rfl
            · show _ = _
              rw [val_snoc, HZ.out, val_take_succ', val_take_succ', ← HX.out, ← HY.out, Nat.pow_succ]
              exact less_step HV.out (by omega)
          case measure => simp [intOf]; omega
        · have g : decide ((x : Int) - (bo : Int) - (y : Int) < 0) = false := by simp; omega
          go_wp2_with (at_builtin; refine wpList_append_num rfl (.tmp 35) (.tmp 37) 37 rfl w.heap.size 3 .i64 8 Tryz.underlying37 Tryz.info3 (by decide) _ _ rfl hown _ (x - bo - y) (by omega) rfl HZL.out hsz ?_; intro v' w3 hown3 hblk3 hbel3)
          go_roundw
          case rel =>
            refine ⟨k + 1, 0, zs ++ [(x - bo - y)], by omega, by go_num, rfl, by omega, ?_, hzd.append (Digs.cons (by omega) (Digs.nil _)), hown3, ?_, hbel.trans hbel3, by have := hbel3.size; omega⟩
            · show _ = _
              rw [List.length_append, HZ.out]; rfl
            · show _ = _
              rw [val_snoc, HZ.out, val_take_succ', val_take_succ', ← HX.out, ← HY.out, Nat.pow_succ]
              exact less_step HV.out (by omega)
          case measure => simp [intOf]; omega
      · have HY0 : Hid (y = 0) := by
          show _ = _
          rw [HY.out, List.getD_eq_getElem?_getD, List.getElem?_eq_none (by have := HM.out; omega)]; rfl
        clear ht'
        by_cases hng : x < bo
        · have g : decide ((x : Int) - (bo : Int) < 0) = true := by simp; omega
          go_wp2_with (at_builtin; refine wpList_append_num rfl (.tmp 35) (.tmp 37) 37 rfl w.heap.size 3 .i64 8 Tryz.underlying37 Tryz.info3 (by decide) _ _ rfl hown _ (x + 10 - bo) (by omega) rfl HZL.out hsz ?_; intro v' w3 hown3 hblk3 hbel3)
          go_roundw
          case rel =>
            refine ⟨k + 1, 1, zs ++ [(x + 10 - bo)], by omega, by go_num, rfl, by omega, ?_, hzd.append (Digs.cons (by omega) (Digs.nil _)), hown3, ?_, hbel.trans hbel3, by have := hbel3.size; omega⟩
            · show _ = _
              rw [List.length_append, HZ.out]; rfl
            · show _ = _
              rw [val_snoc, HZ.out, val_take_succ', val_take_succ', ← HX.out, ← HY.out, Nat.pow_succ]
              exact less_step HV.out (by have := HY0.out; omega)
          case measure => simp [intOf]; omega
        · have g : decide ((x : Int) - (bo : Int) < 0) = false := by simp; omega
          go_wp2_with (at_builtin; refine wpList_append_num rfl (.tmp 35) (.tmp 37) 37 rfl w.heap.size 3 .i64 8 Tryz.underlying37 Tryz.info3 (by decide) _ _ rfl hown _ (x - bo) (by omega) rfl HZL.out hsz ?_; intro v' w3 hown3 hblk3 hbel3)
          go_roundw
          case rel =>
            refine ⟨k + 1, 0, zs ++ [(x - bo)], by omega, by go_num, rfl, by omega, ?_, hzd.append (Digs.cons (by omega) (Digs.nil _)), hown3, ?_, hbel.trans hbel3, by have := hbel3.size; omega⟩
            · show _ = _
              rw [List.length_append, HZ.out]; rfl
            · show _ = _
              rw [val_snoc, HZ.out, val_take_succ', val_take_succ', ← HX.out, ← HY.out, Nat.pow_succ]
              exact less_step HV.out (by have := HY0.out; omega)
          case measure => simp [intOf]; omega
    · have hkn : k = n := by omega
      subst hkn
      go_wp2
      go_ret
      have h5 := HV.out
      rw [List.take_of_length_le (by have := HM.out; omega), List.take_of_length_le (by have := HN.out; omega)] at h5
      have h6 := val_lt hzd
      rw [HZ.out] at h6
      have hb0 : bo = 0 := by
        rcases Nat.eq_zero_or_pos bo with e | e
        · exact e
        · have e1 : bo = 1 := by omega
          subst e1
          have := HLE.out
          omega
      subst hb0
      exact ⟨_, rfl, zs, hown, hzd, by have := HLE.out; omega, HZ.out, hbel⟩
end Go.Proofs.YteefniagebcagaaGreatDoor
/- Contracts of suretyref01's Cmp, Neg, Abs, From; they prove no statement of the seat. -/
namespace Go.Proofs.YteefniagebcagaaGreatDoor
open Go.RowKit

theorem rtrim_seg (neg : Bool) (v : Value) (xs : List Nat) (z : Int) (w : World) (hv : ∃ ao cap, v = .slice ao xs.length cap ∧ xs.length ≤ cap ∧ cap ≤ maxLen ∧ Seg .i64 w ao xs) (h3 : xs.length ≤ 10000) (hd : Digs 10 xs) (hz' : sv neg (val 10 xs) = z) :
    Calls Tryz.prog 95 #[.bool neg, v] w fun e w' => ∃ s a n c, e = .returned (.agg #[.bool s, .slice a n c]) ∧ RNum w' (.agg #[.bool s, .slice a n c]) z xs.length ∧ Below w.heap.size w w' := by
  obtain ⟨ao, cap, rfl, h1, h2, hs⟩ := hv
  subst hz'
  refine (rtrim_any neg ao xs.length cap xs w rfl h1 h2 h3 hs hd).mono ?_
  rintro e w' ⟨v, rfl, h, hb⟩
  obtain ⟨s, a, n, c, rfl⟩ := h.shape
  exact ⟨s, a, n, c, rfl, h, hb⟩

set_option maxHeartbeats 2000000 in
theorem rneg_any (va : Value) (x : Int) (L : Nat) (w : World) (ha : RNum w va x L) (hL : L ≤ 10000) :
    Calls Tryz.prog 80 #[va] w fun e w' => ∃ s a n c, e = .returned (.agg #[.bool s, .slice a n c]) ∧ RNum w' (.agg #[.bool s, .slice a n c]) (-x) L ∧ Below w.heap.size w w' := by
  obtain ⟨neg, xs, hva, hxe, hxl⟩ := ha
  obtain ⟨ao, cap, rfl, h1, h2, h4, hs, hd, hn, h3, -⟩ := hva
  have HZ : Hid (sv (!neg) (val 10 xs) = -x) := by show _ = _; rw [hxe]; cases neg <;> simp [sv]
  have hbw : Below w.heap.size w ((w.alloc (.cells #[.bool neg, .slice ao xs.length cap] 39 (0, 0))).alloc (.cells #[.bool false, .slice none 0 0] 39 (0, 0))) := by go_grown
  have R0 := Blk.new (w.alloc (.cells #[.bool neg, .slice ao xs.length cap] 39 (0, 0))) 39 #[.bool false, .slice none 0 0]
  simp only [World.size_alloc] at R0
  clear hxe h3
  go_enter Tryz.func80, Tryz.ntmps80
  go_wp2_with fail
  refine (rtrim_seg (!neg) _ xs (-x) _ ⟨ao, cap, rfl, h1, h2, hs.below hbw⟩ (by omega) hd HZ.out).mono ?_
  rintro e w1 ⟨s, a, n, c, rfl, hr, hb1⟩
  have R1 := R0.stay hb1
  obtain ⟨r0, r1, rf0, rf1⟩ := R1.two
  go_wp2
  refine bodyPost_ret (v := .agg #[.bool s, .slice a n c]) (by simp [results, Tryz.results80, go_sem, r0, r1]) rfl ?_
  exact ⟨_, _, _, _, rfl, (hr.mono hxl).store2 R1 _ _ _ _, below_store2 (hbw.step hb1 (Nat.le_refl _)) (by omega) _ _⟩

set_option maxHeartbeats 2000000 in
theorem rabs_any (va : Value) (x : Int) (L : Nat) (w : World) (ha : RNum w va x L) (hL : L ≤ 10000) :
    Calls Tryz.prog 117 #[va] w fun e w' => ∃ s a n c, e = .returned (.agg #[.bool s, .slice a n c]) ∧ RNum w' (.agg #[.bool s, .slice a n c]) (x.natAbs : Int) L ∧ Below w.heap.size w w' := by
  obtain ⟨neg, xs, hva, hxe, hxl⟩ := ha
  obtain ⟨ao, cap, rfl, h1, h2, h4, hs, hd, hn, h3, -⟩ := hva
  have HZ : Hid (sv false (val 10 xs) = (x.natAbs : Int)) := by show _ = _; rw [hxe, sv_natAbs]; simp [sv]
  have hbw : Below w.heap.size w ((w.alloc (.cells #[.bool neg, .slice ao xs.length cap] 39 (0, 0))).alloc (.cells #[.bool false, .slice none 0 0] 39 (0, 0))) := by go_grown
  have R0 := Blk.new (w.alloc (.cells #[.bool neg, .slice ao xs.length cap] 39 (0, 0))) 39 #[.bool false, .slice none 0 0]
  simp only [World.size_alloc] at R0
  clear hxe h3
  go_enter Tryz.func117, Tryz.ntmps117
  go_wp2_with fail
  refine (rtrim_seg false _ xs _ _ ⟨ao, cap, rfl, h1, h2, hs.below hbw⟩ (by omega) hd HZ.out).mono ?_
  rintro e w1 ⟨s, a, n, c, rfl, hr, hb1⟩
  have R1 := R0.stay hb1
  obtain ⟨r0, r1, rf0, rf1⟩ := R1.two
  go_wp2
  refine bodyPost_ret (v := .agg #[.bool s, .slice a n c]) (by simp [results, Tryz.results117, go_sem, r0, r1]) rfl ?_
  exact ⟨_, _, _, _, rfl, (hr.mono hxl).store2 R1 _ _ _ _, below_store2 (hbw.step hb1 (Nat.le_refl _)) (by omega) _ _⟩
end Go.Proofs.YteefniagebcagaaGreatDoor
/- Contract of suretyref01.Mul; it proves no statement of the seat. -/
namespace Go.Proofs.YteefniagebcagaaGreatDoor
open Go.RowKit

end Go.Proofs.YteefniagebcagaaGreatDoor
/- Contract of suretyref01's From; it proves no statement of the seat. -/
namespace Go.Proofs.YteefniagebcagaaGreatDoor
open Go.RowKit

theorem from_word (n : Int) (h1 : -9223372036854775808 ≤ n) (h2 : n < 0) : IntKind.u64.wrap (-IntKind.u64.wrap n) = ((n.natAbs : Nat) : Int) := by
  simp only [IntKind.wrap, IntKind.bits, IntKind.signed]
  simp
  omega

set_option maxHeartbeats 4000000 in
theorem rfrom_any (n : Int) (w : World) (h1 : -9223372036854775808 ≤ n) (h2 : n ≤ 9223372036854775807) :
    Calls Tryz.prog 60 #[.int .i64 n] w fun e w' => ∃ s a m c, e = .returned (.agg #[.bool s, .slice a m c]) ∧ RNum w' (.agg #[.bool s, .slice a m c]) n 20 ∧ Below w.heap.size w w' := by
  have B0 := Blk.new w 39 #[.bool false, .slice none 0 0]
  have HLEN : Hid (∀ k u N : Nat, 0 < u → 10 ^ k * u ≤ N → N < 18446744073709551616 → k < 20) := by
    intro k u N hu h hN
    have h3 : 10 ^ k * 1 ≤ 10 ^ k * u := Nat.mul_le_mul_left _ hu
    have h4 : 10 ^ k < 10 ^ 20 := by omega
    exact (Nat.pow_lt_pow_iff_right (by decide)).1 h4
  by_cases hneg : n < 0
  · go_enter Tryz.func60, Tryz.ntmps60
    go_wp2
    go_loopw [3, 4] (fun uv v wr => ∃ u : Nat, ∃ zs, uv = .int .u64 u ∧ (u : Int) < 18446744073709551616 ∧ Own .i64 3 (w.heap.size + 1) wr v zs ∧ Digs 10 zs ∧ Hid (val 10 zs + 10 ^ zs.length * u = n.natAbs) ∧ Hid (zs.length ≤ 20) ∧ Below (w.heap.size + 1) (w.alloc (.cells #[.bool false, .slice none 0 0] 39)) wr) (fun uv _ _ => (intOf uv).toNat)
    case atStart =>
      refine ⟨n.natAbs, [], by rw [from_word n h1 hneg], by omega, Own.nil _ _ _ _, Digs.nil _, (by simp [val] : _ = _), (Nat.zero_le _ : _ ≤ _), Below.refl _ _⟩
    case round =>
      obtain ⟨u, zs, rfl, hu, hown, hd, HV, HL, hbel⟩ := hrel
      have HSZ : Hid (w.heap.size + 1 ≤ wr.heap.size) := by have := hbel.size; simp at this; exact this
      by_cases h0 : 0 < u
      · have HZL : Hid (zs.length ≤ 100000) := Nat.le_trans HL.out (by decide)
        go_wp2_with (at_builtin; refine wpList_append_num rfl (.tmp 13) (.tmp 17) 37 rfl (w.heap.size + 1) 3 .i64 8 Tryz.underlying37 Tryz.info3 (by decide) _ _ rfl hown _ (u % 10) (by omega) rfl HZL.out HSZ.out ?_; intro v' w3 hown3 hblk3 hbel3)
        go_roundw
        case rel =>
          refine ⟨u / 10, zs ++ [u % 10], by rw [Int.natCast_ediv]; rfl, by omega, hown3, hd.append (Digs.cons (Nat.mod_lt _ (by decide)) (Digs.nil _)), ?_, ?_, hbel.trans hbel3⟩
          · show _ = _
            rw [val_snoc, List.length_append, List.length_singleton, Nat.pow_succ, Nat.mul_assoc, Nat.add_assoc, ← Nat.mul_add, Nat.mod_add_div]
            exact HV.out
          · show _ ≤ _
            have := HLEN.out zs.length u n.natAbs h0 (by have := HV.out; omega) (by omega)
            simp; omega
        case measure => simp [intOf]; omega
      · have hu0 : u = 0 := by omega
        subst hu0
        have B1 := B0.keep hbel (by omega)
        obtain ⟨ao, cap, rfl, q1, q2, hsg, q3⟩ := hown.open
        have hbw : Below w.heap.size w wr := ((Below.refl _ _).alloc (Nat.le_refl _) _).trans (hbel.mono (by omega))
        go_wp2_with fail
        refine (rtrim_seg true _ zs n _ ⟨ao, cap, rfl, q1, q2, hsg⟩ (by have := HL.out; omega) hd (by have := HV.out; simp [sv]; omega)).mono ?_
        rintro e w1 ⟨s, a, m, c, rfl, hr, hb1⟩
        have R1 := B1.stay hb1
        obtain ⟨r0, r1, rf0, rf1⟩ := R1.two
        go_wp2
        refine bodyPost_ret (v := .agg #[.bool s, .slice a m c]) (by simp [results, Tryz.results60, go_sem, r0, r1]) rfl ?_
        exact ⟨_, _, _, _, rfl, (hr.mono HL.out).store2 R1 _ _ _ _, below_store2 (hbw.step hb1 (Nat.le_refl _)) (Nat.le_refl _) _ _⟩
  · obtain ⟨N, rfl⟩ := Int.eq_ofNat_of_zero_le (Int.not_lt.1 hneg)
    go_enter Tryz.func60, Tryz.ntmps60
    go_wp2
    go_loopw [3, 4] (fun uv v wr => ∃ u : Nat, ∃ zs, uv = .int .u64 u ∧ (u : Int) < 18446744073709551616 ∧ Own .i64 3 (w.heap.size + 1) wr v zs ∧ Digs 10 zs ∧ Hid (val 10 zs + 10 ^ zs.length * u = N) ∧ Hid (zs.length ≤ 20) ∧ Below (w.heap.size + 1) (w.alloc (.cells #[.bool false, .slice none 0 0] 39)) wr) (fun uv _ _ => (intOf uv).toNat)
    case atStart =>
      refine ⟨N, [], rfl, by omega, Own.nil _ _ _ _, Digs.nil _, (by simp [val] : _ = _), (Nat.zero_le _ : _ ≤ _), Below.refl _ _⟩
    case round =>
      obtain ⟨u, zs, rfl, hu, hown, hd, HV, HL, hbel⟩ := hrel
      have HSZ : Hid (w.heap.size + 1 ≤ wr.heap.size) := by have := hbel.size; simp at this; exact this
      by_cases h0 : 0 < u
      · have HZL : Hid (zs.length ≤ 100000) := Nat.le_trans HL.out (by decide)
        go_wp2_with (at_builtin; refine wpList_append_num rfl (.tmp 13) (.tmp 17) 37 rfl (w.heap.size + 1) 3 .i64 8 Tryz.underlying37 Tryz.info3 (by decide) _ _ rfl hown _ (u % 10) (by omega) rfl HZL.out HSZ.out ?_; intro v' w3 hown3 hblk3 hbel3)
        go_roundw
        case rel =>
          refine ⟨u / 10, zs ++ [u % 10], by rw [Int.natCast_ediv]; rfl, by omega, hown3, hd.append (Digs.cons (Nat.mod_lt _ (by decide)) (Digs.nil _)), ?_, ?_, hbel.trans hbel3⟩
          · show _ = _
            rw [val_snoc, List.length_append, List.length_singleton, Nat.pow_succ, Nat.mul_assoc, Nat.add_assoc, ← Nat.mul_add, Nat.mod_add_div]
            exact HV.out
          · show _ ≤ _
            have := HLEN.out zs.length u N h0 (by have := HV.out; omega) (by omega)
            simp; omega
        case measure => simp [intOf]; omega
      · have hu0 : u = 0 := by omega
        subst hu0
        have B1 := B0.keep hbel (by omega)
        obtain ⟨ao, cap, rfl, q1, q2, hsg, q3⟩ := hown.open
        have hbw : Below w.heap.size w wr := ((Below.refl _ _).alloc (Nat.le_refl _) _).trans (hbel.mono (by omega))
        go_wp2_with fail
        refine (rtrim_seg false _ zs N _ ⟨ao, cap, rfl, q1, q2, hsg⟩ (by have := HL.out; omega) hd (by have := HV.out; simp [sv]; omega)).mono ?_
        rintro e w1 ⟨s, a, m, c, rfl, hr, hb1⟩
        have R1 := B1.stay hb1
        obtain ⟨r0, r1, rf0, rf1⟩ := R1.two
        go_wp2
        refine bodyPost_ret (v := .agg #[.bool s, .slice a m c]) (by simp [results, Tryz.results60, go_sem, r0, r1]) rfl ?_
        exact ⟨_, _, _, _, rfl, (hr.mono HL.out).store2 R1 _ _ _ _, below_store2 (hbw.step hb1 (Nat.le_refl _)) (Nat.le_refl _) _ _⟩
end Go.Proofs.YteefniagebcagaaGreatDoor
