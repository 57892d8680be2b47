/- Contract of suretyref01's From; it proves no statement of the seat. -/
import Derived.Test.YteefniagebcagaaGreatDoorRInts1JThrough
namespace Go.Proofs.YteefniagebcagaaGreatDoor
open Go.RowKit

theorem from_word (n : Int) (h1 : -9223372036854775808 ≤ n) (h2 : n < 0) : IntKind.u64.wrap (-IntKind.u64.wrap n) = ((n.natAbs : Nat) : Int) := by
  simp only [IntKind.wrap, IntKind.bits, IntKind.signed]
  simp
  omega

set_option maxHeartbeats 4000000 in
theorem rfrom_any (n : Int) (w : World) (h1 : -9223372036854775808 ≤ n) (h2 : n ≤ 9223372036854775807) :
    Calls Tryz.prog 60 #[.int .i64 n] w fun e w' => ∃ s a m c, e = .returned (.agg #[.bool s, .slice a m c]) ∧ RNum w' (.agg #[.bool s, .slice a m c]) n 20 ∧ Below w.heap.size w w' := by
  have B0 := Blk.new w 39 #[.bool false, .slice none 0 0]
  have HLEN : Hid (∀ k u N : Nat, 0 < u → 10 ^ k * u ≤ N → N < 18446744073709551616 → k < 20) := by
    intro k u N hu h hN
    have h3 : 10 ^ k * 1 ≤ 10 ^ k * u := Nat.mul_le_mul_left _ hu
    have h4 : 10 ^ k < 10 ^ 20 := by omega
    exact (Nat.pow_lt_pow_iff_right (by decide)).1 h4
  by_cases hneg : n < 0
  · go_enter Tryz.func60, Tryz.ntmps60
    go_wp2
    go_loopw [3, 4] (fun uv v wr => ∃ u : Nat, ∃ zs, uv = .int .u64 u ∧ (u : Int) < 18446744073709551616 ∧ Own .i64 3 (w.heap.size + 1) wr v zs ∧ Digs 10 zs ∧ Hid (val 10 zs + 10 ^ zs.length * u = n.natAbs) ∧ Hid (zs.length ≤ 20) ∧ Below (w.heap.size + 1) (w.alloc (.cells #[.bool false, .slice none 0 0] 39)) wr) (fun uv _ _ => (intOf uv).toNat)
    case atStart =>
      refine ⟨n.natAbs, [], by rw [from_word n h1 hneg], by omega, Own.nil _ _ _ _, Digs.nil _, (by simp [val] : _ = _), (Nat.zero_le _ : _ ≤ _), Below.refl _ _⟩
    case round =>
      obtain ⟨u, zs, rfl, hu, hown, hd, HV, HL, hbel⟩ := hrel
      have HSZ : Hid (w.heap.size + 1 ≤ wr.heap.size) := by have := hbel.size; simp at this; exact this
      by_cases h0 : 0 < u
      · have HZL : Hid (zs.length ≤ 100000) := Nat.le_trans HL.out (by decide)
        go_wp2_with (at_builtin; refine wpList_append_num rfl (.tmp 13) (.tmp 17) 37 rfl (w.heap.size + 1) 3 .i64 8 Tryz.underlying37 Tryz.info3 (by decide) _ _ rfl hown _ (u % 10) (by omega) rfl HZL.out HSZ.out ?_; intro v' w3 hown3 hblk3 hbel3)
        go_roundw
        case rel =>
          refine ⟨u / 10, zs ++ [u % 10], by rw [Int.natCast_ediv]; rfl, by omega, hown3, hd.append (Digs.cons (Nat.mod_lt _ (by decide)) (Digs.nil _)), ?_, ?_, hbel.trans hbel3⟩
          · show _ = _
            rw [val_snoc, List.length_append, List.length_singleton, Nat.pow_succ, Nat.mul_assoc, Nat.add_assoc, ← Nat.mul_add, Nat.mod_add_div]
            exact HV.out
          · show _ ≤ _
            have := HLEN.out zs.length u n.natAbs h0 (by have := HV.out; omega) (by omega)
            simp; omega
        case measure => simp [intOf]; omega
      · have hu0 : u = 0 := by omega
        subst hu0
        have B1 := B0.keep hbel (by omega)
        obtain ⟨ao, cap, rfl, q1, q2, hsg, q3⟩ := hown.open
        have hbw : Below w.heap.size w wr := ((Below.refl _ _).alloc (Nat.le_refl _) _).trans (hbel.mono (by omega))
        go_wp2_with fail
        refine (rtrim_seg true _ zs n _ ⟨ao, cap, rfl, q1, q2, hsg⟩ (by have := HL.out; omega) hd (by have := HV.out; simp [sv]; omega)).mono ?_
        rintro e w1 ⟨s, a, m, c, rfl, hr, hb1⟩
        have R1 := B1.stay hb1
        obtain ⟨r0, r1, rf0, rf1⟩ := R1.two
        go_wp2
        refine bodyPost_ret (v := .agg #[.bool s, .slice a m c]) (by simp [results, Tryz.results60, go_sem, r0, r1]) rfl ?_
        exact ⟨_, _, _, _, rfl, (hr.mono HL.out).store2 R1 _ _ _ _, below_store2 (hbw.step hb1 (Nat.le_refl _)) (Nat.le_refl _) _ _⟩
  · obtain ⟨N, rfl⟩ := Int.eq_ofNat_of_zero_le (Int.not_lt.1 hneg)
    go_enter Tryz.func60, Tryz.ntmps60
    go_wp2
    go_loopw [3, 4] (fun uv v wr => ∃ u : Nat, ∃ zs, uv = .int .u64 u ∧ (u : Int) < 18446744073709551616 ∧ Own .i64 3 (w.heap.size + 1) wr v zs ∧ Digs 10 zs ∧ Hid (val 10 zs + 10 ^ zs.length * u = N) ∧ Hid (zs.length ≤ 20) ∧ Below (w.heap.size + 1) (w.alloc (.cells #[.bool false, .slice none 0 0] 39)) wr) (fun uv _ _ => (intOf uv).toNat)
    case atStart =>
      refine ⟨N, [], rfl, by omega, Own.nil _ _ _ _, Digs.nil _, (by simp [val] : _ = _), (Nat.zero_le _ : _ ≤ _), Below.refl _ _⟩
    case round =>
      obtain ⟨u, zs, rfl, hu, hown, hd, HV, HL, hbel⟩ := hrel
      have HSZ : Hid (w.heap.size + 1 ≤ wr.heap.size) := by have := hbel.size; simp at this; exact this
      by_cases h0 : 0 < u
      · have HZL : Hid (zs.length ≤ 100000) := Nat.le_trans HL.out (by decide)
        go_wp2_with (at_builtin; refine wpList_append_num rfl (.tmp 13) (.tmp 17) 37 rfl (w.heap.size + 1) 3 .i64 8 Tryz.underlying37 Tryz.info3 (by decide) _ _ rfl hown _ (u % 10) (by omega) rfl HZL.out HSZ.out ?_; intro v' w3 hown3 hblk3 hbel3)
        go_roundw
        case rel =>
          refine ⟨u / 10, zs ++ [u % 10], by rw [Int.natCast_ediv]; rfl, by omega, hown3, hd.append (Digs.cons (Nat.mod_lt _ (by decide)) (Digs.nil _)), ?_, ?_, hbel.trans hbel3⟩
          · show _ = _
            rw [val_snoc, List.length_append, List.length_singleton, Nat.pow_succ, Nat.mul_assoc, Nat.add_assoc, ← Nat.mul_add, Nat.mod_add_div]
            exact HV.out
          · show _ ≤ _
            have := HLEN.out zs.length u N h0 (by have := HV.out; omega) (by omega)
            simp; omega
        case measure => simp [intOf]; omega
      · have hu0 : u = 0 := by omega
        subst hu0
        have B1 := B0.keep hbel (by omega)
        obtain ⟨ao, cap, rfl, q1, q2, hsg, q3⟩ := hown.open
        have hbw : Below w.heap.size w wr := ((Below.refl _ _).alloc (Nat.le_refl _) _).trans (hbel.mono (by omega))
        go_wp2_with fail
        refine (rtrim_seg false _ zs N _ ⟨ao, cap, rfl, q1, q2, hsg⟩ (by have := HL.out; omega) hd (by have := HV.out; simp [sv]; omega)).mono ?_
        rintro e w1 ⟨s, a, m, c, rfl, hr, hb1⟩
        have R1 := B1.stay hb1
        obtain ⟨r0, r1, rf0, rf1⟩ := R1.two
        go_wp2
        refine bodyPost_ret (v := .agg #[.bool s, .slice a m c]) (by simp [results, Tryz.results60, go_sem, r0, r1]) rfl ?_
        exact ⟨_, _, _, _, rfl, (hr.mono HL.out).store2 R1 _ _ _ _, below_store2 (hbw.step hb1 (Nat.le_refl _)) (Nat.le_refl _) _ _⟩
end Go.Proofs.YteefniagebcagaaGreatDoor
