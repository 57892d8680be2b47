/- Contract of suretyref01.Sum; it proves no statement of the seat. -/
import Derived.Test.YteaejdcnpjhpoaaLstWJ
import Derived.Test.YteaejdcnpjhpoaaRAddJ
import Derived.Test.YteaejdcnpjhpoaaRPowJ
namespace Go.Proofs.Yteaejdcnpjhpoaa
open Go.RowKit

/-- The cells from 'ao' on are suretyref01.Nums. -/
def ArrR (w : World) (ao : Option Addr) (zs : List Int) : Prop :=
  zs = [] ∨ ∃ g o, ao = some ⟨g, o, none⟩ ∧ ∀ i, i < zs.length → ∃ s a n c, w.cell? ⟨g, o + i * 2, none⟩ = some (.bool s) ∧ w.cell? ⟨g, o + i * 2 + 1, none⟩ = some (.slice a n c) ∧ RNum w (.agg #[.bool s, .slice a n c]) (zs.getD i 0) 400
theorem ArrR.below {w w' : World} {ao : Option Addr} {zs : List Int} (h : ArrR w ao zs) (hb : Below w.heap.size w w') : ArrR w' ao zs := by
  rcases h with h | ⟨g, o, rfl, hc⟩
  · exact Or.inl h
  · refine Or.inr ⟨g, o, rfl, fun i hi => ?_⟩
    obtain ⟨s, a, n, c, h1, h2, h3⟩ := hc i hi
    exact ⟨s, a, n, c, (hb.cell (p := ⟨g, o + i * 2, none⟩) (World.block_lt_of_cell? w _ h1)).trans h1, (hb.cell (p := ⟨g, o + i * 2 + 1, none⟩) (World.block_lt_of_cell? w _ h2)).trans h2, h3.below hb⟩
theorem ArrR.at {w : World} {ao : Option Addr} {zs : List Int} (h : ArrR w ao zs) (i : Nat) (hi : i < zs.length) : ∃ g o, ao = some ⟨g, o, none⟩ := by
  rcases h with h | ⟨g, o, rfl, hc⟩
  · subst h; simp at hi
  · exact ⟨g, o, rfl⟩

set_option maxRecDepth 20000 in
set_option maxHeartbeats 8000000 in
theorem rSum_any (ao : Option Addr) (n cap : Nat) (zs : List Int) (w : World) (hn : zs.length = n) (h2 : n ≤ 1000) (hs : ArrR w ao zs) :
    Calls Try.prog 41 #[.slice ao n cap] w fun e w' => ∃ s a m c, e = .returned (.tuple #[.agg #[.bool s, .slice a m c], .int .i64 (sumE zs)]) ∧ RNum w' (.agg #[.bool s, .slice a m c]) (sumZ zs) 400 ∧ Below w.heap.size w w' := by
  have HN : Hid (zs.length = n) := hn
  clear hn
  have R0 := (Blk.new w 31 #[.bool false, .slice none 0 0]).alloc (.cells #[.bool false, .slice none 0 0] 31 (0, 0))
  have S0 := Blk.new (w.alloc (.cells #[.bool false, .slice none 0 0] 31 (0, 0))) 31 #[.bool false, .slice none 0 0]
  simp only [World.size_alloc] at S0
  have hbw : Below w.heap.size w ((w.alloc (.cells #[.bool false, .slice none 0 0] 31 (0, 0))).alloc (.cells #[.bool false, .slice none 0 0] 31 (0, 0))) := by go_grown
  go_enter Try.func41, Try.ntmps41
  go_wp2
  go_loopw [5] (fun i wr => ∃ k : Nat, ∃ p s a m c, k ≤ n ∧ i = .int .i64 k ∧ Hid (sums 0 zs = sums p (zs.drop k)) ∧ Blk 31 wr w.heap.size #[.bool false, .slice none 0 0] ∧ Blk 31 wr (w.heap.size + 1) #[.bool s, .slice a m c] ∧ RNum wr (.agg #[.bool s, .slice a m c]) p 400 ∧ Below w.heap.size w wr) (fun i _ => n - (intOf i).toNat)
  case atStart => exact ⟨0, 0, false, none, 0, 0, Nat.zero_le _, rfl, rfl, R0, S0, RNum.zero _ _, hbw⟩
  case round =>
    obtain ⟨k, p, s, a, m, c, hk, rfl, HS, hR, hP, hp, hB⟩ := hrel
    obtain ⟨p0, p1, pf0, pf1⟩ := hP.two
    by_cases h0 : k < n
    · have hkz : k < zs.length := by rw [HN.out]; exact h0
      have hs' := hs.below hB
      obtain ⟨g, o, rfl⟩ := hs'.at k hkz
      rcases hs' with hnil | ⟨g', o', he, hc⟩
      · subst hnil; simp at hkz
      cases he
      obtain ⟨xs, xa, xm, xc, c0, c1, hx⟩ := hc k hkz
      obtain ⟨x, hxd⟩ : ∃ x, x = zs.getD k 0 := ⟨_, rfl⟩
      rw [← hxd] at hx
      have HX : Hid (x = zs.getD k 0) := hxd
      have HST : Hid (sums p (zs.drop k) = if (p + zs.getD k 0).natAbs < lim then sums (p + zs.getD k 0) (zs.drop (k + 1)) else none) := sums_step hkz p
      clear hc hxd hkz
      have i0 : (0 : Int) ≤ (k : Int) := by omega
      have i1 : (k : Int) < (n : Int) := by omega
      go_wp2
      go_region_with (first
        | (go_at_call 20; refine (rAdd_any _ _ p x _ 400 400 _ (hp.below (Below.refl _ _).drew) (hx.below (Below.refl _ _).drew) (by decide) rfl).mono ?_; rintro e w2 ⟨s2, a2, m2, c2, rfl, h3, hb2⟩; have hB2 : Below wr.heap.size wr w2 := Below.drew_left hb2; obtain ⟨z1, z2, zf1, zf2⟩ := (hP.stay hB2).two))
      all_goals
        have P2 := hP.stay hB2
        have hr3 := h3.store2 P2 s2 a2 m2 c2
        have P3 : Blk 31 ((w2.setCell ⟨w.heap.size + 1, 0, none⟩ (.bool s2)).setCell ⟨w.heap.size + 1, 1, none⟩ (.slice a2 m2 c2)) (w.heap.size + 1) #[.bool s2, .slice a2 m2 c2] := by
          have k := (P2.set 0 (.bool s2)).set 1 (.slice a2 m2 c2); simpa using k
        have R3 := ((hR.stay hB2).other (a := ⟨w.heap.size + 1, 0, none⟩) (by show w.heap.size + 1 ≠ _; omega) (.bool s2)).other (a := ⟨w.heap.size + 1, 1, none⟩) (by show w.heap.size + 1 ≠ _; omega) (.slice a2 m2 c2)
        have hb3 := below_store2 (hB.step hB2 (Nat.le_refl _)) (b := w.heap.size + 1) (by omega) (.bool s2) (.slice a2 m2 c2)
        obtain ⟨v0, v1, -, -⟩ := P3.two
        obtain ⟨y0, y1, yf0, yf1⟩ := R3.two
        clear p0 p1 pf0 pf1 c0 c1 z1 z2 zf1 zf2 hp hP hR hB hb2 hB2 P2 h3 hx
        by_cases hbig : (p + x).natAbs < lim
        · have hdec : decide (lim ≤ (p + x).natAbs) = false := decide_eq_false (Nat.not_le.2 hbig)
          have HB : Hid ((p + x).natAbs < lim) := hbig
          clear hbig
          go_wp2_with fail
          refine (toobig_r _ (p + x) 801 false _ hr3 (by decide) hdec).mono ?_
          rintro e w4 ⟨rfl, hb4⟩
          go_wp2
          go_roundw
          case rel =>
            refine ⟨k + 1, p + x, s2, a2, m2, c2, by omega, by go_num, ?_, R3.stay hb4, P3.stay hb4, (hr3.short HB.out).below hb4, hb3.step hb4 (Nat.le_refl _)⟩
            show _ = _
            rw [HS.out, HST.out, ← HX.out, if_pos HB.out]
          case measure => simp [intOf]; omega
        · have hdec : decide (lim ≤ (p + x).natAbs) = true := decide_eq_true (Nat.le_of_not_lt hbig)
          have HB : Hid (¬ (p + x).natAbs < lim) := hbig
          clear hbig
          go_wp2_with fail
          refine (toobig_r _ (p + x) 801 true _ hr3 (by decide) hdec).mono ?_
          rintro e w4 ⟨rfl, hb4⟩
          have R4 := R3.stay hb4
          obtain ⟨r0, r1, rf0, rf1⟩ := R4.two
          go_wp2
          refine bodyPost_ret (v := .tuple #[.agg #[.bool false, .slice none 0 0], .int .i64 11]) (by simp [results, Try.results41, go_sem, r0, r1]) rfl ?_
          have h5 : sums 0 zs = none := by rw [HS.out, HST.out, ← HX.out, if_neg HB.out]
          refine ⟨false, none, 0, 0, ?_, ?_, below_store2 (hb3.step hb4 (Nat.le_refl _)) (Nat.le_refl _) _ _⟩
          · unfold sumE; rw [h5]; rfl
          · unfold sumZ; rw [h5]; exact RNum.zero _ _
    · obtain ⟨r0, r1, rf0, rf1⟩ := hR.two
      have HD : Hid (zs.drop k = []) := List.drop_eq_nil_of_le (by rw [HN.out]; omega)
      go_wp2
      refine bodyPost_ret (v := .tuple #[.agg #[.bool s, .slice a m c], .int .i64 0]) (by simp [results, Try.results41, go_sem, r0, r1]) rfl ?_
      have h5 : sums 0 zs = some p := by rw [HS.out, HD.out]; rfl
      refine ⟨s, a, m, c, ?_, ?_, below_store2 hB (Nat.le_refl _) _ _⟩
      · unfold sumE; rw [h5]; rfl
      · unfold sumZ; rw [h5]; exact hp.store2 hR _ _ _ _
end Go.Proofs.Yteaejdcnpjhpoaa
