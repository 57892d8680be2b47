/- Contract of arith.Sum; it proves no statement of the seat. -/
import Derived.Test.YteaejdcnpjhpoaaLstJ
namespace Go.Proofs.Yteaejdcnpjhpoaa
open Go.RowKit

/-- A list's sum, from z on: none where a sum on the way is too large. -/
def sums : Int → List Int → Option Int
  | z, [] => some z
  | z, x :: r => if (z + x).natAbs < lim then sums (z + x) r else none
def sumZ (zs : List Int) : Int := (sums 0 zs).getD 0
def sumE (zs : List Int) : Int := if (sums 0 zs).isSome then 0 else 11

/-- The cells from 'ao' on are numbers' structs. -/
def Arr (w : World) (ao : Option Addr) (zs : List Int) : Prop :=
  zs = [] ∨ ∃ g o, ao = some ⟨g, o, none⟩ ∧ ∀ i, i < zs.length → ∃ s a n c, w.cell? ⟨g, o + i * 2, none⟩ = some (.bool s) ∧ w.cell? ⟨g, o + i * 2 + 1, none⟩ = some (.slice a n c) ∧ AInt w (.agg #[.bool s, .slice a n c]) (zs.getD i 0)
theorem Arr.below {w w' : World} {ao : Option Addr} {zs : List Int} (h : Arr w ao zs) (hb : Below w.heap.size w w') : Arr w' ao zs := by
  rcases h with h | ⟨g, o, rfl, hc⟩
  · exact Or.inl h
  · refine Or.inr ⟨g, o, rfl, fun i hi => ?_⟩
    obtain ⟨s, a, n, c, h1, h2, h3⟩ := hc i hi
    exact ⟨s, a, n, c, (hb.cell (p := ⟨g, o + i * 2, none⟩) (World.block_lt_of_cell? w _ h1)).trans h1, (hb.cell (p := ⟨g, o + i * 2 + 1, none⟩) (World.block_lt_of_cell? w _ h2)).trans h2, h3.below hb⟩
theorem Arr.at {w : World} {ao : Option Addr} {zs : List Int} (h : Arr w ao zs) (i : Nat) (hi : i < zs.length) : ∃ g o, ao = some ⟨g, o, none⟩ := by
  rcases h with h | ⟨g, o, rfl, hc⟩
  · subst h; simp at hi
  · exact ⟨g, o, rfl⟩

theorem sums_step {zs : List Int} {k : Nat} (hk : k < zs.length) (p : Int) : sums p (zs.drop k) = if (p + zs.getD k 0).natAbs < lim then sums (p + zs.getD k 0) (zs.drop (k + 1)) else none := by
  rw [List.drop_eq_getElem_cons hk, sums, List.getD_eq_getElem?_getD, List.getElem?_eq_getElem hk]
  rfl

set_option maxRecDepth 20000 in
set_option maxHeartbeats 8000000 in
theorem sum_any (ao : Option Addr) (n cap : Nat) (zs : List Int) (w : World) (hn : zs.length = n) (h2 : n ≤ 1000) (hs : Arr w ao zs) :
    Calls Try.prog 40 #[.slice ao n cap] w fun e w' => ∃ s a m c, e = .returned (.tuple #[.agg #[.bool s, .slice a m c], .int .i64 (sumE zs)]) ∧ AInt w' (.agg #[.bool s, .slice a m c]) (sumZ zs) ∧ Below w.heap.size w w' := by
  have HN : Hid (zs.length = n) := hn
  clear hn
  have R0 := (Blk.new w 25 #[.bool false, .slice none 0 0]).alloc (.cells #[.bool false, .slice none 0 0] 25 (0, 0))
  have S0 := VI.new (AInt.zero (w.alloc (.cells #[.bool false, .slice none 0 0] 25 (0, 0))))
  simp only [World.size_alloc] at S0
  have hbw : Below w.heap.size w ((w.alloc (.cells #[.bool false, .slice none 0 0] 25 (0, 0))).alloc (.cells #[.bool false, .slice none 0 0] 25 (0, 0))) := by go_grown
  go_enter Try.func40, Try.ntmps40
  go_wp2
  go_loopw [11] (fun i wr => ∃ k : Nat, ∃ p s a m c, k ≤ n ∧ i = .int .i64 k ∧ Hid (sums 0 zs = sums p (zs.drop k)) ∧ Blk 25 wr w.heap.size #[.bool false, .slice none 0 0] ∧ VI wr (w.heap.size + 1) s a m c p ∧ Below w.heap.size w wr) (fun i _ => n - (intOf i).toNat)
  case atStart => exact ⟨0, 0, false, none, 0, 0, Nat.zero_le _, rfl, rfl, R0, S0, hbw⟩
  case round =>
    obtain ⟨k, p, s, a, m, c, hk, rfl, HS, hR, hP, hB⟩ := hrel
    obtain ⟨p0, p1⟩ := hP.cells
    by_cases h0 : k < n
    · have hkz : k < zs.length := by rw [HN.out]; exact h0
      have hs' := hs.below hB
      obtain ⟨g, o, rfl⟩ := hs'.at k hkz
      rcases hs' with hnil | ⟨g', o', he, hc⟩
      · subst hnil; simp at hkz
      cases he
      obtain ⟨xs, xa, xm, xc, c0, c1, hx⟩ := hc k hkz
      obtain ⟨x, hxd⟩ : ∃ x, x = zs.getD k 0 := ⟨_, rfl⟩
      rw [← hxd] at hx
      have HX : Hid (x = zs.getD k 0) := hxd
      have HST : Hid (sums p (zs.drop k) = if (p + zs.getD k 0).natAbs < lim then sums (p + zs.getD k 0) (zs.drop (k + 1)) else none) := sums_step hkz p
      clear hc hxd hkz
      have hn1 := below_new wr (.cells #[.bool xs, .slice xa xm xc] 25 (0, 0))
      have hlt := hP.lt
      go_wp2_with fail
      refine (add_h _ _ p x _ (hP.int.below hn1) (hx.below hn1)).mono ?_
      rintro e w2 ⟨s2, a2, m2, c2, rfl, h2', hb2⟩
      have hb2' := hn1.step hb2 (Nat.le_refl _)
      have hR2 := hR.stay hb2'
      have hP2 := hP.stay hb2'
      have hB2 := hB.step hb2' (Nat.le_refl _)
      have hlt2 := hP2.lt
      have hlt3 := hR2.lt
      obtain ⟨q0, q1, qf0, qf1⟩ := hP2.1.two
      obtain ⟨r0, r1, rf0, rf1⟩ := hR2.two
      clear p0 p1 c0 c1 hb2 hb2' hn1 hlt
      by_cases hbig : (p + x).natAbs < lim
      · have he : ec (p + x) = 0 := if_pos hbig
        have HE : Hid (hz (p + x) = p + x ∧ (p + x).natAbs < lim) := ⟨if_pos hbig, hbig⟩
        clear hbig
        have hP3 := (hP2.over h2').stay (below_new _ (.cells #[.bool s2, .slice a2 m2 c2] 25 (0, 0)))
        have hR3 := ((hR2.other (a := ⟨w.heap.size + 1, 0, none⟩) (by show w.heap.size + 1 ≠ _; omega) (.bool s2)).other (a := ⟨w.heap.size + 1, 1, none⟩) (by show w.heap.size + 1 ≠ _; omega) (.slice a2 m2 c2)).stay (below_new _ (.cells #[.bool s2, .slice a2 m2 c2] 25 (0, 0)))
        have hB3 := (below_store2 hB2 (b := w.heap.size + 1) (by omega) (.bool s2) (.slice a2 m2 c2)).step (below_new _ (.cells #[.bool s2, .slice a2 m2 c2] 25 (0, 0))) (Nat.le_refl _)
        go_wp2
        go_roundw
        case rel =>
          refine ⟨k + 1, p + x, s2, a2, m2, c2, by omega, by go_num, ?_, hR3, ?_, hB3⟩
          · show _ = _
            rw [HS.out, HST.out, ← HX.out, if_pos HE.out.2]
          · have h5 := hP3
            rw [HE.out.1] at h5
            exact h5
        case measure => simp [intOf]; omega
      · have he : ec (p + x) = 11 := if_neg hbig
        have HE : Hid (hz (p + x) = 0 ∧ ¬ (p + x).natAbs < lim) := ⟨if_neg hbig, hbig⟩
        clear hbig
        go_wp2
        refine bodyPost_ret (v := .tuple #[.agg #[.bool false, .slice none 0 0], .int .i64 11]) (by simp [results, Try.results40, go_sem, hlt3, r0, r1]) rfl ?_
        have h5 : sums 0 zs = none := by rw [HS.out, HST.out, ← HX.out, if_neg HE.out.2]
        refine ⟨false, none, 0, 0, ?_, ?_, (below_store2 hB2 (Nat.le_refl _) _ _).step (below_new _ _) (Nat.le_refl _)⟩
        · unfold sumE; rw [h5]; rfl
        · unfold sumZ; rw [h5]; exact AInt.zero _
    · obtain ⟨r0, r1, rf0, rf1⟩ := hR.two
      have HD : Hid (zs.drop k = []) := List.drop_eq_nil_of_le (by rw [HN.out]; omega)
      go_wp2
      refine bodyPost_ret (v := .tuple #[.agg #[.bool s, .slice a m c], .int .i64 0]) (by simp [results, Try.results40, go_sem, r0, r1]) rfl ?_
      have h5 : sums 0 zs = some p := by rw [HS.out, HD.out]; rfl
      refine ⟨s, a, m, c, ?_, ?_, below_store2 hB (Nat.le_refl _) _ _⟩
      · unfold sumE; rw [h5]; rfl
      · unfold sumZ; rw [h5]; exact hP.int.store2 hR _ _ _ _
end Go.Proofs.Yteaejdcnpjhpoaa
