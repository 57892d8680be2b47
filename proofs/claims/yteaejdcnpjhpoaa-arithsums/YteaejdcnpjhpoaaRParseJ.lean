/- Contract of suretyref01's Parse; it proves no statement of the seat. -/
import Derived.Test.YteaejdcnpjhpoaaRExactJ
namespace Go.Proofs.Yteaejdcnpjhpoaa
open Go.RowKit

/-- What a reckoning of the document's answers: the number, or 11 and 0 where it is too large. -/
def RHeld (w : World) (v : Value) (c z : Int) (L : Nat) : Prop := (c = 0 ∧ z.natAbs < lim ∧ RNum w v z L) ∨ (c = 11 ∧ lim ≤ z.natAbs ∧ RNum w v 0 L)
/-- What its Parse answers. -/
def RParseR (w : World) (v : Value) (c : Int) (l : List Nat) : Prop := (¬ Good l ∧ c = 10 ∧ RNum w v 0 400) ∨ (Good l ∧ RHeld w v c (pval l) 400)

theorem pval_natAbs (l : List Nat) : (pval l).natAbs = dec (pbody l) := sv_natAbs _ _

theorem Good.big {l : List Nat} (h : Good l) (hl : 400 < l.length) : lim ≤ (pval l).natAbs := by
  rw [pval_natAbs]
  refine h.1.big ?_
  unfold pbody
  split
  · rw [List.length_drop]; omega
  · omega

theorem exact_any (s : ByteArray) (w : World) (hl : s.size ≤ 9000) (hg : Good (bs s)) :
    Calls Try.prog 49 #[.string s] w fun e w' => ∃ v, e = .returned v ∧ RNum w' v (pval (bs s)) s.size ∧ Below w.heap.size w w' := by
  by_cases hp : pneg (bs s) = true
  · obtain ⟨g1, g2, g3⟩ := (good_iff (bs s) 1 (by rw [if_pos hp])).1 hg
    rw [bs_length] at g1 g3
    have e : pval (bs s) = sv true (dec ((bs s).drop 1)) := by rw [pval, pbody, if_pos hp, hp]
    rw [e]
    exact exact_aux s true 1 w hl g1 (Nat.le_refl _) (fun _ => ⟨rfl, ((pneg_iff s).1 hp).2⟩) (fun h => by cases h) g3
  · obtain ⟨g1, g2, g3⟩ := (good_iff (bs s) 0 (by rw [if_neg hp])).1 hg
    rw [bs_length] at g1 g3
    have e : pval (bs s) = sv false (dec ((bs s).drop 0)) := by rw [pval, pbody, if_neg hp, Bool.eq_false_iff.2 hp, List.drop_zero]
    rw [e]
    exact exact_aux s false 0 w hl g1 (Nat.zero_le _) (fun h => by cases h) (fun _ => rfl) g3

set_option maxHeartbeats 1000000 in
theorem rparse_any (s : ByteArray) (w : World) (hl : s.size ≤ 10000) :
    Calls Try.prog 11 #[.string s] w fun e w' => ∃ v c, e = .returned (.tuple #[v, .int .i64 c]) ∧ Below w.heap.size w w' ∧ RParseR w' v c (bs s) := by
  have B0 := Blk.new w 31 #[.bool false, .slice none 0 0]
  by_cases hg : Good (bs s)
  · have HG : Hid (Good (bs s)) := hg
    clear hg
    by_cases h4 : 400 < s.size
    · go_enter Try.func11, Try.ntmps11
      go_wp2_with (go_at_call 48; refine (form_yes s _ hl HG.out).mono ?_; rintro e w' ⟨rfl, rfl⟩)
      refine bodyPost_ret (v := .tuple #[.agg #[.bool false, .slice none 0 0], .int .i64 11]) (by simp [results, Try.results11, go_sem]) rfl ?_
      exact ⟨_, _, rfl, (Below.refl _ _).alloc (Nat.le_refl _) _, Or.inr ⟨HG.out, Or.inr ⟨rfl, HG.out.big (by rw [bs_length]; exact h4), RNum.zero _ _⟩⟩⟩
    · go_enter Try.func11, Try.ntmps11
      go_wp2_with (first
        | (go_at_call 48; refine (form_yes s _ hl HG.out).mono ?_; rintro e w' ⟨rfl, rfl⟩)
        | (go_at_call 49; refine (exact_any s _ (by omega) HG.out).mono ?_; rintro e w1 ⟨v1, rfl, hn1, hb1⟩; obtain ⟨neg, ds, ⟨ao, cap, rfl, k1, k2, k3, k4, k5, k6, k7⟩, hz, hdl⟩ := hn1; have B1 := B0.stay hb1; obtain ⟨c0, c1, f0, f1⟩ := B1.two; have HZ : Hid (pval (bs s) = sv neg (val 10 ds)) := hz; clear hz))
      have hv1 : NumV w1 (.agg #[.bool neg, .slice ao ds.length cap]) neg ds := ⟨ao, cap, rfl, k1, k2, k3, k4, k5, k6, k7⟩
      have hb2 : Below w.heap.size w w1 := ((Below.refl _ _).alloc (Nat.le_refl _) _).step hb1 (Nat.le_refl _)
      have C1 := Blk.new w1 31 #[.bool neg, .slice ao ds.length cap]
      have hlt := B1.lt
      clear k3 k7
      by_cases hbig : lim ≤ val 10 ds
      · have hdc : decide (lim ≤ val 10 ds) = true := by simp [hbig]
        refine (toobig_any _ neg ds _ (hv1.below ((Below.refl _ _).alloc (Nat.le_refl _) _)) (by omega)).mono ?_
        rintro e w2 ⟨rfl, hb3⟩
        have B2 := (B1.alloc (.cells #[.bool neg, .slice ao ds.length cap] 31 (0, 0))).stay hb3
        have C2 := C1.stay hb3
        clear c0 c1 f0 f1
        obtain ⟨c0, c1, f0, f1⟩ := B2.two
        obtain ⟨d0, d1, g0, g1⟩ := C2.two
        have HB : Hid (lim ≤ val 10 ds) := hbig
        clear hbig
        go_wp2
        refine bodyPost_ret (v := .tuple #[.agg #[.bool false, .slice none 0 0], .int .i64 11]) (by simp [results, Try.results11, go_sem, c0, c1]) rfl ?_
        have hb4 : Below w.heap.size w w2 := (hb2.alloc hb2.size _).step hb3 (Nat.le_refl _)
        exact ⟨_, _, rfl, below_store2 hb4 (Nat.le_refl _) _ _, Or.inr ⟨HG.out, Or.inr ⟨rfl, by rw [HZ.out, sv_natAbs]; exact HB.out, RNum.zero _ _⟩⟩⟩
      · have hdc : decide (lim ≤ val 10 ds) = false := by simp [hbig]
        refine (toobig_any _ neg ds _ (hv1.below ((Below.refl _ _).alloc (Nat.le_refl _) _)) (by omega)).mono ?_
        rintro e w2 ⟨rfl, hb3⟩
        have B2 := (B1.alloc (.cells #[.bool neg, .slice ao ds.length cap] 31 (0, 0))).stay hb3
        have C2 := C1.stay hb3
        clear c0 c1 f0 f1
        obtain ⟨c0, c1, f0, f1⟩ := B2.two
        obtain ⟨d0, d1, g0, g1⟩ := C2.two
        have HB : Hid (¬ lim ≤ val 10 ds) := hbig
        clear hbig
        go_wp2
        refine bodyPost_ret (v := .tuple #[.agg #[.bool neg, .slice ao ds.length cap], .int .i64 0]) (by simp [results, Try.results11, go_sem, c0, c1]) rfl ?_
        have hb4 : Below w.heap.size w w2 := (hb2.alloc hb2.size _).step hb3 (Nat.le_refl _)
        have hw : Below w1.heap.size w1 w2 := ((Below.refl _ _).alloc (Nat.le_refl _) _).step hb3 (Nat.le_refl _)
        refine ⟨_, _, rfl, below_store2 hb4 (Nat.le_refl _) _ _, Or.inr ⟨HG.out, Or.inl ⟨rfl, by rw [HZ.out, sv_natAbs]; exact Nat.lt_of_not_le HB.out, ?_⟩⟩⟩
        exact ⟨neg, ds, (hv1.below hw).store2 B2 _ _ _ _, HZ.out, by omega⟩
  · have HG : Hid (¬ Good (bs s)) := hg
    clear hg
    go_enter Try.func11, Try.ntmps11
    go_wp2_with (go_at_call 48; refine (form_no s _ hl HG.out).mono ?_; rintro e w' ⟨rfl, rfl⟩)
    refine bodyPost_ret (v := .tuple #[.agg #[.bool false, .slice none 0 0], .int .i64 10]) (by simp [results, Try.results11, go_sem]) rfl ?_
    exact ⟨_, _, rfl, (Below.refl _ _).alloc (Nat.le_refl _) _, Or.inl ⟨HG.out, rfl, RNum.zero _ _⟩⟩
end Go.Proofs.Yteaejdcnpjhpoaa
