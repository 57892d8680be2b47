/- Contracts of ratio's small calls: quotient, isOne, lowest, Whole, IsWhole, Num, Den, Sign; they prove no statement of the seat. -/
import Derived.Test.YtidpbdhhbeaijaaJoin13Sums
namespace Go.Proofs.Ytidpbdhhbeaijaa
open Go.RowKit

set_option maxHeartbeats 1000000 in
theorem quotient_any (va vb : Value) (x y q : Int) (w : World) (ha : AInt w va x) (hb : AInt w vb y) (hy : y ≠ 0) (hq : x.fdiv y = q) :
    Calls Try.prog 56 #[va, vb] w fun e w' => ∃ s a n c, e = .returned (.agg #[.bool s, .slice a n c]) ∧ AInt w' (.agg #[.bool s, .slice a n c]) q ∧ Below w.heap.size w w' := by
  obtain ⟨na, ao, n, cap, rfl⟩ := ha.shape
  obtain ⟨nb, bo, m, cap', rfl⟩ := hb.shape
  have HY : Hid (y ≠ 0) := hy
  have HQ : Hid (x.fdiv y = q) := hq
  clear hy hq
  have R0 := Blk.new ((w.alloc (.cells #[.bool na, .slice ao n cap] 25 (0, 0))).alloc (.cells #[.bool nb, .slice bo m cap'] 25 (0, 0))) 25 #[.bool false, .slice none 0 0]
  simp only [World.size_alloc] at R0
  have hbw : Below w.heap.size w (((w.alloc (.cells #[.bool na, .slice ao n cap] 25 (0, 0))).alloc (.cells #[.bool nb, .slice bo m cap'] 25 (0, 0))).alloc (.cells #[.bool false, .slice none 0 0] 25 (0, 0))) := by go_grown
  have ha1 := ha.below hbw
  have hb1 := hb.below hbw
  go_enter Try.func56, Try.ntmps56
  go_wp2_with fail
  refine (div_h _ _ x y q _ _ ha1 hb1 HY.out HQ.out rfl).mono ?_
  rintro e w1 ⟨s, a, n1, c, s', a', n', c', rfl, h1, h2, hb2⟩
  have R1 := ((R0.stay hb2).alloc (.cells #[.bool s, .slice a n1 c] 25 (0, 0))).alloc (.cells #[.bool s', .slice a' n' c'] 25 (0, 0))
  have Q1 := (Blk.new w1 25 #[.bool s, .slice a n1 c]).alloc (.cells #[.bool s', .slice a' n' c'] 25 (0, 0))
  have hq1 := (h1.below (below_new w1 (.cells #[.bool s, .slice a n1 c] 25 (0, 0)))).below (below_new _ (.cells #[.bool s', .slice a' n' c'] 25 (0, 0)))
  have hbw2 := ((hbw.step hb2 (Nat.le_refl _)).step (below_new w1 (.cells #[.bool s, .slice a n1 c] 25 (0, 0))) (Nat.le_refl _)).step (below_new _ (.cells #[.bool s', .slice a' n' c'] 25 (0, 0))) (Nat.le_refl _)
  obtain ⟨q0, q1, -, -⟩ := Q1.two
  obtain ⟨r0, r1, rf0, rf1⟩ := R1.two
  have hlt := (R0.stay hb2).lt
  go_wp2
  refine bodyPost_ret (v := .agg #[.bool s, .slice a n1 c]) (by simp [results, Try.results56, go_sem, r0, r1]) rfl ?_
  exact ⟨s, a, n1, c, rfl, hq1.store2 R1 _ _ _ _, below_store2 hbw2 (by omega) _ _⟩

theorem bits_one {xs : List Nat} (hd : Digs 4294967296 xs) (hn : Norm xs) (h : 0 < val 4294967296 xs) : ((blen xs : Int) == 1) = (val 4294967296 xs == 1) := by
  have h1 := blen_le_iff hd hn 1
  have h0 := blen_le_iff hd hn 0
  simp at h1 h0
  rw [Bool.eq_iff_iff, beq_iff_eq, beq_iff_eq]
  constructor
  · intro e; have := h1.1 (by omega); omega
  · intro e
    have := h1.2 (by omega)
    have h2 : ¬ blen xs = 0 := fun k => by have := h0.1 k; omega
    omega

set_option maxHeartbeats 1000000 in
theorem isOne_any (va : Value) (x : Int) (r : Bool) (w : World) (ha : AInt w va x) (hx : 0 < x) (hr : (x == 1) = r) :
    Calls Try.prog 43 #[va] w fun e w' => e = .returned (.bool r) ∧ Below w.heap.size w w' := by
  obtain ⟨na, xs, hva, hxe, hxl⟩ := ha
  have HR : Hid (((blen xs : Int) == 1) = r) := by
    show _ = _
    obtain ⟨_, _, _, _, _, _, hd, hn, h3⟩ := hva
    have h4 : x.natAbs = val 4294967296 xs := by rw [hxe, sv_natAbs]
    rw [bits_one hd hn (by omega), ← hr, Bool.eq_iff_iff, beq_iff_eq, beq_iff_eq]
    omega
  clear hr hx hxe
  obtain ⟨ao, cap, rfl, hva'⟩ := id hva
  clear hva'
  have hbw := below_new w (.cells #[.bool na, .slice ao xs.length cap] 25 (0, 0))
  go_enter Try.func43, Try.ntmps43
  go_wp2_with fail
  refine (bits_any _ na xs _ (hva.below hbw)).mono ?_
  rintro e w1 ⟨rfl, hb1⟩
  have hr := HR.out
  go_wp2
  go_ret
  exact ⟨rfl, hbw.step hb1 (Nat.le_refl _)⟩

set_option maxHeartbeats 1000000 in
theorem lowest_any (va vb : Value) (x y : Int) (q : Rat) (w : World) (ha : AInt w va x) (hb : AInt w vb y) (hx : q.num = x) (hy : (q.den : Int) = y) :
    Calls Try.prog 44 #[va, vb] w fun e w' => ∃ x a n c y e' m f, e = .returned (.agg #[.bool x, .slice a n c, .bool y, .slice e' m f]) ∧ QP w' x a n c y e' m f q ∧ Below w.heap.size w w' := by
  subst hx hy
  obtain ⟨na, ao, n, cap, rfl⟩ := ha.shape
  obtain ⟨nb, bo, m, cap', rfl⟩ := hb.shape
  have A0 := ((Blk.new w 25 #[.bool na, .slice ao n cap]).alloc (.cells #[.bool nb, .slice bo m cap'] 25 (0, 0))).alloc (.cells #[.bool false, .slice none 0 0, .bool false, .slice none 0 0] 27 (0, 0))
  have B0 := (Blk.new (w.alloc (.cells #[.bool na, .slice ao n cap] 25 (0, 0))) 25 #[.bool nb, .slice bo m cap']).alloc (.cells #[.bool false, .slice none 0 0, .bool false, .slice none 0 0] 27 (0, 0))
  have R0 := Blk.new ((w.alloc (.cells #[.bool na, .slice ao n cap] 25 (0, 0))).alloc (.cells #[.bool nb, .slice bo m cap'] 25 (0, 0))) 27 #[.bool false, .slice none 0 0, .bool false, .slice none 0 0]
  simp only [World.size_alloc] at B0 R0
  have hbw : Below w.heap.size w (((w.alloc (.cells #[.bool na, .slice ao n cap] 25 (0, 0))).alloc (.cells #[.bool nb, .slice bo m cap'] 25 (0, 0))).alloc (.cells #[.bool false, .slice none 0 0, .bool false, .slice none 0 0] 27 (0, 0))) := by go_grown
  have ha1 := ha.below hbw
  have hb1 := hb.below hbw
  by_cases h1 : q.den = 1
  · have HD : Hid (q.den = 1) := h1
    clear h1
    go_enter Try.func44, Try.ntmps44
    go_wp2_with fail
    refine (isOne_any _ _ true _ hb1 (den_pos q) (by rw [HD.out]; rfl)).mono ?_
    rintro e w1 ⟨rfl, hb2⟩
    have R1 := R0.stay hb2
    obtain ⟨a0, a1, -, -⟩ := (A0.stay hb2).two
    obtain ⟨r0, r1, r2, r3⟩ := R1.four
    obtain ⟨f0, f1, f2, f3⟩ := R1.frozen4
    go_wp2
    refine bodyPost_ret (v := .agg #[.bool na, .slice ao n cap, .bool false, .slice none 0 0]) (by simp [results, Try.results44, go_sem, r0, r1, r2, r3]) rfl ?_
    refine ⟨_, _, _, _, _, _, _, _, rfl, ?_, below_store4 (hbw.step hb2 (Nat.le_refl _)) (by omega) _ _ _ _⟩
    refine QP.keepI ?_ (keepI_four (noI_slice _ _ _) (noI_slice _ _ _) R1 _ _ _ _ _ _ _ _)
    exact ⟨ha1.below hb2, by rw [dz_one HD.out]; exact AInt.zero _⟩
  · have HD : Hid (q.den ≠ 1) := h1
    clear h1
    go_enter Try.func44, Try.ntmps44
    go_wp2_with fail
    refine (isOne_any _ _ false _ hb1 (den_pos q) (by rw [beq_eq_false_iff_ne]; have := HD.out; omega)).mono ?_
    rintro e w1 ⟨rfl, hb2⟩
    have R1 := R0.stay hb2
    obtain ⟨a0, a1, -, -⟩ := (A0.stay hb2).two
    obtain ⟨b0, b1, -, -⟩ := (B0.stay hb2).two
    obtain ⟨r0, r1, r2, r3⟩ := R1.four
    obtain ⟨f0, f1, f2, f3⟩ := R1.frozen4
    go_wp2
    refine bodyPost_ret (v := .agg #[.bool na, .slice ao n cap, .bool nb, .slice bo m cap']) (by simp [results, Try.results44, go_sem, r0, r1, r2, r3]) rfl ?_
    refine ⟨_, _, _, _, _, _, _, _, rfl, ?_, below_store4 (hbw.step hb2 (Nat.le_refl _)) (by omega) _ _ _ _⟩
    refine QP.keepI ?_ (keepI_four (noI_slice _ _ _) (noI_slice _ _ _) R1 _ _ _ _ _ _ _ _)
    exact ⟨ha1.below hb2, by rw [dz_not HD.out]; exact hb1.below hb2⟩
end Go.Proofs.Ytidpbdhhbeaijaa
