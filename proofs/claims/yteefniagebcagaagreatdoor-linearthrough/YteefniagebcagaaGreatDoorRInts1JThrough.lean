/- Contracts of suretyref01's Cmp, Neg, Abs, From; they prove no statement of the seat. -/
import Derived.Test.YteefniagebcagaaGreatDoorJoin12Through
namespace Go.Proofs.YteefniagebcagaaGreatDoor
open Go.RowKit

theorem sv_pos10 {ds : List Nat} {neg : Bool} (hn : Norm ds) (h : ds.length = 0 → neg = false) : neg = true → 0 < val 10 ds := by
  intro hneg
  refine (hn.pos (B := 10) (List.ne_nil_of_length_pos ?_)).resolve_right (by decide)
  rcases Nat.eq_zero_or_pos ds.length with k | k
  · rw [h k] at hneg; cases hneg
  · exact k

set_option maxHeartbeats 4000000 in
theorem rCmp_any (va vb : Value) (x y : Int) (L M : Nat) (w : World) (ha : RNum w va x L) (hb : RNum w vb y M) (hL : L ≤ 100000) (hM : M ≤ 100000) :
    Calls Tryz.prog 83 #[va, vb] w fun e w' => e = .returned (.int .i64 (x - y).sign) ∧ Below w.heap.size w w' := by
  obtain ⟨na, xs, hva, hxe, hxl⟩ := ha
  obtain ⟨nb, ys, hvb, hye, hyl⟩ := hb
  obtain ⟨ao, cap, rfl, h1, h2, h4, hs, hd, hn, h3, -⟩ := hva
  obtain ⟨bo, cap', rfl, k1, k2, k4, ks, kd, kn, k3, -⟩ := hvb
  have HXY : Hid ((x - y) = sv na (val 10 xs) - sv nb (val 10 ys) ∧ (na = true → 0 < val 10 xs) ∧ (nb = true → 0 < val 10 ys)) := ⟨by rw [hxe, hye], sv_pos10 hn h3, sv_pos10 kn k3⟩
  clear hxe hye h3 k3 h4 k4
  have hbw : Below w.heap.size w ((w.alloc (.cells #[.bool na, .slice ao xs.length cap] 39 (0, 0))).alloc (.cells #[.bool nb, .slice bo ys.length cap'] 39 (0, 0))) := by go_grown
  cases na with
  | true =>
    cases nb with
    | true =>
      have HR : Hid ((x - y).sign = cmpL 10 ys xs) := by show _ = _; rw [HXY.out.1, sign_sub_neg, cmpL_norm (by decide) kd hd kn hn]
      go_enter Tryz.func83, Tryz.ntmps83
      go_wp2_with (go_at_call 97; refine (rcmp_any bo ao ys.length xs.length cap' cap ys xs _ rfl rfl (by omega) (by omega) (ks.below hbw) (hs.below hbw) kd hd).mono ?_; rintro e w1 ⟨rfl, hb1⟩)
      go_ret
      exact ⟨by rw [HR.out]; rfl, hbw.step hb1 (Nat.le_refl _)⟩
    | false =>
      have HR : Hid ((x - y).sign = -1) := by show _ = _; rw [HXY.out.1, sign_tf _ _ (HXY.out.2.1 rfl)]
      go_enter Tryz.func83, Tryz.ntmps83
      go_wp2
      go_ret
      exact ⟨by rw [HR.out]; rfl, hbw⟩
  | false =>
    cases nb with
    | true =>
      have HR : Hid ((x - y).sign = 1) := by show _ = _; rw [HXY.out.1, sign_ft _ _ (HXY.out.2.2 rfl)]
      go_enter Tryz.func83, Tryz.ntmps83
      go_wp2
      go_ret
      exact ⟨by rw [HR.out]; rfl, hbw⟩
    | false =>
      have HR : Hid ((x - y).sign = cmpL 10 xs ys) := by show _ = _; rw [HXY.out.1, sign_sub_pos, cmpL_norm (by decide) hd kd hn kn]
      go_enter Tryz.func83, Tryz.ntmps83
      go_wp2_with (go_at_call 97; refine (rcmp_any ao bo xs.length ys.length cap cap' xs ys _ rfl rfl (by omega) (by omega) (hs.below hbw) (ks.below hbw) hd kd).mono ?_; rintro e w1 ⟨rfl, hb1⟩)
      go_ret
      exact ⟨by rw [HR.out]; rfl, hbw.step hb1 (Nat.le_refl _)⟩

theorem rtrim_seg (neg : Bool) (v : Value) (xs : List Nat) (z : Int) (w : World) (hv : ∃ ao cap, v = .slice ao xs.length cap ∧ xs.length ≤ cap ∧ cap ≤ maxLen ∧ Seg .i64 w ao xs) (h3 : xs.length ≤ 10000) (hd : Digs 10 xs) (hz' : sv neg (val 10 xs) = z) :
    Calls Tryz.prog 95 #[.bool neg, v] w fun e w' => ∃ s a n c, e = .returned (.agg #[.bool s, .slice a n c]) ∧ RNum w' (.agg #[.bool s, .slice a n c]) z xs.length ∧ Below w.heap.size w w' := by
  obtain ⟨ao, cap, rfl, h1, h2, hs⟩ := hv
  subst hz'
  refine (rtrim_any neg ao xs.length cap xs w rfl h1 h2 h3 hs hd).mono ?_
  rintro e w' ⟨v, rfl, h, hb⟩
  obtain ⟨s, a, n, c, rfl⟩ := h.shape
  exact ⟨s, a, n, c, rfl, h, hb⟩

set_option maxHeartbeats 2000000 in
theorem rneg_any (va : Value) (x : Int) (L : Nat) (w : World) (ha : RNum w va x L) (hL : L ≤ 10000) :
    Calls Tryz.prog 80 #[va] w fun e w' => ∃ s a n c, e = .returned (.agg #[.bool s, .slice a n c]) ∧ RNum w' (.agg #[.bool s, .slice a n c]) (-x) L ∧ Below w.heap.size w w' := by
  obtain ⟨neg, xs, hva, hxe, hxl⟩ := ha
  obtain ⟨ao, cap, rfl, h1, h2, h4, hs, hd, hn, h3, -⟩ := hva
  have HZ : Hid (sv (!neg) (val 10 xs) = -x) := by show _ = _; rw [hxe]; cases neg <;> simp [sv]
  have hbw : Below w.heap.size w ((w.alloc (.cells #[.bool neg, .slice ao xs.length cap] 39 (0, 0))).alloc (.cells #[.bool false, .slice none 0 0] 39 (0, 0))) := by go_grown
  have R0 := Blk.new (w.alloc (.cells #[.bool neg, .slice ao xs.length cap] 39 (0, 0))) 39 #[.bool false, .slice none 0 0]
  simp only [World.size_alloc] at R0
  clear hxe h3
  go_enter Tryz.func80, Tryz.ntmps80
  go_wp2_with fail
  refine (rtrim_seg (!neg) _ xs (-x) _ ⟨ao, cap, rfl, h1, h2, hs.below hbw⟩ (by omega) hd HZ.out).mono ?_
  rintro e w1 ⟨s, a, n, c, rfl, hr, hb1⟩
  have R1 := R0.stay hb1
  obtain ⟨r0, r1, rf0, rf1⟩ := R1.two
  go_wp2
  refine bodyPost_ret (v := .agg #[.bool s, .slice a n c]) (by simp [results, Tryz.results80, go_sem, r0, r1]) rfl ?_
  exact ⟨_, _, _, _, rfl, (hr.mono hxl).store2 R1 _ _ _ _, below_store2 (hbw.step hb1 (Nat.le_refl _)) (by omega) _ _⟩

set_option maxHeartbeats 2000000 in
theorem rabs_any (va : Value) (x : Int) (L : Nat) (w : World) (ha : RNum w va x L) (hL : L ≤ 10000) :
    Calls Tryz.prog 117 #[va] w fun e w' => ∃ s a n c, e = .returned (.agg #[.bool s, .slice a n c]) ∧ RNum w' (.agg #[.bool s, .slice a n c]) (x.natAbs : Int) L ∧ Below w.heap.size w w' := by
  obtain ⟨neg, xs, hva, hxe, hxl⟩ := ha
  obtain ⟨ao, cap, rfl, h1, h2, h4, hs, hd, hn, h3, -⟩ := hva
  have HZ : Hid (sv false (val 10 xs) = (x.natAbs : Int)) := by show _ = _; rw [hxe, sv_natAbs]; simp [sv]
  have hbw : Below w.heap.size w ((w.alloc (.cells #[.bool neg, .slice ao xs.length cap] 39 (0, 0))).alloc (.cells #[.bool false, .slice none 0 0] 39 (0, 0))) := by go_grown
  have R0 := Blk.new (w.alloc (.cells #[.bool neg, .slice ao xs.length cap] 39 (0, 0))) 39 #[.bool false, .slice none 0 0]
  simp only [World.size_alloc] at R0
  clear hxe h3
  go_enter Tryz.func117, Tryz.ntmps117
  go_wp2_with fail
  refine (rtrim_seg false _ xs _ _ ⟨ao, cap, rfl, h1, h2, hs.below hbw⟩ (by omega) hd HZ.out).mono ?_
  rintro e w1 ⟨s, a, n, c, rfl, hr, hb1⟩
  have R1 := R0.stay hb1
  obtain ⟨r0, r1, rf0, rf1⟩ := R1.two
  go_wp2
  refine bodyPost_ret (v := .agg #[.bool s, .slice a n c]) (by simp [results, Tryz.results117, go_sem, r0, r1]) rfl ?_
  exact ⟨_, _, _, _, rfl, (hr.mono hxl).store2 R1 _ _ _ _, below_store2 (hbw.step hb1 (Nat.le_refl _)) (by omega) _ _⟩
end Go.Proofs.YteefniagebcagaaGreatDoor
