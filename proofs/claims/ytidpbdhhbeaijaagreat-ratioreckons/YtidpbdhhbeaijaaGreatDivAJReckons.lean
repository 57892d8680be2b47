/- arith.Div of any two numbers; it proves no statement of the seat. -/
import Derived.Test.YtidpbdhhbeaijaaGreatJoin11Reckons
import Derived.Test.YtidpbdhhbeaijaaGreatJoin6Reckons
namespace Go.Proofs.YtidpbdhhbeaijaaGreat
open Go.RowKit

theorem divC_all (xs ys : List Nat) (hl : xs.length ≤ 8000) (hl' : ys.length ≤ 8000) (hy : 0 < ys.length) (hdx : Digs 4294967296 xs) (hdy : Digs 4294967296 ys) (nx : Norm xs) (ny : Norm ys) : DivC xs ys := by
  rcases Nat.lt_or_ge (val 4294967296 xs) (val 4294967296 ys) with h | h
  · exact divLimbs_less xs ys (by omega) (by omega) hdx hdy nx ny h
  · by_cases h1 : ys.length = 1
    · exact divLimbs_one xs ys (by omega) h1 hdx hdy nx ny h
    · have h2 : ys.length ≤ xs.length := by
        rcases Nat.lt_or_ge xs.length ys.length with k | k
        · have := val_lt_of_length hdx ny (by decide) k; omega
        · exact k
      exact divLimbs_long (ys.length - 2) (xs.length - ys.length) xs ys (by omega) (by omega) (by omega) hdx hdy nx ny h

theorem div_h (va vb : Value) (x y q r : Int) (w : World) (ha : AInt w va x) (hb : AInt w vb y) (hy : y ≠ 0) (hq : x.fdiv y = q) (hr : x.fmod y = r) :
    Calls Tryz.prog 62 #[va, vb] w fun e w' => ∃ s a n c s' a' n' c', e = .returned (.tuple #[.agg #[.bool s, .slice a n c], .agg #[.bool s', .slice a' n' c'], .int .i64 0]) ∧ AInt w' (.agg #[.bool s, .slice a n c]) q ∧ AInt w' (.agg #[.bool s', .slice a' n' c']) r ∧ Below w.heap.size w w' := by
  subst hq hr
  obtain ⟨na, xs, hx, rfl, hxl⟩ := ha
  obtain ⟨nb, ys, hy', rfl, hyl⟩ := hb
  have hl1 := AInt.len hx hxl
  have hl2 := AInt.len hy' hyl
  have hy0 : 0 < ys.length := by
    rcases Nat.eq_zero_or_pos ys.length with h | h
    · exfalso
      have : ys = [] := List.eq_nil_of_length_eq_zero h
      subst this
      exact hy (by rw [val_nil, sv_zero])
    · exact h
  have hdc : DivC xs ys := by
    obtain ⟨_, _, _, _, _, _, d1, n1, _⟩ := hx
    obtain ⟨_, _, _, _, _, _, d2, n2, _⟩ := hy'
    exact divC_all xs ys (by omega) (by omega) hy0 d1 d2 n1 n2
  refine (div_of va vb na nb xs ys w hx hy' hxl hyl hy0 hdc).mono ?_
  rintro e w' ⟨vq, vr, rfl, hq, hr, hb⟩
  obtain ⟨s, a, n, c, rfl⟩ := hq.shape
  obtain ⟨s', a', n', c', rfl⟩ := hr.shape
  exact ⟨s, a, n, c, s', a', n', c', rfl, hq, hr, hb⟩

set_option maxHeartbeats 4000000 in
theorem div_zero (va vb : Value) (x : Int) (w : World) (ha : AInt w va x) (hb : AInt w vb 0) :
    Calls Tryz.prog 62 #[va, vb] w fun e w' => e = .returned (.tuple #[.agg #[.bool false, .slice none 0 0], .agg #[.bool false, .slice none 0 0], .int .i64 12]) ∧ Below w.heap.size w w' := by
  obtain ⟨na, ao, n, cap, rfl⟩ := ha.shape
  obtain ⟨nb, bo, m, cap', rfl⟩ := hb.shape
  have Q0 := (Blk.new ((w.alloc (.cells #[.bool na, .slice ao n cap] 25 (0, 0))).alloc (.cells #[.bool nb, .slice bo m cap'] 25 (0, 0))) 25 #[.bool false, .slice none 0 0]).alloc (.cells #[.bool false, .slice none 0 0] 25 (0, 0))
  have R0 := Blk.new (((w.alloc (.cells #[.bool na, .slice ao n cap] 25 (0, 0))).alloc (.cells #[.bool nb, .slice bo m cap'] 25 (0, 0))).alloc (.cells #[.bool false, .slice none 0 0] 25 (0, 0))) 25 #[.bool false, .slice none 0 0]
  simp only [World.size_alloc] at Q0 R0
  have hbw0 : Below w.heap.size w ((((w.alloc (.cells #[.bool na, .slice ao n cap] 25 (0, 0))).alloc (.cells #[.bool nb, .slice bo m cap'] 25 (0, 0))).alloc (.cells #[.bool false, .slice none 0 0] 25 (0, 0))).alloc (.cells #[.bool false, .slice none 0 0] 25 (0, 0))) := by go_grown
  have hb4 := hb.below hbw0
  go_enter Tryz.func62, Tryz.ntmps62
  go_wp2_with fail
  refine (sign_h _ 0 _ hb4).mono ?_
  rintro e w1 ⟨rfl, hb1⟩
  have Q1 := Q0.stay hb1
  have R1 := R0.stay hb1
  obtain ⟨q0, q1, q2, q3⟩ := Q1.two
  obtain ⟨r0, r1, r2, r3⟩ := R1.two
  have hbw1 := hbw0.step hb1 (Nat.le_refl _)
  go_wp2
  refine bodyPost_ret (v := .tuple #[.agg #[.bool false, .slice none 0 0], .agg #[.bool false, .slice none 0 0], .int .i64 12]) (by simp [results, Tryz.results62, go_sem, q0, q1, r0, r1]) rfl ?_
  exact ⟨rfl, below_store2 (below_store2 hbw1 (by omega) _ _) (by omega) _ _⟩
end Go.Proofs.YtidpbdhhbeaijaaGreat
