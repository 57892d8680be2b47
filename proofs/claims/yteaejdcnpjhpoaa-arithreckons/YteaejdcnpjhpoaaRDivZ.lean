/- Contracts of both Div, whatever the divisor is; it proves no statement of the seat. -/
import Derived.Test.YteaejdcnpjhpoaaRDiv
import Derived.Test.YteaejdcnpjhpoaaVars
namespace Go.Proofs.Yteaejdcnpjhpoaa
open Go.RowKit

def dc (y : Int) : Int := if y = 0 then 12 else 0
def dq (x y : Int) : Int := if y = 0 then 0 else x.fdiv y
def dr (x y : Int) : Int := if y = 0 then 0 else x.fmod y

theorem div_u (va vb : Value) (x y : Int) (w : World) (ha : AInt w va x) (hb : AInt w vb y) :
    Calls Try.prog 18 #[va, vb] w fun e w' => ∃ s a n c s' a' n' c', e = .returned (.tuple #[.agg #[.bool s, .slice a n c], .agg #[.bool s', .slice a' n' c'], .int .i64 (dc y)]) ∧ AInt w' (.agg #[.bool s, .slice a n c]) (dq x y) ∧ AInt w' (.agg #[.bool s', .slice a' n' c']) (dr x y) ∧ Below w.heap.size w w' := by
  by_cases h : y = 0
  · subst h
    refine (div_zero va vb x w ha hb).mono ?_
    rintro e w' ⟨rfl, hb⟩
    exact ⟨_, _, _, _, _, _, _, _, rfl, AInt.zero _, AInt.zero _, hb⟩
  · refine (div_h va vb x y _ _ w ha hb h rfl rfl).mono ?_
    rintro e w' ⟨s, a, n, c, s', a', n', c', rfl, h1, h2, hb⟩
    refine ⟨s, a, n, c, s', a', n', c', ?_, ?_, ?_, hb⟩
    · rw [dc, if_neg h]
    · rw [dq, if_neg h]; exact h1
    · rw [dr, if_neg h]; exact h2

set_option maxRecDepth 20000 in
set_option maxHeartbeats 8000000 in
theorem rDiv_zero (va vb : Value) (x : Int) (w : World) (ha : RNum w va x 400) (hb : RNum w vb 0 400) :
    Calls Try.prog 23 #[va, vb] w fun e w' => e = .returned (.tuple #[.agg #[.bool false, .slice none 0 0], .agg #[.bool false, .slice none 0 0], .int .i64 12]) ∧ Below w.heap.size w w' := by
  obtain ⟨na, ao, n, cap, rfl⟩ := ha.shape
  obtain ⟨nb, bo, m, cap', rfl⟩ := hb.shape
  have hm : m = 0 := by
    have := rnum_len hb
    rcases Nat.eq_zero_or_pos m with k | k
    · exact k
    · exact absurd rfl (this.1 k)
  subst hm
  clear ha hb
  have hbw : Below w.heap.size w ((((w.alloc (.cells #[.bool na, .slice ao n cap] 31 (0, 0))).alloc (.cells #[.bool nb, .slice bo 0 cap'] 31 (0, 0))).alloc (.cells #[.bool false, .slice none 0 0] 31 (0, 0))).alloc (.cells #[.bool false, .slice none 0 0] 31 (0, 0))) := by go_grown
  go_enter Try.func23, Try.ntmps23
  go_wp2
  refine bodyPost_ret (v := .tuple #[.agg #[.bool false, .slice none 0 0], .agg #[.bool false, .slice none 0 0], .int .i64 12]) (by simp [results, Try.results23, go_sem]) rfl ?_
  exact ⟨rfl, hbw⟩

theorem rDiv_u (va vb : Value) (x y : Int) (w : World) (ha : RNum w va x 400) (hb : RNum w vb y 400) :
    Calls Try.prog 23 #[va, vb] w fun e w' => ∃ s a n c s' a' n' c', e = .returned (.tuple #[.agg #[.bool s, .slice a n c], .agg #[.bool s', .slice a' n' c'], .int .i64 (dc y)]) ∧ RNum w' (.agg #[.bool s, .slice a n c]) (dq x y) 1000 ∧ RNum w' (.agg #[.bool s', .slice a' n' c']) (dr x y) 1000 ∧ Below w.heap.size w w' := by
  by_cases h : y = 0
  · subst h
    refine (rDiv_zero va vb x w ha hb).mono ?_
    rintro e w' ⟨rfl, hb⟩
    exact ⟨_, _, _, _, _, _, _, _, rfl, RNum.zero _ _, RNum.zero _ _, hb⟩
  · refine (rDiv_any va vb x y w ha hb h).mono ?_
    rintro e w' ⟨s, a, n, c, s', a', n', c', rfl, h1, h2, hb⟩
    refine ⟨s, a, n, c, s', a', n', c', ?_, ?_, ?_, hb⟩
    · rw [dc, if_neg h]
    · rw [dq, if_neg h]; exact h1
    · rw [dr, if_neg h]; exact h2
end Go.Proofs.Yteaejdcnpjhpoaa
