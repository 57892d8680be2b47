/- Contract of arith.Mul; it proves no statement of the seat. -/
import Derived.Test.YteaejdcnpjhpoaaInts1J
import Derived.Deep.RegionHeld3
namespace Go.Proofs.Yteaejdcnpjhpoaa
open Go.RowKit

theorem sv_mul (a b : Bool) (m n : Nat) : sv (!(a == b)) (m * n) = sv a m * sv b n := by
  cases a <;> cases b <;> simp [sv, Int.natCast_mul, Int.neg_mul, Int.mul_neg]

set_option maxHeartbeats 4000000 in
theorem mul_any (va vb : Value) (x y : Int) (w : World) (ha : AInt w va x) (hb : AInt w vb y) :
    Calls Try.prog 17 #[va, vb] w fun e w' => ∃ v c, e = .returned (.tuple #[v, .int .i64 c]) ∧ Held w' v c (x * y) ∧ Below w.heap.size w w' := by
  obtain ⟨na, xs, hva, hxe, hxl⟩ := ha
  obtain ⟨nb, ys, hvb, hye, hyl⟩ := hb
  have hl1 := AInt.len hva hxl
  have hl2 := AInt.len hvb hyl
  obtain ⟨ao, cap, rfl, h1, h2, hs, hd, hn, h3⟩ := hva
  obtain ⟨bo, cap', rfl, k1, k2, ks, kd, kn, k3⟩ := hvb
  have HXY : Hid (x * y = sv (!(na == nb)) (val 4294967296 xs * val 4294967296 ys)) := by show _ = _; rw [sv_mul, hxe, hye]
  clear hxe hye hxl hyl h3 k3
  have A0 := ((Blk.new w 25 #[.bool na, .slice ao xs.length cap]).alloc (.cells #[.bool nb, .slice bo ys.length cap'] 25 (0, 0))).alloc (.cells #[.bool false, .slice none 0 0] 25 (0, 0))
  have B0 := (Blk.new (w.alloc (.cells #[.bool na, .slice ao xs.length cap] 25 (0, 0))) 25 #[.bool nb, .slice bo ys.length cap']).alloc (.cells #[.bool false, .slice none 0 0] 25 (0, 0))
  have R0 := Blk.new ((w.alloc (.cells #[.bool na, .slice ao xs.length cap] 25 (0, 0))).alloc (.cells #[.bool nb, .slice bo ys.length cap'] 25 (0, 0))) 25 #[.bool false, .slice none 0 0]
  simp only [World.size_alloc] at B0 R0
  have hbw : Below w.heap.size w (((w.alloc (.cells #[.bool na, .slice ao xs.length cap] 25 (0, 0))).alloc (.cells #[.bool nb, .slice bo ys.length cap'] 25 (0, 0))).alloc (.cells #[.bool false, .slice none 0 0] 25 (0, 0))) := by go_grown
  go_enter Try.func17, Try.ntmps17
  go_wp2
  go_region_held3 (fun w' => w'.cell? ⟨w.heap.size, 0, none⟩ = some (.bool na) ∧ w'.cell? ⟨w.heap.size, 1, none⟩ = some (.slice ao xs.length cap) ∧ w'.cell? ⟨w.heap.size + 1, 0, none⟩ = some (.bool nb) ∧ w'.cell? ⟨w.heap.size + 1, 1, none⟩ = some (.slice bo ys.length cap'))
    (simp [*, go_sem])
    (first
      | (go_at_call 57; refine (mulLimbs_any ao bo xs.length ys.length cap cap' xs ys _ rfl rfl (by omega) (by omega) (hs.below hbw.drew) (ks.below hbw.drew) hd kd).mono ?_; rintro e w1 ⟨v1, rfl, hl, hb1⟩; have A1 := Blk.stay A0.drew hb1; have B1 := Blk.stay B0.drew hb1; have R1 := Blk.stay R0.drew hb1; obtain ⟨ca0, ca1, _, _⟩ := A1.two; obtain ⟨cb0, cb1, _, _⟩ := B1.two)
      | (go_at_call 46; refine (fitting_lim _ v1 _ 9001 _ hl (by decide)).mono ?_; rintro e w2 ⟨v2, c, rfl, hheld, hb2⟩; obtain ⟨xx, aa, nn, cc, rfl⟩ := hheld.shape; obtain ⟨da0, da1, _, _⟩ := (A1.stay hb2).two; obtain ⟨db0, db1, _, _⟩ := (B1.stay hb2).two; have R2 := R1.stay hb2; obtain ⟨r0, r1, q0, q1⟩ := R2.two))
  go_wp2
  refine bodyPost_ret (v := .tuple #[.agg #[.bool xx, .slice aa nn cc], .int .i64 c]) (by simp [results, Try.results17, go_sem, r0, r1]) rfl ?_
  refine ⟨_, _, rfl, ?_, below_store2 (((hbw.drew).step hb1 (Nat.le_refl _)).step hb2 (Nat.le_refl _)) (by omega) _ _⟩
  rw [HXY.out]
  exact hheld.store2 R2 _ _ _ _
end Go.Proofs.Yteaejdcnpjhpoaa
