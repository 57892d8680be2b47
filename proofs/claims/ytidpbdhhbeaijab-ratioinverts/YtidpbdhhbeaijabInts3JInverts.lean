/- Contracts of arith's Neg, Abs, Cmp; they prove no statement of the seat. -/
import Derived.Test.YtidpbdhhbeaijabJoin6Inverts
namespace Go.Proofs.Ytidpbdhhbeaijab
open Go.RowKit

theorem sv_not (n : Bool) (m : Nat) : sv (!n) m = - sv n m := by cases n <;> simp [sv]

/-- arith's copied, of limbs without noughts at their end. -/
theorem copied_lim (v : Value) (N L : Nat) (w : World) (hv : LimR w v N L) (hN : N < lim) :
    Calls Try.prog 60 #[v] w fun e w' => ∃ v', e = .returned v' ∧ LimR w' v' N 9001 ∧ Below w.heap.size w w' := by
  obtain ⟨ao, cap, ls, rfl, h1, h2, hs, hd, hn, rfl⟩ := hv
  have hl := norm_len hn hN
  refine (copied_any ao ls.length cap ls w rfl (by omega) hs).mono ?_
  rintro e w' ⟨rfl, hr, hb, _⟩
  exact ⟨_, rfl, LimR.all hr hd hn 9001 (by omega), hb⟩

set_option maxHeartbeats 4000000 in
theorem neg_any (va : Value) (x : Int) (w : World) (ha : AInt w va x) :
    Calls Try.prog 49 #[va] w fun e w' => ∃ v, e = .returned v ∧ AInt w' v (-x) ∧ Below w.heap.size w w' := by
  obtain ⟨na, xs, hva, hxe, hxl⟩ := ha
  obtain ⟨ao, cap, rfl, h1, h2, hs, hd, hn, h3⟩ := hva
  have HX : Hid (-x = sv (!na) (val 4294967296 xs) ∧ val 4294967296 xs < lim) := ⟨by rw [sv_not, hxe], hxl⟩
  clear hxe hxl h3
  have A0 := (Blk.new w 25 #[.bool na, .slice ao xs.length cap]).alloc (.cells #[.bool false, .slice none 0 0] 25 (0, 0))
  have R0 := Blk.new (w.alloc (.cells #[.bool na, .slice ao xs.length cap] 25 (0, 0))) 25 #[.bool false, .slice none 0 0]
  simp only [World.size_alloc] at R0
  have hbw : Below w.heap.size w ((w.alloc (.cells #[.bool na, .slice ao xs.length cap] 25 (0, 0))).alloc (.cells #[.bool false, .slice none 0 0] 25 (0, 0))) := by go_grown
  have HL : Hid (LimR ((w.alloc (.cells #[.bool na, .slice ao xs.length cap] 25 (0, 0))).alloc (.cells #[.bool false, .slice none 0 0] 25 (0, 0))).drew (.slice ao xs.length cap) (val 4294967296 xs) 10000) := ⟨ao, cap, xs, rfl, h1, h2, hs.below hbw.drew, hd, hn, rfl⟩
  go_enter Try.func49, Try.ntmps49
  go_wp2
  go_region_held3 (fun w' => w'.cell? ⟨w.heap.size, 0, none⟩ = some (.bool na) ∧ w'.cell? ⟨w.heap.size, 1, none⟩ = some (.slice ao xs.length cap))
    (simp [*, go_sem])
    (first
      | (go_at_call 60; refine (copied_lim _ _ 10000 _ HL.out HX.out.2).mono ?_; rintro e w1 ⟨v1, rfl, hl, hb1⟩; have A1 := A0.drew.stay hb1; have R1 := R0.drew.stay hb1; obtain ⟨ca0, ca1, _, _⟩ := A1.two)
      | (go_at_call 43; refine (signed_lim _ v1 _ 9001 _ hl (by decide) HX.out.2).mono ?_; rintro e w2 ⟨v2, rfl, ha2, hb2⟩; obtain ⟨xx, aa, nn, cc, rfl⟩ := ha2.shape; obtain ⟨da0, da1, _, _⟩ := (A1.stay hb2).two; have R2 := R1.stay hb2; obtain ⟨r0, r1, q0, q1⟩ := R2.two))
  go_wp2
  refine bodyPost_ret (v := .agg #[.bool xx, .slice aa nn cc]) (by simp [results, Try.results49, go_sem, r0, r1]) rfl ?_
  refine ⟨_, rfl, ?_, below_store2 (((hbw.drew).step hb1 (Nat.le_refl _)).step hb2 (Nat.le_refl _)) (by omega) _ _⟩
  rw [HX.out.1]
  exact ha2.store2 R2 _ _ _ _

theorem sign_sub_pos (m n : Nat) : ((sv false m) - (sv false n)).sign = ((m : Int) - n).sign := rfl
theorem sign_sub_neg (m n : Nat) : ((sv true m) - (sv true n)).sign = ((n : Int) - m).sign := by
  have : sv true m - sv true n = (n : Int) - m := by simp [sv]; omega
  rw [this]
theorem sign_tf (m n : Nat) (hm : 0 < m) : ((sv true m) - (sv false n)).sign = -1 := Int.sign_eq_neg_one_of_neg (by simp [sv]; omega)
theorem sign_ft (m n : Nat) (hn : 0 < n) : ((sv false m) - (sv true n)).sign = 1 := Int.sign_eq_one_of_pos (by simp [sv]; omega)

set_option maxHeartbeats 4000000 in
theorem cmp_any (va vb : Value) (x y : Int) (w : World) (ha : AInt w va x) (hb : AInt w vb y) :
    Calls Try.prog 26 #[va, vb] w fun e w' => e = .returned (.int .i64 (x - y).sign) ∧ Below w.heap.size w w' := by
  obtain ⟨na, xs, hva, hxe, hxl⟩ := ha
  obtain ⟨nb, ys, hvb, hye, hyl⟩ := hb
  have hl1 := AInt.len hva hxl
  have hl2 := AInt.len hvb hyl
  obtain ⟨ao, cap, rfl, h1, h2, hs, hd, hn, h3⟩ := hva
  obtain ⟨bo, cap', rfl, k1, k2, ks, kd, kn, k3⟩ := hvb
  have hpos : ∀ zs : List Nat, ∀ ng : Bool, Norm zs → (zs.length = 0 → ng = false) → ng = true → 0 < val 4294967296 zs := by
    intro zs ng hz1 hz2 hz3
    refine (hz1.pos (B := 4294967296) (List.ne_nil_of_length_pos ?_)).resolve_right (by decide)
    rcases Nat.eq_zero_or_pos zs.length with h | h
    · rw [hz2 h] at hz3; cases hz3
    · exact h
  have HXY : Hid ((x - y) = sv na (val 4294967296 xs) - sv nb (val 4294967296 ys) ∧ (na = true → 0 < val 4294967296 xs) ∧ (nb = true → 0 < val 4294967296 ys)) := ⟨by rw [hxe, hye], hpos xs na hn h3, hpos ys nb kn k3⟩
  clear hxe hye hxl hyl h3 k3 hpos
  have hbw : Below w.heap.size w ((w.alloc (.cells #[.bool na, .slice ao xs.length cap] 25 (0, 0))).alloc (.cells #[.bool nb, .slice bo ys.length cap'] 25 (0, 0))) := by go_grown
  cases na with
  | true =>
    cases nb with
    | true =>
      have HR : Hid ((x - y).sign = cmpL 4294967296 ys xs) := by show _ = _; rw [HXY.out.1, sign_sub_neg, cmpL_norm (by decide) kd hd kn hn]
      go_enter Try.func26, Try.ntmps26
      go_wp2_with (go_at_call 47; refine (cmpLimbs_any bo ao ys.length xs.length cap' cap ys xs _ rfl rfl (by omega) (by omega) (ks.below hbw) (hs.below hbw) kd hd).mono ?_; rintro e w1 ⟨rfl, hb1⟩)
      go_ret
      exact ⟨by rw [HR.out]; rfl, hbw.step hb1 (Nat.le_refl _)⟩
    | false =>
      have HR : Hid ((x - y).sign = -1) := by show _ = _; rw [HXY.out.1, sign_tf _ _ (HXY.out.2.1 rfl)]
      go_enter Try.func26, Try.ntmps26
      go_wp2
      go_ret
      exact ⟨by rw [HR.out]; rfl, hbw⟩
  | false =>
    cases nb with
    | true =>
      have HR : Hid ((x - y).sign = 1) := by show _ = _; rw [HXY.out.1, sign_ft _ _ (HXY.out.2.2 rfl)]
      go_enter Try.func26, Try.ntmps26
      go_wp2
      go_ret
      exact ⟨by rw [HR.out]; rfl, hbw⟩
    | false =>
      have HR : Hid ((x - y).sign = cmpL 4294967296 xs ys) := by show _ = _; rw [HXY.out.1, sign_sub_pos, cmpL_norm (by decide) hd kd hn kn]
      go_enter Try.func26, Try.ntmps26
      go_wp2_with (go_at_call 47; refine (cmpLimbs_any ao bo xs.length ys.length cap cap' xs ys _ rfl rfl (by omega) (by omega) (hs.below hbw) (ks.below hbw) hd kd).mono ?_; rintro e w1 ⟨rfl, hb1⟩)
      go_ret
      exact ⟨by rw [HR.out]; rfl, hbw.step hb1 (Nat.le_refl _)⟩
end Go.Proofs.Ytidpbdhhbeaijab
