/- Joined: Ints3, Ints4, Vars, Lst: words and contracts; no statement of the seat is proved here. -/
import Derived.Test.YtidpbdhhbeaijabJoin6Folds
import Derived.Test.YtidpbdhhbeaijabJoin8Folds
import Derived.Test.YtidpbdhhbeaijabJoin0Folds
/- Contracts of arith's Neg, Abs, Cmp; they prove no statement of the seat. -/
namespace Go.Proofs.Ytidpbdhhbeaijab
open Go.RowKit

theorem sv_not (n : Bool) (m : Nat) : sv (!n) m = - sv n m := by cases n <;> simp [sv]

/-- arith's copied, of limbs without noughts at their end. -/
theorem copied_lim (v : Value) (N L : Nat) (w : World) (hv : LimR w v N L) (hN : N < lim) :
    Calls Try.prog 60 #[v] w fun e w' => ∃ v', e = .returned v' ∧ LimR w' v' N 9001 ∧ Below w.heap.size w w' := by
  obtain ⟨ao, cap, ls, rfl, h1, h2, hs, hd, hn, rfl⟩ := hv
  have hl := norm_len hn hN
  refine (copied_any ao ls.length cap ls w rfl (by omega) hs).mono ?_
  rintro e w' ⟨rfl, hr, hb, _⟩
  exact ⟨_, rfl, LimR.all hr hd hn 9001 (by omega), hb⟩

set_option maxHeartbeats 4000000 in
theorem neg_any (va : Value) (x : Int) (w : World) (ha : AInt w va x) :
    Calls Try.prog 49 #[va] w fun e w' => ∃ v, e = .returned v ∧ AInt w' v (-x) ∧ Below w.heap.size w w' := by
  obtain ⟨na, xs, hva, hxe, hxl⟩ := ha
  obtain ⟨ao, cap, rfl, h1, h2, hs, hd, hn, h3⟩ := hva
  have HX : Hid (-x = sv (!na) (val 4294967296 xs) ∧ val 4294967296 xs < lim) := ⟨by rw [sv_not, hxe], hxl⟩
  clear hxe hxl h3
  have A0 := (Blk.new w 25 #[.bool na, .slice ao xs.length cap]).alloc (.cells #[.bool false, .slice none 0 0] 25 (0, 0))
  have R0 := Blk.new (w.alloc (.cells #[.bool na, .slice ao xs.length cap] 25 (0, 0))) 25 #[.bool false, .slice none 0 0]
  simp only [World.size_alloc] at R0
  have hbw : Below w.heap.size w ((w.alloc (.cells #[.bool na, .slice ao xs.length cap] 25 (0, 0))).alloc (.cells #[.bool false, .slice none 0 0] 25 (0, 0))) := by go_grown
  have HL : Hid (LimR ((w.alloc (.cells #[.bool na, .slice ao xs.length cap] 25 (0, 0))).alloc (.cells #[.bool false, .slice none 0 0] 25 (0, 0))).drew (.slice ao xs.length cap) (val 4294967296 xs) 10000) := ⟨ao, cap, xs, rfl, h1, h2, hs.below hbw.drew, hd, hn, rfl⟩
  go_enter Try.func49, Try.ntmps49
  go_wp2
  go_region_held3 (fun w' => w'.cell? ⟨w.heap.size, 0, none⟩ = some (.bool na) ∧ w'.cell? ⟨w.heap.size, 1, none⟩ = some (.slice ao xs.length cap))
    (simp [*, go_sem])
    (first
      | (go_at_call 60; refine (copied_lim _ _ 10000 _ HL.out HX.out.2).mono ?_; rintro e w1 ⟨v1, rfl, hl, hb1⟩; have A1 := A0.drew.stay hb1; have R1 := R0.drew.stay hb1; obtain ⟨ca0, ca1, _, _⟩ := A1.two)
      | (go_at_call 43; refine (signed_lim _ v1 _ 9001 _ hl (by decide) HX.out.2).mono ?_; rintro e w2 ⟨v2, rfl, ha2, hb2⟩; obtain ⟨xx, aa, nn, cc, rfl⟩ := ha2.shape; obtain ⟨da0, da1, _, _⟩ := (A1.stay hb2).two; have R2 := R1.stay hb2; obtain ⟨r0, r1, q0, q1⟩ := R2.two))
  go_wp2
  refine bodyPost_ret (v := .agg #[.bool xx, .slice aa nn cc]) (by simp [results, Try.results49, go_sem, r0, r1]) rfl ?_
  refine ⟨_, rfl, ?_, below_store2 (((hbw.drew).step hb1 (Nat.le_refl _)).step hb2 (Nat.le_refl _)) (by omega) _ _⟩
  rw [HX.out.1]
  exact ha2.store2 R2 _ _ _ _

theorem sign_sub_pos (m n : Nat) : ((sv false m) - (sv false n)).sign = ((m : Int) - n).sign := rfl
theorem sign_sub_neg (m n : Nat) : ((sv true m) - (sv true n)).sign = ((n : Int) - m).sign := by
  have : sv true m - sv true n = (n : Int) - m := by simp [sv]; omega
  rw [this]
theorem sign_tf (m n : Nat) (hm : 0 < m) : ((sv true m) - (sv false n)).sign = -1 := Int.sign_eq_neg_one_of_neg (by simp [sv]; omega)
theorem sign_ft (m n : Nat) (hn : 0 < n) : ((sv false m) - (sv true n)).sign = 1 := Int.sign_eq_one_of_pos (by simp [sv]; omega)

set_option maxHeartbeats 4000000 in
theorem cmp_any (va vb : Value) (x y : Int) (w : World) (ha : AInt w va x) (hb : AInt w vb y) :
    Calls Try.prog 26 #[va, vb] w fun e w' => e = .returned (.int .i64 (x - y).sign) ∧ Below w.heap.size w w' := by
  obtain ⟨na, xs, hva, hxe, hxl⟩ := ha
  obtain ⟨nb, ys, hvb, hye, hyl⟩ := hb
  have hl1 := AInt.len hva hxl
  have hl2 := AInt.len hvb hyl
  obtain ⟨ao, cap, rfl, h1, h2, hs, hd, hn, h3⟩ := hva
  obtain ⟨bo, cap', rfl, k1, k2, ks, kd, kn, k3⟩ := hvb
  have hpos : ∀ zs : List Nat, ∀ ng : Bool, Norm zs → (zs.length = 0 → ng = false) → ng = true → 0 < val 4294967296 zs := by
    intro zs ng hz1 hz2 hz3
    refine (hz1.pos (B := 4294967296) (List.ne_nil_of_length_pos ?_)).resolve_right (by decide)
    rcases Nat.eq_zero_or_pos zs.length with h | h
    · rw [hz2 h] at hz3; cases hz3
    · exact h
  have HXY : Hid ((x - y) = sv na (val 4294967296 xs) - sv nb (val 4294967296 ys) ∧ (na = true → 0 < val 4294967296 xs) ∧ (nb = true → 0 < val 4294967296 ys)) := ⟨by rw [hxe, hye], hpos xs na hn h3, hpos ys nb kn k3⟩
  clear hxe hye hxl hyl h3 k3 hpos
  have hbw : Below w.heap.size w ((w.alloc (.cells #[.bool na, .slice ao xs.length cap] 25 (0, 0))).alloc (.cells #[.bool nb, .slice bo ys.length cap'] 25 (0, 0))) := by go_grown
  cases na with
  | true =>
    cases nb with
    | true =>
      have HR : Hid ((x - y).sign = cmpL 4294967296 ys xs) := by show _ = _; rw [HXY.out.1, sign_sub_neg, cmpL_norm (by decide) kd hd kn hn]
      go_enter Try.func26, Try.ntmps26
      go_wp2_with (go_at_call 47; refine (cmpLimbs_any bo ao ys.length xs.length cap' cap ys xs _ rfl rfl (by omega) (by omega) (ks.below hbw) (hs.below hbw) kd hd).mono ?_; rintro e w1 ⟨rfl, hb1⟩)
      go_ret
      exact ⟨by rw [HR.out]; rfl, hbw.step hb1 (Nat.le_refl _)⟩
    | false =>
      have HR : Hid ((x - y).sign = -1) := by show _ = _; rw [HXY.out.1, sign_tf _ _ (HXY.out.2.1 rfl)]
      go_enter Try.func26, Try.ntmps26
      go_wp2
      go_ret
      exact ⟨by rw [HR.out]; rfl, hbw⟩
  | false =>
    cases nb with
    | true =>
      have HR : Hid ((x - y).sign = 1) := by show _ = _; rw [HXY.out.1, sign_ft _ _ (HXY.out.2.2 rfl)]
      go_enter Try.func26, Try.ntmps26
      go_wp2
      go_ret
      exact ⟨by rw [HR.out]; rfl, hbw⟩
    | false =>
      have HR : Hid ((x - y).sign = cmpL 4294967296 xs ys) := by show _ = _; rw [HXY.out.1, sign_sub_pos, cmpL_norm (by decide) hd kd hn kn]
      go_enter Try.func26, Try.ntmps26
      go_wp2_with (go_at_call 47; refine (cmpLimbs_any ao bo xs.length ys.length cap cap' xs ys _ rfl rfl (by omega) (by omega) (hs.below hbw) (ks.below hbw) hd kd).mono ?_; rintro e w1 ⟨rfl, hb1⟩)
      go_ret
      exact ⟨by rw [HR.out]; rfl, hbw.step hb1 (Nat.le_refl _)⟩
end Go.Proofs.Ytidpbdhhbeaijab
/- Contracts of arith's Add and Sub; they prove no statement of the seat. -/
namespace Go.Proofs.Ytidpbdhhbeaijab
open Go.RowKit

theorem sv_add (n : Bool) (a b : Nat) : sv n a + sv n b = sv n (a + b) := by cases n <;> simp [sv] <;> omega
theorem sv_diff (n m : Bool) (a b : Nat) (h : (n == m) = false) (hle : b ≤ a) : sv n a + sv m b = sv n (a - b) := by
  cases n <;> cases m <;> simp [sv] at h ⊢ <;> omega
theorem sv_diff' (n m : Bool) (a b : Nat) (h : (n == m) = false) (hle : a ≤ b) : sv n a + sv m b = sv m (b - a) := by
  cases n <;> cases m <;> simp [sv] at h ⊢ <;> omega

set_option maxHeartbeats 8000000 in
theorem add_any (va vb : Value) (x y : Int) (w : World) (ha : AInt w va x) (hb : AInt w vb y) :
    Calls Try.prog 23 #[va, vb] w fun e w' => ∃ v c, e = .returned (.tuple #[v, .int .i64 c]) ∧ Held w' v c (x + y) ∧ Below w.heap.size w w' := by
  obtain ⟨na, xs, hva, hxe, hxl⟩ := ha
  obtain ⟨nb, ys, hvb, hye, hyl⟩ := hb
  have hl1 := AInt.len hva hxl
  have hl2 := AInt.len hvb hyl
  obtain ⟨ao, cap, rfl, h1, h2, hs, hd, hn, h3⟩ := hva
  obtain ⟨bo, cap', rfl, k1, k2, ks, kd, kn, k3⟩ := hvb
  have HE : Hid (x + y = sv na (val 4294967296 xs) + sv nb (val 4294967296 ys) ∧ val 4294967296 xs < lim ∧ val 4294967296 ys < lim) := ⟨by rw [hxe, hye], hxl, hyl⟩
  clear hxe hye hxl hyl h3 k3
  have A0 := ((Blk.new w 25 #[.bool na, .slice ao xs.length cap]).alloc (.cells #[.bool nb, .slice bo ys.length cap'] 25 (0, 0))).alloc (.cells #[.bool false, .slice none 0 0] 25 (0, 0))
  have B0 := (Blk.new (w.alloc (.cells #[.bool na, .slice ao xs.length cap] 25 (0, 0))) 25 #[.bool nb, .slice bo ys.length cap']).alloc (.cells #[.bool false, .slice none 0 0] 25 (0, 0))
  have R0 := Blk.new ((w.alloc (.cells #[.bool na, .slice ao xs.length cap] 25 (0, 0))).alloc (.cells #[.bool nb, .slice bo ys.length cap'] 25 (0, 0))) 25 #[.bool false, .slice none 0 0]
  simp only [World.size_alloc] at B0 R0
  have hbw : Below w.heap.size w (((w.alloc (.cells #[.bool na, .slice ao xs.length cap] 25 (0, 0))).alloc (.cells #[.bool nb, .slice bo ys.length cap'] 25 (0, 0))).alloc (.cells #[.bool false, .slice none 0 0] 25 (0, 0))) := by go_grown
  by_cases hst : (na == nb) = true
  · have HXY : Hid (x + y = sv na (val 4294967296 xs + val 4294967296 ys)) := by
      show _ = _
      have e : na = nb := by simpa using hst
      rw [HE.out.1, ← e, sv_add]
    go_enter Try.func23, Try.ntmps23
    go_wp2
    go_region_held3 (fun w' => w'.cell? ⟨w.heap.size, 0, none⟩ = some (.bool na) ∧ w'.cell? ⟨w.heap.size, 1, none⟩ = some (.slice ao xs.length cap) ∧ w'.cell? ⟨w.heap.size + 1, 0, none⟩ = some (.bool nb) ∧ w'.cell? ⟨w.heap.size + 1, 1, none⟩ = some (.slice bo ys.length cap'))
      (simp [*, go_sem])
      (first
        | (go_at_call 46; refine (addLimbs_any ao bo xs.length ys.length cap cap' xs ys _ rfl rfl (by omega) (by omega) (hs.below hbw.drew) (ks.below hbw.drew) hd kd).mono ?_; rintro e w1 ⟨v1, rfl, hl, hb1⟩; have A1 := A0.drew.stay hb1; have B1 := B0.drew.stay hb1; have R1 := R0.drew.stay hb1; obtain ⟨ca0, ca1, _, _⟩ := A1.two; obtain ⟨cb0, cb1, _, _⟩ := B1.two)
        | (go_at_call 45; refine (fitting_lim _ v1 _ 9001 _ hl (by decide)).mono ?_; rintro e w2 ⟨v2, c, rfl, hheld, hb2⟩; obtain ⟨xx, aa, nn, cc, rfl⟩ := hheld.shape; obtain ⟨da0, da1, _, _⟩ := (A1.stay hb2).two; obtain ⟨db0, db1, _, _⟩ := (B1.stay hb2).two; have R2 := R1.stay hb2; obtain ⟨r0, r1, q0, q1⟩ := R2.two))
    go_wp2
    refine bodyPost_ret (v := .tuple #[.agg #[.bool xx, .slice aa nn cc], .int .i64 c]) (by simp [results, Try.results23, go_sem, r0, r1]) rfl ?_
    refine ⟨_, _, rfl, ?_, below_store2 (((hbw.drew).step hb1 (Nat.le_refl _)).step hb2 (Nat.le_refl _)) (by omega) _ _⟩
    rw [HXY.out]
    exact hheld.store2 R2 _ _ _ _
  · have hst' : (na == nb) = false := by simpa using hst
    clear hst
    by_cases hlt : val 4294967296 xs < val 4294967296 ys
    · have hc : cmpL 4294967296 xs ys < 0 := (cmpL_neg (by decide) hd kd hn kn).2 hlt
      have HXY : Hid (x + y = sv nb (val 4294967296 ys - val 4294967296 xs)) := by show _ = _; rw [HE.out.1, sv_diff' _ _ _ _ hst' (Nat.le_of_lt hlt)]
      have HLM : Hid (val 4294967296 ys - val 4294967296 xs < lim) := Nat.lt_of_le_of_lt (Nat.sub_le _ _) HE.out.2.2
      have HLT : Hid (val 4294967296 xs < val 4294967296 ys) := hlt
      clear hlt
      go_enter Try.func23, Try.ntmps23
      go_wp2_with (go_at_call 47; refine (cmpLimbs_any ao bo xs.length ys.length cap cap' xs ys _ rfl rfl (by omega) (by omega) (hs.below hbw) (ks.below hbw) hd kd).mono ?_; rintro e w5 ⟨rfl, hb5⟩; have A5 := A0.stay hb5; have B5 := B0.stay hb5; have R5 := R0.stay hb5; have hbw5 := hbw.step hb5 (Nat.le_refl _); obtain ⟨_, _, _, _⟩ := A5.two; obtain ⟨_, _, _, _⟩ := B5.two)
      have HLX : Hid (LimR w5.drew (.slice ao xs.length cap) (val 4294967296 xs) 10000) := ⟨ao, cap, xs, rfl, h1, h2, hs.below hbw5.drew, hd, hn, rfl⟩
      have HLY : Hid (LimR w5.drew (.slice bo ys.length cap') (val 4294967296 ys) 10000) := ⟨bo, cap', ys, rfl, k1, k2, ks.below hbw5.drew, kd, kn, rfl⟩
      go_region_held3 (fun w' => w'.cell? ⟨w.heap.size, 0, none⟩ = some (.bool na) ∧ w'.cell? ⟨w.heap.size, 1, none⟩ = some (.slice ao xs.length cap) ∧ w'.cell? ⟨w.heap.size + 1, 0, none⟩ = some (.bool nb) ∧ w'.cell? ⟨w.heap.size + 1, 1, none⟩ = some (.slice bo ys.length cap'))
        (simp [*, go_sem])
        (first
          | (go_at_call 48; refine (subLimbs_lim _ _ _ _ 10000 10000 _ HLY.out HLX.out HE.out.2.2 (Nat.le_of_lt HLT.out)).mono ?_; rintro e w1 ⟨v1, rfl, hl, hb1⟩; have A1 := A5.drew.stay hb1; have B1 := B5.drew.stay hb1; have R1 := R5.drew.stay hb1; obtain ⟨ca0, ca1, _, _⟩ := A1.two; obtain ⟨cb0, cb1, _, _⟩ := B1.two)
          | (go_at_call 43; refine (signed_lim nb v1 _ 9001 _ hl (by decide) HLM.out).mono ?_; rintro e w2 ⟨v2, rfl, ha2, hb2⟩; obtain ⟨xx, aa, nn, cc, rfl⟩ := ha2.shape; obtain ⟨da0, da1, _, _⟩ := (A1.stay hb2).two; obtain ⟨db0, db1, _, _⟩ := (B1.stay hb2).two; have R2 := R1.stay hb2; obtain ⟨r0, r1, q0, q1⟩ := R2.two))
      go_wp2
      refine bodyPost_ret (v := .tuple #[.agg #[.bool xx, .slice aa nn cc], .int .i64 0]) (by simp [results, Try.results23, go_sem, r0, r1]) rfl ?_
      refine ⟨_, _, rfl, Or.inl ⟨rfl, by rw [HXY.out, sv_natAbs]; exact HLM.out, ?_⟩, below_store2 (((hbw5.drew).step hb1 (Nat.le_refl _)).step hb2 (Nat.le_refl _)) (by omega) _ _⟩
      rw [HXY.out]
      exact ha2.store2 R2 _ _ _ _
    · have hc : ¬ cmpL 4294967296 xs ys < 0 := fun h => hlt ((cmpL_neg (by decide) hd kd hn kn).1 h)
      have HXY : Hid (x + y = sv na (val 4294967296 xs - val 4294967296 ys)) := by show _ = _; rw [HE.out.1, sv_diff _ _ _ _ hst' (by omega)]
      have HLM : Hid (val 4294967296 xs - val 4294967296 ys < lim) := Nat.lt_of_le_of_lt (Nat.sub_le _ _) HE.out.2.1
      have HLT : Hid (val 4294967296 ys ≤ val 4294967296 xs) := Nat.le_of_not_lt hlt
      clear hlt
      go_enter Try.func23, Try.ntmps23
      go_wp2_with (go_at_call 47; refine (cmpLimbs_any ao bo xs.length ys.length cap cap' xs ys _ rfl rfl (by omega) (by omega) (hs.below hbw) (ks.below hbw) hd kd).mono ?_; rintro e w5 ⟨rfl, hb5⟩; have A5 := A0.stay hb5; have B5 := B0.stay hb5; have R5 := R0.stay hb5; have hbw5 := hbw.step hb5 (Nat.le_refl _); obtain ⟨_, _, _, _⟩ := A5.two; obtain ⟨_, _, _, _⟩ := B5.two)
      have HLX : Hid (LimR w5.drew (.slice ao xs.length cap) (val 4294967296 xs) 10000) := ⟨ao, cap, xs, rfl, h1, h2, hs.below hbw5.drew, hd, hn, rfl⟩
      have HLY : Hid (LimR w5.drew (.slice bo ys.length cap') (val 4294967296 ys) 10000) := ⟨bo, cap', ys, rfl, k1, k2, ks.below hbw5.drew, kd, kn, rfl⟩
      go_region_held3 (fun w' => w'.cell? ⟨w.heap.size, 0, none⟩ = some (.bool na) ∧ w'.cell? ⟨w.heap.size, 1, none⟩ = some (.slice ao xs.length cap) ∧ w'.cell? ⟨w.heap.size + 1, 0, none⟩ = some (.bool nb) ∧ w'.cell? ⟨w.heap.size + 1, 1, none⟩ = some (.slice bo ys.length cap'))
        (simp [*, go_sem])
        (first
          | (go_at_call 48; refine (subLimbs_lim _ _ _ _ 10000 10000 _ HLX.out HLY.out HE.out.2.1 HLT.out).mono ?_; rintro e w1 ⟨v1, rfl, hl, hb1⟩; have A1 := A5.drew.stay hb1; have B1 := B5.drew.stay hb1; have R1 := R5.drew.stay hb1; obtain ⟨ca0, ca1, _, _⟩ := A1.two; obtain ⟨cb0, cb1, _, _⟩ := B1.two)
          | (go_at_call 43; refine (signed_lim na v1 _ 9001 _ hl (by decide) HLM.out).mono ?_; rintro e w2 ⟨v2, rfl, ha2, hb2⟩; obtain ⟨xx, aa, nn, cc, rfl⟩ := ha2.shape; obtain ⟨da0, da1, _, _⟩ := (A1.stay hb2).two; obtain ⟨db0, db1, _, _⟩ := (B1.stay hb2).two; have R2 := R1.stay hb2; obtain ⟨r0, r1, q0, q1⟩ := R2.two))
      go_wp2
      refine bodyPost_ret (v := .tuple #[.agg #[.bool xx, .slice aa nn cc], .int .i64 0]) (by simp [results, Try.results23, go_sem, r0, r1]) rfl ?_
      refine ⟨_, _, rfl, Or.inl ⟨rfl, by rw [HXY.out, sv_natAbs]; exact HLM.out, ?_⟩, below_store2 (((hbw5.drew).step hb1 (Nat.le_refl _)).step hb2 (Nat.le_refl _)) (by omega) _ _⟩
      rw [HXY.out]
      exact ha2.store2 R2 _ _ _ _

end Go.Proofs.Ytidpbdhhbeaijab
/- Numbers held by variables (boxed), and arith's calls with what they hold by one rule; they prove no statement of the seat. -/
namespace Go.Proofs.Ytidpbdhhbeaijab
open Go.RowKit

/-- What a call holds of a number: the number, or 0 where it is too large. -/
def hz (z : Int) : Int := if z.natAbs < lim then z else 0
/-- The code that a call tells with it. -/
def ec (z : Int) : Int := if z.natAbs < lim then 0 else 11

theorem ec_range (z : Int) : 0 ≤ ec z ∧ ec z ≤ 11 := by unfold ec; split <;> omega
theorem ec_zero {z : Int} (h : ec z = 0) : z.natAbs < lim := by
  unfold ec at h
  split at h
  · assumption
  · cases h
theorem hz_of {z : Int} (h : z.natAbs < lim) : hz z = z := if_pos h
theorem ec_of {z : Int} (h : z.natAbs < lim) : ec z = 0 := if_pos h
theorem hz_ec {z : Int} (h : ec z = 0) : hz z = z := hz_of (ec_zero h)
theorem ec_not {z : Int} (h : ¬ z.natAbs < lim) : ec z = 11 := if_neg h

theorem Held.code {w : World} {v : Value} {c z : Int} (h : Held w v c z) : c = ec z ∧ AInt w v (hz z) := by
  rcases h with ⟨h1, h2, h3⟩ | ⟨h1, h2, h3⟩
  · rw [ec_of h2, hz_of h2]; exact ⟨h1, h3⟩
  · have h4 : ¬ z.natAbs < lim := Nat.not_lt.2 h2
    refine ⟨by rw [ec_not h4]; exact h1, ?_⟩
    have e : hz z = 0 := if_neg h4
    rw [e]; exact h3

theorem AInt.lt {w : World} {v : Value} {z : Int} (h : AInt w v z) : z.natAbs < lim := by
  obtain ⟨neg, xs, _, h2, h3⟩ := h
  rw [h2, sv_natAbs]; exact h3

/-- A variable that holds a number. -/
def VI (w : World) (b : Nat) (x : Bool) (a : Option Addr) (n c : Nat) (z : Int) : Prop :=
  Blk 25 w b #[.bool x, .slice a n c] ∧ AInt w (.agg #[.bool x, .slice a n c]) z

theorem VI.stay {w w' : World} {b : Nat} {x : Bool} {a : Option Addr} {n c : Nat} {z : Int} (h : VI w b x a n c z) (hb : Below w.heap.size w w') : VI w' b x a n c z := ⟨h.1.stay hb, h.2.below hb⟩
theorem VI.int {w : World} {b : Nat} {x : Bool} {a : Option Addr} {n c : Nat} {z : Int} (h : VI w b x a n c z) : AInt w (.agg #[.bool x, .slice a n c]) z := h.2
theorem VI.cells {w : World} {b : Nat} {x : Bool} {a : Option Addr} {n c : Nat} {z : Int} (h : VI w b x a n c z) : w.cell? ⟨b, 0, none⟩ = some (.bool x) ∧ w.cell? ⟨b, 1, none⟩ = some (.slice a n c) := ⟨h.1.two.1, h.1.two.2.1⟩
theorem VI.lt {w : World} {b : Nat} {x : Bool} {a : Option Addr} {n c : Nat} {z : Int} (h : VI w b x a n c z) : b < w.heap.size := h.1.lt
theorem below_new (w : World) (o : Obj) : Below w.heap.size w (w.alloc o) := (Below.refl _ _).alloc (Nat.le_refl _) _
theorem VI.new {w : World} {x : Bool} {a : Option Addr} {n c : Nat} {z : Int} (h : AInt w (.agg #[.bool x, .slice a n c]) z) : VI (w.alloc (.cells #[.bool x, .slice a n c] 25 (0, 0))) w.heap.size x a n c z :=
  ⟨Blk.new _ _ _, h.below (below_new _ _)⟩
theorem VI.over {w : World} {b : Nat} {x : Bool} {a : Option Addr} {n c : Nat} {z : Int} (h : VI w b x a n c z) {x' : Bool} {a' : Option Addr} {n' c' : Nat} {z' : Int} (h' : AInt w (.agg #[.bool x', .slice a' n' c']) z') :
    VI ((w.setCell ⟨b, 0, none⟩ (.bool x')).setCell ⟨b, 1, none⟩ (.slice a' n' c')) b x' a' n' c' z' :=
  ⟨by have k := (h.1.set 0 (.bool x')).set 1 (.slice a' n' c'); simpa using k, h'.store2 h.1 _ _ _ _⟩
theorem VI.other {w : World} {b d : Nat} {x y : Bool} {a e : Option Addr} {n c m f : Nat} {z u : Int} (h : VI w b x a n c z) (k : VI w d y e m f u) (hne : d ≠ b) (x' : Bool) (a' : Option Addr) (n' c' : Nat) :
    VI ((w.setCell ⟨d, 0, none⟩ (.bool x')).setCell ⟨d, 1, none⟩ (.slice a' n' c')) b x a n c z :=
  ⟨(h.1.other hne _).other hne _, h.2.store2 k.1 _ _ _ _⟩

theorem add_h (va vb : Value) (x y : Int) (w : World) (ha : AInt w va x) (hb : AInt w vb y) :
    Calls Try.prog 23 #[va, vb] w fun e w' => ∃ s a n c, e = .returned (.tuple #[.agg #[.bool s, .slice a n c], .int .i64 (ec (x + y))]) ∧ AInt w' (.agg #[.bool s, .slice a n c]) (hz (x + y)) ∧ Below w.heap.size w w' := by
  refine (add_any va vb x y w ha hb).mono ?_
  rintro e w' ⟨v, c, rfl, hh, hb⟩
  obtain ⟨rfl, h⟩ := hh.code
  obtain ⟨s, a, n, c, rfl⟩ := h.shape
  exact ⟨s, a, n, c, rfl, h, hb⟩
theorem mul_h (va vb : Value) (x y : Int) (w : World) (ha : AInt w va x) (hb : AInt w vb y) :
    Calls Try.prog 35 #[va, vb] w fun e w' => ∃ s a n c, e = .returned (.tuple #[.agg #[.bool s, .slice a n c], .int .i64 (ec (x * y))]) ∧ AInt w' (.agg #[.bool s, .slice a n c]) (hz (x * y)) ∧ Below w.heap.size w w' := by
  refine (mul_any va vb x y w ha hb).mono ?_
  rintro e w' ⟨v, c, rfl, hh, hb⟩
  obtain ⟨rfl, h⟩ := hh.code
  obtain ⟨s, a, n, c, rfl⟩ := h.shape
  exact ⟨s, a, n, c, rfl, h, hb⟩
theorem cmp_h (va vb : Value) (x y r : Int) (w : World) (ha : AInt w va x) (hb : AInt w vb y) (hr : (x - y).sign = r) :
    Calls Try.prog 26 #[va, vb] w fun e w' => e = .returned (.int .i64 r) ∧ Below w.heap.size w w' := by
  subst hr
  exact cmp_any va vb x y w ha hb
theorem sign_h (va : Value) (x : Int) (w : World) (ha : AInt w va x) :
    Calls Try.prog 40 #[va] w fun e w' => e = .returned (.int .i64 x.sign) ∧ Below w.heap.size w w' := by
  obtain ⟨neg, xs, h1, h2, h3⟩ := ha
  rw [h2]
  exact sign_any va neg xs w h1
end Go.Proofs.Ytidpbdhhbeaijab
/- Words for slices of structs of a sign and a slice: what they hold, and the law of one append; no statement of the seat is proved here. -/
namespace Go.Proofs.Ytidpbdhhbeaijab
open Go.RowKit

/-- All cells that hold machine numbers hold them still. -/
def KeepI (w w' : World) : Prop := ∀ p k x, w.cell? p = some (.int k x) → w'.cell? p = some (.int k x)
theorem KeepI.trans {a b c : World} (h : KeepI a b) (k : KeepI b c) : KeepI a c := fun p q x hp => k p q x (h p q x hp)
theorem KeepI.below {w w' : World} (h : Below w.heap.size w w') : KeepI w w' := fun p _ _ hp => (h.cell (p := p) (World.block_lt_of_cell? w p hp)).trans hp
theorem Seg.keepI {k : IntKind} {w w' : World} {ao : Option Addr} {xs : List Nat} (h : Seg k w ao xs) (hk : KeepI w w') : Seg k w' ao xs := by
  rcases h with h | ⟨b, off, rfl, hc⟩
  · exact Or.inl h
  · exact Or.inr ⟨b, off, rfl, fun i hi => hk _ _ _ (hc i hi)⟩
theorem AInt.keepI {w w' : World} {v : Value} {z : Int} (h : AInt w v z) (hk : KeepI w w') : AInt w' v z := by
  obtain ⟨neg, xs, ⟨ao, cap, h1, h2, h3, h4, h5⟩, h6⟩ := h
  exact ⟨neg, xs, ⟨ao, cap, h1, h2, h3, h4.keepI hk, h5⟩, h6⟩
theorem RNum.keepI {w w' : World} {v : Value} {z : Int} {L : Nat} (h : RNum w v z L) (hk : KeepI w w') : RNum w' v z L := by
  obtain ⟨neg, xs, ⟨ao, cap, h1, h2, h3, h4, h5⟩, h6⟩ := h
  exact ⟨neg, xs, ⟨ao, cap, h1, h2, h3, h4, h5.1.keepI hk, h5.2⟩, h6⟩

/-- No machine number. -/
def NoI (u : Value) : Prop := ∀ k x, u ≠ .int k x
/-- A slice of n structs of two cells each, the call's own; no cell of its block is a machine number. -/
def Lst (e : TypeId) (base : Nat) (w : World) (v : Value) (n : Nat) (xs : List Value) : Prop :=
  xs.length = n * 2 ∧ ((v = .slice none 0 0 ∧ n = 0) ∨
    ∃ g cap cur, v = .slice (some ⟨g, 0, none⟩) n cap ∧ base ≤ g ∧ w.heap[g]? = some (.cells cur e (0, 0)) ∧ n ≤ cap ∧ cap ≤ maxLen ∧ cur.size = cap * 2 ∧ cur.toList.take (n * 2) = xs ∧ ∀ u ∈ cur.toList, NoI u)

section
variable {e : TypeId} {base : Nat} {w w' : World} {v : Value} {n : Nat} {xs : List Value}
theorem Lst.nil (e : TypeId) (base : Nat) (w : World) : Lst e base w (.slice none 0 0) 0 [] := ⟨by simp, Or.inl ⟨rfl, rfl⟩⟩
theorem Lst.owns (h : Lst e base w v n xs) : w.ownsRow base e 2 v n xs := by
  refine ⟨h.1, ?_⟩
  rcases h.2 with h | ⟨g, cap, cur, h1, h2, h3, h4, h5, h6, h7, _⟩
  · exact Or.inl h
  · exact Or.inr ⟨g, cap, cur, h1, h2, h3, h4, h5, h6, h7⟩
theorem Lst.lt (h : Lst e base w v n xs) : ∀ b, v.ownBlock = some b → base ≤ b ∧ b < w.heap.size := World.ownsRow.lt h.owns
theorem Lst.stay (h : Lst e base w v n xs) (hb : ∀ b, v.ownBlock = some b → w'.heap[b]? = w.heap[b]?) : Lst e base w' v n xs := by
  refine ⟨h.1, ?_⟩
  rcases h.2 with hn | ⟨g, cap, cur, rfl, hbg, hg, r⟩
  · exact Or.inl hn
  · exact Or.inr ⟨g, cap, cur, rfl, hbg, (hb g rfl).trans hg, r⟩
theorem Lst.below (h : Lst e base w v n xs) (hb : Below w.heap.size w w') : Lst e base w' v n xs := h.stay fun b hv => hb.block b (h.lt b hv).2
/-- A row of other structs is another block. -/
theorem Lst.apart {e' : TypeId} {v' : Value} {n' : Nat} {xs' : List Value} (h : Lst e base w v n xs) (h' : Lst e' base w v' n' xs') (he : e ≠ e') : ∀ b, v.ownBlock = some b → some b ≠ v'.ownBlock := by
  intro b hb hb'
  rcases h.2 with ⟨rfl, _⟩ | ⟨g, cap, cur, rfl, _, hg, _⟩
  · cases hb
  · rcases h'.2 with ⟨rfl, _⟩ | ⟨g', cap', cur', rfl, _, hg', _⟩
    · cases hb'
    · cases hb
      have e1 : g = g' := by simpa [Value.ownBlock] using hb'
      subst e1
      rw [hg] at hg'
      injection hg' with hg'
      injection hg' with _ h2
      exact he h2
theorem Lst.cells (h : Lst e base w v n xs) : n = 0 ∨ ∃ g cap, v = .slice (some ⟨g, 0, none⟩) n cap ∧ n ≤ cap ∧ cap ≤ maxLen ∧ base ≤ g ∧ g < w.heap.size ∧ ∀ j u, xs[j]? = some u → w.cell? ⟨g, j, none⟩ = some u := by
  rcases h.2 with ⟨_, h⟩ | ⟨g, cap, cur, h1, h2, h3, h4, h5, h6, h7, _⟩
  · exact Or.inl h
  · refine Or.inr ⟨g, cap, h1, h4, h5, h2, (Array.getElem?_eq_some_iff.1 h3).1, fun j u hj => ?_⟩
    rw [cell_of_row w g j cur e (0, 0) h3, ← Array.getElem?_toList]
    have h8 : j < n * 2 := by
      have := (List.getElem?_eq_some_iff.1 hj).1
      rw [h.1] at this
      exact this
    rw [← h7, List.getElem?_take, if_pos h8] at hj
    exact hj
end

theorem mem_zeroCells {z : Array Value} {n : Nat} {u : Value} (h : u ∈ (Builtin.zeroCells z n).toList) : u ∈ z.toList := by
  simp [Builtin.zeroCells] at h
  obtain ⟨a, ha, rfl⟩ := h
  have hz : 0 < z.size := by
    rcases Nat.eq_zero_or_pos z.size with k | k
    · rw [k, Nat.mul_zero] at ha; omega
    · exact k
  have hm := Nat.mod_lt a hz
  rw [getElem!_pos z (a % z.size) hm]
  simp
theorem keepI_setRow {w : World} {g : Nat} {cur cur' : Array Value} {e : TypeId} (hg : w.heap[g]? = some (.cells cur e (0, 0))) (hN : ∀ u ∈ cur.toList, NoI u) : KeepI w (w.setRow g cur') := by
  intro p k x hp
  by_cases h : p.block = g
  · exfalso
    subst h
    obtain ⟨b, o, m⟩ := p
    have h1 : m = none ∧ cur[o]? = some (Value.int k x) := by simpa [World.cell?, hg] using hp
    exact hN _ (by rw [Array.mem_toList_iff]; exact Array.mem_of_getElem? h1.2) k x rfl
  · have h1 := setRow_other w g p.block cur' h
    rw [World.cell?_of_block (w := w) h1]
    exact hp

/-- The law of one append. -/
theorem run_append_two {P : Program} (w : World) (base : Nat) (t ty e : TypeId) (i : TypeInfo) (z : Value) (ht : P.underlying t = some (.slice e)) (hi : P.info? e = some i) (hz : i.zero = some z) (hsize : i.size = 2) (hby : i.bytes ≤ 1000) (hzs : z.cells.size = 2) (hzN : ∀ u ∈ z.cells.toList, NoI u)
    (v : Value) (n : Nat) (xs : List Value) (hown : Lst e base w v n xs) (a : Addr) (c : Nat) (u0 u1 : Value) (h0 : w.cell? (a.add 0) = some u0) (h1 : w.cell? (a.add 1) = some u1) (o0 : u0.oneCell' = true) (o1 : u1.oneCell' = true) (m0 : NoI u0) (m1 : NoI u1) (hn : n ≤ 1000) (hbase : base ≤ w.heap.size) :
    ∃ v' w', (Builtin.append_ #[t, t] ty #[v, .slice (some a) 1 c]).run P w = .ok v' w' ∧ Lst e base w' v' (n + 1) (xs ++ [u0, u1]) ∧ w.grownBy w' v.ownBlock ∧ KeepI w w' ∧ Lst e base w' v n xs := by
  have hnews : ∀ j u, [u0, u1][j]? = some u → w.cell? (a.add j) = some u := by
    intro j u hj
    match j, hj with
    | 0, hj => simp at hj; subst hj; exact h0
    | 1, hj => simp at hj; subst hj; exact h1
    | j + 2, hj => simp at hj
  have ho : ∀ u ∈ [u0, u1], u.oneCell' = true := by intro u hu; simp at hu; rcases hu with rfl | rfl <;> assumption
  have hm : ∀ u ∈ [u0, u1], NoI u := by intro u hu; simp at hu; rcases hu with rfl | rfl <;> assumption
  have hl : [u0, u1].length = 1 * i.size := by rw [hsize]; rfl
  have hlen : (xs ++ [u0, u1]).length = (n + 1) * 2 := by rw [List.length_append, hown.1]; simp; omega
  have hmx : 1001 ≤ maxLen := by unfold maxLen; decide
  have grown : ∀ (old : Nat), old < n + 1 → (∀ u ∈ xs, NoI u) → ∀ (row : Option Nat),
      Lst e base (w.drew.alloc (.cells (xs.toArray ++ [u0, u1].toArray ++ Builtin.zeroCells z.cells (grownCap w (n + 1) old e - (n + 1))) e)) (.slice (some ⟨w.heap.size, 0, none⟩) (n + 1) (grownCap w (n + 1) old e)) (n + 1) (xs ++ [u0, u1]) ∧
      w.grownBy (w.drew.alloc (.cells (xs.toArray ++ [u0, u1].toArray ++ Builtin.zeroCells z.cells (grownCap w (n + 1) old e - (n + 1))) e)) row ∧
      KeepI w (w.drew.alloc (.cells (xs.toArray ++ [u0, u1].toArray ++ Builtin.zeroCells z.cells (grownCap w (n + 1) old e - (n + 1))) e)) := by
    intro old ho' hxs row
    have hge := grownCap_ge w (n + 1) old e
    have hcm : grownCap w (n + 1) old e ≤ maxLen := grownCap_le_maxLen w (n + 1) old e (by omega)
    refine ⟨⟨hlen, Or.inr ⟨w.heap.size, _, _, rfl, hbase, heap_alloc_new w.drew _, hge, hcm, ?_, ?_, ?_⟩⟩, ⟨rfl, rfl, rfl, by simp, fun k hk _ => Below.heap_alloc w.drew _ k hk⟩, ?_⟩
    · simp only [Array.size_append, List.size_toArray, size_zeroCells, hzs, hown.1, List.length_cons, List.length_nil]
      omega
    · simp only [Array.toList_append, List.append_assoc]
      rw [← List.append_assoc, ← hlen]
      exact List.take_left
    · intro u hu
      simp only [Array.toList_append, List.mem_append] at hu
      rcases hu with (hu | hu) | hu
      · exact hxs u hu
      · exact hm u hu
      · exact hzN u (mem_zeroCells hu)
    · exact KeepI.below ⟨rfl, rfl, rfl, by simp, fun k hk => Below.heap_alloc w.drew _ k hk⟩
  rcases hown.2 with ⟨rfl, rfl⟩ | ⟨g, cap, cur, rfl, hbg, hg, hnc, hcm, hcs, htake, hN⟩
  · have hx : xs = [] := List.eq_nil_of_length_eq_zero (by simpa using hown.1)
    subst hx
    have hr := run_append_nil (P := P) w t ty e i z ht hi hz a 1 c [u0, u1] hl hnews (by decide) (by decide) (by omega)
    have hgr := grown 0 (by omega) (by simp) (Value.ownBlock (.slice none 0 0))
    simp only [Nat.zero_add, List.nil_append, Array.empty_append] at hgr ⊢
    exact ⟨_, _, hr, hgr.1, hgr.2.1, hgr.2.2, Lst.nil _ _ _⟩
  · by_cases hroom : n + 1 ≤ cap
    · have hfit : n * i.size + [u0, u1].length ≤ cur.size := by rw [hsize, hcs]; simp; omega
      have hr := run_append_room (P := P) w t ty e i ht hi g n cap cur hg a 1 c [u0, u1] hl hnews ho hroom hfit
      rw [hsize] at hr
      have q1 : (cur.toList.take (n * 2) ++ [u0, u1] ++ cur.toList.drop (n * 2 + [u0, u1].length)).toArray.size = cap * 2 := by
        simp only [List.size_toArray, List.length_append, List.length_take, List.length_drop, Array.length_toList, List.length_cons, List.length_nil]
        omega
      have q2 : (cur.toList.take (n * 2) ++ [u0, u1] ++ cur.toList.drop (n * 2 + [u0, u1].length)).toArray.toList.take ((n + 1) * 2) = xs ++ [u0, u1] := by
        rw [htake, ← hlen]
        exact List.take_left
      have q3 : (cur.toList.take (n * 2) ++ [u0, u1] ++ cur.toList.drop (n * 2 + [u0, u1].length)).toArray.toList.take (n * 2) = xs := by
        rw [htake, ← hown.1]
        simp only [List.append_assoc]
        exact List.take_left
      have q4 : ∀ u ∈ (cur.toList.take (n * 2) ++ [u0, u1] ++ cur.toList.drop (n * 2 + [u0, u1].length)).toArray.toList, NoI u := by
        intro u hu
        simp only [List.mem_append] at hu
        rcases hu with (hu | hu) | hu
        · exact hN u (List.mem_of_mem_take hu)
        · exact hm u hu
        · exact hN u (List.mem_of_mem_drop hu)
      exact ⟨_, _, hr, ⟨hlen, Or.inr ⟨g, cap, _, rfl, hbg, setRow_heap w g cur _ e _ hg, hroom, hcm, q1, q2, q4⟩⟩, ⟨rfl, rfl, rfl, by simp, fun k _ hk => setRow_other w g k _ (fun e => hk (by simp [Value.ownBlock, e]))⟩, keepI_setRow hg hN, ⟨hown.1, Or.inr ⟨g, cap, _, rfl, hbg, setRow_heap w g cur _ e _ hg, hnc, hcm, q1, q3, q4⟩⟩⟩
    · have holds : ∀ j u, xs[j]? = some u → w.cell? ((⟨g, 0, none⟩ : Addr).add j) = some u := hown.owns.cells (g := g) rfl
      have hr := run_append_grow (P := P) w t ty e i z ht hi hz ⟨g, 0, none⟩ n cap xs (by rw [hsize]; exact hown.1) holds a 1 c [u0, u1] hl hnews (by omega) (by omega) (growslice_fits (by omega) (by have := Nat.mul_le_mul (show n + 1 ≤ 1001 by omega) hby; omega))
      have hgr := grown cap (by omega) (fun u hu => hN u (List.mem_of_mem_take (by rw [htake]; exact hu))) (Value.ownBlock (.slice (some ⟨g, 0, none⟩) n cap))
      exact ⟨_, _, hr, hgr.1, hgr.2.1, hgr.2.2, hown.below ⟨rfl, rfl, rfl, by simp, fun k hk => Below.heap_alloc w.drew _ k hk⟩⟩
end Go.Proofs.Ytidpbdhhbeaijab
