/- Joined: Pars, Ints3, Ints4, Vars: words and contracts; no statement of the seat is proved here. -/
import Derived.Test.YtidpbdhhbeaijaaJoin8Sums
import Derived.Test.YtidpbdhhbeaijaaJoin6Sums
/- Both Parses at one text: the same code, the same number; it proves no statement of the seat. -/
namespace Go.Proofs.Ytidpbdhhbeaijaa
open Go.RowKit

/-- Both Parses at one text: the same code, the same number. -/
theorem parses_same {w w' : World} {v v' : Value} {c c' : Int} {l : List Nat} (h : ParseR w v c (pneg l) (pbody l)) (k : RParseR w' v' c' l) :
    c = c' ∧ ∃ z, AInt w v z ∧ RNum w' v' z 400 ∧ (c = 0 → Good l ∧ z = pval l) := by
  rcases h with ⟨h1, h2, h3⟩ | ⟨h1, h2⟩
  · rcases k with ⟨k1, k2, k3⟩ | ⟨k1, _⟩
    · exact ⟨by rw [h2, k2], 0, h3, k3, fun e => by rw [h2] at e; cases e⟩
    · exact absurd k1 h1
  · rcases k with ⟨k1, _⟩ | ⟨k1, k2⟩
    · exact absurd h1 k1
    · rcases h2 with ⟨a1, a2, a3⟩ | ⟨a1, a2, a3⟩
      · rcases k2 with ⟨b1, b2, b3⟩ | ⟨b1, b2, b3⟩
        · exact ⟨by rw [a1, b1], pval l, a3, b3, fun _ => ⟨k1, rfl⟩⟩
        · exact absurd b2 (Nat.not_le_of_lt a2)
      · rcases k2 with ⟨b1, b2, b3⟩ | ⟨b1, b2, b3⟩
        · exact absurd a2 (Nat.not_le_of_lt b2)
        · exact ⟨by rw [a1, b1], 0, a3, b3, fun e => by rw [a1] at e; cases e⟩
end Go.Proofs.Ytidpbdhhbeaijaa
/- Contracts of arith's Neg, Abs, Cmp; they prove no statement of the seat. -/
namespace Go.Proofs.Ytidpbdhhbeaijaa
open Go.RowKit

theorem sv_not (n : Bool) (m : Nat) : sv (!n) m = - sv n m := by cases n <;> simp [sv]

/-- arith's copied, of limbs without noughts at their end. -/
theorem copied_lim (v : Value) (N L : Nat) (w : World) (hv : LimR w v N L) (hN : N < lim) :
    Calls Try.prog 59 #[v] w fun e w' => ∃ v', e = .returned v' ∧ LimR w' v' N 9001 ∧ Below w.heap.size w w' := by
  obtain ⟨ao, cap, ls, rfl, h1, h2, hs, hd, hn, rfl⟩ := hv
  have hl := norm_len hn hN
  refine (copied_any ao ls.length cap ls w rfl (by omega) hs).mono ?_
  rintro e w' ⟨rfl, hr, hb, _⟩
  exact ⟨_, rfl, LimR.all hr hd hn 9001 (by omega), hb⟩

set_option maxHeartbeats 4000000 in
theorem neg_any (va : Value) (x : Int) (w : World) (ha : AInt w va x) :
    Calls Try.prog 55 #[va] w fun e w' => ∃ v, e = .returned v ∧ AInt w' v (-x) ∧ Below w.heap.size w w' := by
  obtain ⟨na, xs, hva, hxe, hxl⟩ := ha
  obtain ⟨ao, cap, rfl, h1, h2, hs, hd, hn, h3⟩ := hva
  have HX : Hid (-x = sv (!na) (val 4294967296 xs) ∧ val 4294967296 xs < lim) := ⟨by rw [sv_not, hxe], hxl⟩
  clear hxe hxl h3
  have A0 := (Blk.new w 25 #[.bool na, .slice ao xs.length cap]).alloc (.cells #[.bool false, .slice none 0 0] 25 (0, 0))
  have R0 := Blk.new (w.alloc (.cells #[.bool na, .slice ao xs.length cap] 25 (0, 0))) 25 #[.bool false, .slice none 0 0]
  simp only [World.size_alloc] at R0
  have hbw : Below w.heap.size w ((w.alloc (.cells #[.bool na, .slice ao xs.length cap] 25 (0, 0))).alloc (.cells #[.bool false, .slice none 0 0] 25 (0, 0))) := by go_grown
  have HL : Hid (LimR ((w.alloc (.cells #[.bool na, .slice ao xs.length cap] 25 (0, 0))).alloc (.cells #[.bool false, .slice none 0 0] 25 (0, 0))).drew (.slice ao xs.length cap) (val 4294967296 xs) 10000) := ⟨ao, cap, xs, rfl, h1, h2, hs.below hbw.drew, hd, hn, rfl⟩
  go_enter Try.func55, Try.ntmps55
  go_wp2
  go_region_held3 (fun w' => w'.cell? ⟨w.heap.size, 0, none⟩ = some (.bool na) ∧ w'.cell? ⟨w.heap.size, 1, none⟩ = some (.slice ao xs.length cap))
    (simp [*, go_sem])
    (first
      | (go_at_call 59; refine (copied_lim _ _ 10000 _ HL.out HX.out.2).mono ?_; rintro e w1 ⟨v1, rfl, hl, hb1⟩; have A1 := A0.drew.stay hb1; have R1 := R0.drew.stay hb1; obtain ⟨ca0, ca1, _, _⟩ := A1.two)
      | (go_at_call 58; refine (signed_lim _ v1 _ 9001 _ hl (by decide) HX.out.2).mono ?_; rintro e w2 ⟨v2, rfl, ha2, hb2⟩; obtain ⟨xx, aa, nn, cc, rfl⟩ := ha2.shape; obtain ⟨da0, da1, _, _⟩ := (A1.stay hb2).two; have R2 := R1.stay hb2; obtain ⟨r0, r1, q0, q1⟩ := R2.two))
  go_wp2
  refine bodyPost_ret (v := .agg #[.bool xx, .slice aa nn cc]) (by simp [results, Try.results55, go_sem, r0, r1]) rfl ?_
  refine ⟨_, rfl, ?_, below_store2 (((hbw.drew).step hb1 (Nat.le_refl _)).step hb2 (Nat.le_refl _)) (by omega) _ _⟩
  rw [HX.out.1]
  exact ha2.store2 R2 _ _ _ _

theorem sign_sub_pos (m n : Nat) : ((sv false m) - (sv false n)).sign = ((m : Int) - n).sign := rfl
theorem sign_sub_neg (m n : Nat) : ((sv true m) - (sv true n)).sign = ((n : Int) - m).sign := by
  have : sv true m - sv true n = (n : Int) - m := by simp [sv]; omega
  rw [this]
theorem sign_tf (m n : Nat) (hm : 0 < m) : ((sv true m) - (sv false n)).sign = -1 := Int.sign_eq_neg_one_of_neg (by simp [sv]; omega)
theorem sign_ft (m n : Nat) (hn : 0 < n) : ((sv false m) - (sv true n)).sign = 1 := Int.sign_eq_one_of_pos (by simp [sv]; omega)

set_option maxHeartbeats 4000000 in
theorem cmp_any (va vb : Value) (x y : Int) (w : World) (ha : AInt w va x) (hb : AInt w vb y) :
    Calls Try.prog 37 #[va, vb] w fun e w' => e = .returned (.int .i64 (x - y).sign) ∧ Below w.heap.size w w' := by
  obtain ⟨na, xs, hva, hxe, hxl⟩ := ha
  obtain ⟨nb, ys, hvb, hye, hyl⟩ := hb
  have hl1 := AInt.len hva hxl
  have hl2 := AInt.len hvb hyl
  obtain ⟨ao, cap, rfl, h1, h2, hs, hd, hn, h3⟩ := hva
  obtain ⟨bo, cap', rfl, k1, k2, ks, kd, kn, k3⟩ := hvb
  have hpos : ∀ zs : List Nat, ∀ ng : Bool, Norm zs → (zs.length = 0 → ng = false) → ng = true → 0 < val 4294967296 zs := by
    intro zs ng hz1 hz2 hz3
    refine (hz1.pos (B := 4294967296) (List.ne_nil_of_length_pos ?_)).resolve_right (by decide)
    rcases Nat.eq_zero_or_pos zs.length with h | h
    · rw [hz2 h] at hz3; cases hz3
    · exact h
  have HXY : Hid ((x - y) = sv na (val 4294967296 xs) - sv nb (val 4294967296 ys) ∧ (na = true → 0 < val 4294967296 xs) ∧ (nb = true → 0 < val 4294967296 ys)) := ⟨by rw [hxe, hye], hpos xs na hn h3, hpos ys nb kn k3⟩
  clear hxe hye hxl hyl h3 k3 hpos
  have hbw : Below w.heap.size w ((w.alloc (.cells #[.bool na, .slice ao xs.length cap] 25 (0, 0))).alloc (.cells #[.bool nb, .slice bo ys.length cap'] 25 (0, 0))) := by go_grown
  cases na with
  | true =>
    cases nb with
    | true =>
      have HR : Hid ((x - y).sign = cmpL 4294967296 ys xs) := by show _ = _; rw [HXY.out.1, sign_sub_neg, cmpL_norm (by decide) kd hd kn hn]
      go_enter Try.func37, Try.ntmps37
      go_wp2_with (go_at_call 72; refine (cmpLimbs_any bo ao ys.length xs.length cap' cap ys xs _ rfl rfl (by omega) (by omega) (ks.below hbw) (hs.below hbw) kd hd).mono ?_; rintro e w1 ⟨rfl, hb1⟩)
      go_ret
      exact ⟨by rw [HR.out]; rfl, hbw.step hb1 (Nat.le_refl _)⟩
    | false =>
      have HR : Hid ((x - y).sign = -1) := by show _ = _; rw [HXY.out.1, sign_tf _ _ (HXY.out.2.1 rfl)]
      go_enter Try.func37, Try.ntmps37
      go_wp2
      go_ret
      exact ⟨by rw [HR.out]; rfl, hbw⟩
  | false =>
    cases nb with
    | true =>
      have HR : Hid ((x - y).sign = 1) := by show _ = _; rw [HXY.out.1, sign_ft _ _ (HXY.out.2.2 rfl)]
      go_enter Try.func37, Try.ntmps37
      go_wp2
      go_ret
      exact ⟨by rw [HR.out]; rfl, hbw⟩
    | false =>
      have HR : Hid ((x - y).sign = cmpL 4294967296 xs ys) := by show _ = _; rw [HXY.out.1, sign_sub_pos, cmpL_norm (by decide) hd kd hn kn]
      go_enter Try.func37, Try.ntmps37
      go_wp2_with (go_at_call 72; refine (cmpLimbs_any ao bo xs.length ys.length cap cap' xs ys _ rfl rfl (by omega) (by omega) (hs.below hbw) (ks.below hbw) hd kd).mono ?_; rintro e w1 ⟨rfl, hb1⟩)
      go_ret
      exact ⟨by rw [HR.out]; rfl, hbw.step hb1 (Nat.le_refl _)⟩
end Go.Proofs.Ytidpbdhhbeaijaa
/- Contracts of arith's Add and Sub; they prove no statement of the seat. -/
namespace Go.Proofs.Ytidpbdhhbeaijaa
open Go.RowKit

theorem sv_add (n : Bool) (a b : Nat) : sv n a + sv n b = sv n (a + b) := by cases n <;> simp [sv] <;> omega
theorem sv_diff (n m : Bool) (a b : Nat) (h : (n == m) = false) (hle : b ≤ a) : sv n a + sv m b = sv n (a - b) := by
  cases n <;> cases m <;> simp [sv] at h ⊢ <;> omega
theorem sv_diff' (n m : Bool) (a b : Nat) (h : (n == m) = false) (hle : a ≤ b) : sv n a + sv m b = sv m (b - a) := by
  cases n <;> cases m <;> simp [sv] at h ⊢ <;> omega

set_option maxHeartbeats 8000000 in
theorem add_any (va vb : Value) (x y : Int) (w : World) (ha : AInt w va x) (hb : AInt w vb y) :
    Calls Try.prog 34 #[va, vb] w fun e w' => ∃ v c, e = .returned (.tuple #[v, .int .i64 c]) ∧ Held w' v c (x + y) ∧ Below w.heap.size w w' := by
  obtain ⟨na, xs, hva, hxe, hxl⟩ := ha
  obtain ⟨nb, ys, hvb, hye, hyl⟩ := hb
  have hl1 := AInt.len hva hxl
  have hl2 := AInt.len hvb hyl
  obtain ⟨ao, cap, rfl, h1, h2, hs, hd, hn, h3⟩ := hva
  obtain ⟨bo, cap', rfl, k1, k2, ks, kd, kn, k3⟩ := hvb
  have HE : Hid (x + y = sv na (val 4294967296 xs) + sv nb (val 4294967296 ys) ∧ val 4294967296 xs < lim ∧ val 4294967296 ys < lim) := ⟨by rw [hxe, hye], hxl, hyl⟩
  clear hxe hye hxl hyl h3 k3
  have A0 := ((Blk.new w 25 #[.bool na, .slice ao xs.length cap]).alloc (.cells #[.bool nb, .slice bo ys.length cap'] 25 (0, 0))).alloc (.cells #[.bool false, .slice none 0 0] 25 (0, 0))
  have B0 := (Blk.new (w.alloc (.cells #[.bool na, .slice ao xs.length cap] 25 (0, 0))) 25 #[.bool nb, .slice bo ys.length cap']).alloc (.cells #[.bool false, .slice none 0 0] 25 (0, 0))
  have R0 := Blk.new ((w.alloc (.cells #[.bool na, .slice ao xs.length cap] 25 (0, 0))).alloc (.cells #[.bool nb, .slice bo ys.length cap'] 25 (0, 0))) 25 #[.bool false, .slice none 0 0]
  simp only [World.size_alloc] at B0 R0
  have hbw : Below w.heap.size w (((w.alloc (.cells #[.bool na, .slice ao xs.length cap] 25 (0, 0))).alloc (.cells #[.bool nb, .slice bo ys.length cap'] 25 (0, 0))).alloc (.cells #[.bool false, .slice none 0 0] 25 (0, 0))) := by go_grown
  by_cases hst : (na == nb) = true
  · have HXY : Hid (x + y = sv na (val 4294967296 xs + val 4294967296 ys)) := by
      show _ = _
      have e : na = nb := by simpa using hst
      rw [HE.out.1, ← e, sv_add]
    go_enter Try.func34, Try.ntmps34
    go_wp2
    go_region_held3 (fun w' => w'.cell? ⟨w.heap.size, 0, none⟩ = some (.bool na) ∧ w'.cell? ⟨w.heap.size, 1, none⟩ = some (.slice ao xs.length cap) ∧ w'.cell? ⟨w.heap.size + 1, 0, none⟩ = some (.bool nb) ∧ w'.cell? ⟨w.heap.size + 1, 1, none⟩ = some (.slice bo ys.length cap'))
      (simp [*, go_sem])
      (first
        | (go_at_call 71; refine (addLimbs_any ao bo xs.length ys.length cap cap' xs ys _ rfl rfl (by omega) (by omega) (hs.below hbw.drew) (ks.below hbw.drew) hd kd).mono ?_; rintro e w1 ⟨v1, rfl, hl, hb1⟩; have A1 := A0.drew.stay hb1; have B1 := B0.drew.stay hb1; have R1 := R0.drew.stay hb1; obtain ⟨ca0, ca1, _, _⟩ := A1.two; obtain ⟨cb0, cb1, _, _⟩ := B1.two)
        | (go_at_call 50; refine (fitting_lim _ v1 _ 9001 _ hl (by decide)).mono ?_; rintro e w2 ⟨v2, c, rfl, hheld, hb2⟩; obtain ⟨xx, aa, nn, cc, rfl⟩ := hheld.shape; obtain ⟨da0, da1, _, _⟩ := (A1.stay hb2).two; obtain ⟨db0, db1, _, _⟩ := (B1.stay hb2).two; have R2 := R1.stay hb2; obtain ⟨r0, r1, q0, q1⟩ := R2.two))
    go_wp2
    refine bodyPost_ret (v := .tuple #[.agg #[.bool xx, .slice aa nn cc], .int .i64 c]) (by simp [results, Try.results34, go_sem, r0, r1]) rfl ?_
    refine ⟨_, _, rfl, ?_, below_store2 (((hbw.drew).step hb1 (Nat.le_refl _)).step hb2 (Nat.le_refl _)) (by omega) _ _⟩
    rw [HXY.out]
    exact hheld.store2 R2 _ _ _ _
  · have hst' : (na == nb) = false := by simpa using hst
    clear hst
    by_cases hlt : val 4294967296 xs < val 4294967296 ys
    · have hc : cmpL 4294967296 xs ys < 0 := (cmpL_neg (by decide) hd kd hn kn).2 hlt
      have HXY : Hid (x + y = sv nb (val 4294967296 ys - val 4294967296 xs)) := by show _ = _; rw [HE.out.1, sv_diff' _ _ _ _ hst' (Nat.le_of_lt hlt)]
      have HLM : Hid (val 4294967296 ys - val 4294967296 xs < lim) := Nat.lt_of_le_of_lt (Nat.sub_le _ _) HE.out.2.2
      have HLT : Hid (val 4294967296 xs < val 4294967296 ys) := hlt
      clear hlt
      go_enter Try.func34, Try.ntmps34
      go_wp2_with (go_at_call 72; refine (cmpLimbs_any ao bo xs.length ys.length cap cap' xs ys _ rfl rfl (by omega) (by omega) (hs.below hbw) (ks.below hbw) hd kd).mono ?_; rintro e w5 ⟨rfl, hb5⟩; have A5 := A0.stay hb5; have B5 := B0.stay hb5; have R5 := R0.stay hb5; have hbw5 := hbw.step hb5 (Nat.le_refl _); obtain ⟨_, _, _, _⟩ := A5.two; obtain ⟨_, _, _, _⟩ := B5.two)
      have HLX : Hid (LimR w5.drew (.slice ao xs.length cap) (val 4294967296 xs) 10000) := ⟨ao, cap, xs, rfl, h1, h2, hs.below hbw5.drew, hd, hn, rfl⟩
      have HLY : Hid (LimR w5.drew (.slice bo ys.length cap') (val 4294967296 ys) 10000) := ⟨bo, cap', ys, rfl, k1, k2, ks.below hbw5.drew, kd, kn, rfl⟩
      go_region_held3 (fun w' => w'.cell? ⟨w.heap.size, 0, none⟩ = some (.bool na) ∧ w'.cell? ⟨w.heap.size, 1, none⟩ = some (.slice ao xs.length cap) ∧ w'.cell? ⟨w.heap.size + 1, 0, none⟩ = some (.bool nb) ∧ w'.cell? ⟨w.heap.size + 1, 1, none⟩ = some (.slice bo ys.length cap'))
        (simp [*, go_sem])
        (first
          | (go_at_call 73; refine (subLimbs_lim _ _ _ _ 10000 10000 _ HLY.out HLX.out HE.out.2.2 (Nat.le_of_lt HLT.out)).mono ?_; rintro e w1 ⟨v1, rfl, hl, hb1⟩; have A1 := A5.drew.stay hb1; have B1 := B5.drew.stay hb1; have R1 := R5.drew.stay hb1; obtain ⟨ca0, ca1, _, _⟩ := A1.two; obtain ⟨cb0, cb1, _, _⟩ := B1.two)
          | (go_at_call 58; refine (signed_lim nb v1 _ 9001 _ hl (by decide) HLM.out).mono ?_; rintro e w2 ⟨v2, rfl, ha2, hb2⟩; obtain ⟨xx, aa, nn, cc, rfl⟩ := ha2.shape; obtain ⟨da0, da1, _, _⟩ := (A1.stay hb2).two; obtain ⟨db0, db1, _, _⟩ := (B1.stay hb2).two; have R2 := R1.stay hb2; obtain ⟨r0, r1, q0, q1⟩ := R2.two))
      go_wp2
      refine bodyPost_ret (v := .tuple #[.agg #[.bool xx, .slice aa nn cc], .int .i64 0]) (by simp [results, Try.results34, go_sem, r0, r1]) rfl ?_
      refine ⟨_, _, rfl, Or.inl ⟨rfl, by rw [HXY.out, sv_natAbs]; exact HLM.out, ?_⟩, below_store2 (((hbw5.drew).step hb1 (Nat.le_refl _)).step hb2 (Nat.le_refl _)) (by omega) _ _⟩
      rw [HXY.out]
      exact ha2.store2 R2 _ _ _ _
    · have hc : ¬ cmpL 4294967296 xs ys < 0 := fun h => hlt ((cmpL_neg (by decide) hd kd hn kn).1 h)
      have HXY : Hid (x + y = sv na (val 4294967296 xs - val 4294967296 ys)) := by show _ = _; rw [HE.out.1, sv_diff _ _ _ _ hst' (by omega)]
      have HLM : Hid (val 4294967296 xs - val 4294967296 ys < lim) := Nat.lt_of_le_of_lt (Nat.sub_le _ _) HE.out.2.1
      have HLT : Hid (val 4294967296 ys ≤ val 4294967296 xs) := Nat.le_of_not_lt hlt
      clear hlt
      go_enter Try.func34, Try.ntmps34
      go_wp2_with (go_at_call 72; refine (cmpLimbs_any ao bo xs.length ys.length cap cap' xs ys _ rfl rfl (by omega) (by omega) (hs.below hbw) (ks.below hbw) hd kd).mono ?_; rintro e w5 ⟨rfl, hb5⟩; have A5 := A0.stay hb5; have B5 := B0.stay hb5; have R5 := R0.stay hb5; have hbw5 := hbw.step hb5 (Nat.le_refl _); obtain ⟨_, _, _, _⟩ := A5.two; obtain ⟨_, _, _, _⟩ := B5.two)
      have HLX : Hid (LimR w5.drew (.slice ao xs.length cap) (val 4294967296 xs) 10000) := ⟨ao, cap, xs, rfl, h1, h2, hs.below hbw5.drew, hd, hn, rfl⟩
      have HLY : Hid (LimR w5.drew (.slice bo ys.length cap') (val 4294967296 ys) 10000) := ⟨bo, cap', ys, rfl, k1, k2, ks.below hbw5.drew, kd, kn, rfl⟩
      go_region_held3 (fun w' => w'.cell? ⟨w.heap.size, 0, none⟩ = some (.bool na) ∧ w'.cell? ⟨w.heap.size, 1, none⟩ = some (.slice ao xs.length cap) ∧ w'.cell? ⟨w.heap.size + 1, 0, none⟩ = some (.bool nb) ∧ w'.cell? ⟨w.heap.size + 1, 1, none⟩ = some (.slice bo ys.length cap'))
        (simp [*, go_sem])
        (first
          | (go_at_call 73; refine (subLimbs_lim _ _ _ _ 10000 10000 _ HLX.out HLY.out HE.out.2.1 HLT.out).mono ?_; rintro e w1 ⟨v1, rfl, hl, hb1⟩; have A1 := A5.drew.stay hb1; have B1 := B5.drew.stay hb1; have R1 := R5.drew.stay hb1; obtain ⟨ca0, ca1, _, _⟩ := A1.two; obtain ⟨cb0, cb1, _, _⟩ := B1.two)
          | (go_at_call 58; refine (signed_lim na v1 _ 9001 _ hl (by decide) HLM.out).mono ?_; rintro e w2 ⟨v2, rfl, ha2, hb2⟩; obtain ⟨xx, aa, nn, cc, rfl⟩ := ha2.shape; obtain ⟨da0, da1, _, _⟩ := (A1.stay hb2).two; obtain ⟨db0, db1, _, _⟩ := (B1.stay hb2).two; have R2 := R1.stay hb2; obtain ⟨r0, r1, q0, q1⟩ := R2.two))
      go_wp2
      refine bodyPost_ret (v := .tuple #[.agg #[.bool xx, .slice aa nn cc], .int .i64 0]) (by simp [results, Try.results34, go_sem, r0, r1]) rfl ?_
      refine ⟨_, _, rfl, Or.inl ⟨rfl, by rw [HXY.out, sv_natAbs]; exact HLM.out, ?_⟩, below_store2 (((hbw5.drew).step hb1 (Nat.le_refl _)).step hb2 (Nat.le_refl _)) (by omega) _ _⟩
      rw [HXY.out]
      exact ha2.store2 R2 _ _ _ _

end Go.Proofs.Ytidpbdhhbeaijaa
/- Numbers held by variables (boxed), and arith's calls with what they hold by one rule; they prove no statement of the seat. -/
namespace Go.Proofs.Ytidpbdhhbeaijaa
open Go.RowKit

/-- What a call holds of a number: the number, or 0 where it is too large. -/
def hz (z : Int) : Int := if z.natAbs < lim then z else 0
/-- The code that a call tells with it. -/
def ec (z : Int) : Int := if z.natAbs < lim then 0 else 11

theorem ec_range (z : Int) : 0 ≤ ec z ∧ ec z ≤ 11 := by unfold ec; split <;> omega
theorem ec_zero {z : Int} (h : ec z = 0) : z.natAbs < lim := by
  unfold ec at h
  split at h
  · assumption
  · cases h
theorem hz_of {z : Int} (h : z.natAbs < lim) : hz z = z := if_pos h
theorem ec_of {z : Int} (h : z.natAbs < lim) : ec z = 0 := if_pos h
theorem hz_ec {z : Int} (h : ec z = 0) : hz z = z := hz_of (ec_zero h)
theorem ec_not {z : Int} (h : ¬ z.natAbs < lim) : ec z = 11 := if_neg h

theorem Held.code {w : World} {v : Value} {c z : Int} (h : Held w v c z) : c = ec z ∧ AInt w v (hz z) := by
  rcases h with ⟨h1, h2, h3⟩ | ⟨h1, h2, h3⟩
  · rw [ec_of h2, hz_of h2]; exact ⟨h1, h3⟩
  · have h4 : ¬ z.natAbs < lim := Nat.not_lt.2 h2
    refine ⟨by rw [ec_not h4]; exact h1, ?_⟩
    have e : hz z = 0 := if_neg h4
    rw [e]; exact h3

theorem AInt.lt {w : World} {v : Value} {z : Int} (h : AInt w v z) : z.natAbs < lim := by
  obtain ⟨neg, xs, _, h2, h3⟩ := h
  rw [h2, sv_natAbs]; exact h3

/-- A variable that holds a number. -/
def VI (w : World) (b : Nat) (x : Bool) (a : Option Addr) (n c : Nat) (z : Int) : Prop :=
  Blk 25 w b #[.bool x, .slice a n c] ∧ AInt w (.agg #[.bool x, .slice a n c]) z

theorem VI.stay {w w' : World} {b : Nat} {x : Bool} {a : Option Addr} {n c : Nat} {z : Int} (h : VI w b x a n c z) (hb : Below w.heap.size w w') : VI w' b x a n c z := ⟨h.1.stay hb, h.2.below hb⟩
theorem VI.int {w : World} {b : Nat} {x : Bool} {a : Option Addr} {n c : Nat} {z : Int} (h : VI w b x a n c z) : AInt w (.agg #[.bool x, .slice a n c]) z := h.2
theorem VI.cells {w : World} {b : Nat} {x : Bool} {a : Option Addr} {n c : Nat} {z : Int} (h : VI w b x a n c z) : w.cell? ⟨b, 0, none⟩ = some (.bool x) ∧ w.cell? ⟨b, 1, none⟩ = some (.slice a n c) := ⟨h.1.two.1, h.1.two.2.1⟩
theorem VI.lt {w : World} {b : Nat} {x : Bool} {a : Option Addr} {n c : Nat} {z : Int} (h : VI w b x a n c z) : b < w.heap.size := h.1.lt
theorem below_new (w : World) (o : Obj) : Below w.heap.size w (w.alloc o) := (Below.refl _ _).alloc (Nat.le_refl _) _
theorem VI.new {w : World} {x : Bool} {a : Option Addr} {n c : Nat} {z : Int} (h : AInt w (.agg #[.bool x, .slice a n c]) z) : VI (w.alloc (.cells #[.bool x, .slice a n c] 25 (0, 0))) w.heap.size x a n c z :=
  ⟨Blk.new _ _ _, h.below (below_new _ _)⟩
theorem VI.over {w : World} {b : Nat} {x : Bool} {a : Option Addr} {n c : Nat} {z : Int} (h : VI w b x a n c z) {x' : Bool} {a' : Option Addr} {n' c' : Nat} {z' : Int} (h' : AInt w (.agg #[.bool x', .slice a' n' c']) z') :
    VI ((w.setCell ⟨b, 0, none⟩ (.bool x')).setCell ⟨b, 1, none⟩ (.slice a' n' c')) b x' a' n' c' z' :=
  ⟨by have k := (h.1.set 0 (.bool x')).set 1 (.slice a' n' c'); simpa using k, h'.store2 h.1 _ _ _ _⟩
theorem VI.other {w : World} {b d : Nat} {x y : Bool} {a e : Option Addr} {n c m f : Nat} {z u : Int} (h : VI w b x a n c z) (k : VI w d y e m f u) (hne : d ≠ b) (x' : Bool) (a' : Option Addr) (n' c' : Nat) :
    VI ((w.setCell ⟨d, 0, none⟩ (.bool x')).setCell ⟨d, 1, none⟩ (.slice a' n' c')) b x a n c z :=
  ⟨(h.1.other hne _).other hne _, h.2.store2 k.1 _ _ _ _⟩

theorem add_h (va vb : Value) (x y : Int) (w : World) (ha : AInt w va x) (hb : AInt w vb y) :
    Calls Try.prog 34 #[va, vb] w fun e w' => ∃ s a n c, e = .returned (.tuple #[.agg #[.bool s, .slice a n c], .int .i64 (ec (x + y))]) ∧ AInt w' (.agg #[.bool s, .slice a n c]) (hz (x + y)) ∧ Below w.heap.size w w' := by
  refine (add_any va vb x y w ha hb).mono ?_
  rintro e w' ⟨v, c, rfl, hh, hb⟩
  obtain ⟨rfl, h⟩ := hh.code
  obtain ⟨s, a, n, c, rfl⟩ := h.shape
  exact ⟨s, a, n, c, rfl, h, hb⟩
theorem mul_h (va vb : Value) (x y : Int) (w : World) (ha : AInt w va x) (hb : AInt w vb y) :
    Calls Try.prog 77 #[va, vb] w fun e w' => ∃ s a n c, e = .returned (.tuple #[.agg #[.bool s, .slice a n c], .int .i64 (ec (x * y))]) ∧ AInt w' (.agg #[.bool s, .slice a n c]) (hz (x * y)) ∧ Below w.heap.size w w' := by
  refine (mul_any va vb x y w ha hb).mono ?_
  rintro e w' ⟨v, c, rfl, hh, hb⟩
  obtain ⟨rfl, h⟩ := hh.code
  obtain ⟨s, a, n, c, rfl⟩ := h.shape
  exact ⟨s, a, n, c, rfl, h, hb⟩
theorem cmp_h (va vb : Value) (x y r : Int) (w : World) (ha : AInt w va x) (hb : AInt w vb y) (hr : (x - y).sign = r) :
    Calls Try.prog 37 #[va, vb] w fun e w' => e = .returned (.int .i64 r) ∧ Below w.heap.size w w' := by
  subst hr
  exact cmp_any va vb x y w ha hb
theorem sign_h (va : Value) (x : Int) (w : World) (ha : AInt w va x) :
    Calls Try.prog 18 #[va] w fun e w' => e = .returned (.int .i64 x.sign) ∧ Below w.heap.size w w' := by
  obtain ⟨neg, xs, h1, h2, h3⟩ := ha
  rw [h2]
  exact sign_any va neg xs w h1
end Go.Proofs.Ytidpbdhhbeaijaa
