/- Joined: Div2, Gcd1, CmpR, RPlus: words and contracts; no statement of the seat is proved here. -/
import Derived.Test.YtidpbdhhbeaijabJoin5Folds
import Derived.Test.YtidpbdhhbeaijabJoin1Folds
import Derived.Test.YtidpbdhhbeaijabJoin4Folds
import Derived.BigQuiet
/- Contract of arith.Div, out of that of divLimbs; it proves no statement of the seat. -/
namespace Go.Proofs.Ytidpbdhhbeaijab
open Go.RowKit

theorem fdiv_unique {x y q r : Int} (hy : 0 < y) (h : r + y * q = x) (h0 : 0 ≤ r) (h1 : r < y) : x.fdiv y = q ∧ x.fmod y = r := by
  have h2 := (Int.ediv_emod_unique hy (r := r) (q := q) (a := x)).2 ⟨h, h0, h1⟩
  rw [Int.fdiv_eq_ediv_of_nonneg _ (Int.le_of_lt hy), Int.fmod_eq_emod_of_nonneg _ (Int.le_of_lt hy)]
  exact h2

theorem fdiv_unique_neg {x y q r : Int} (hy : y < 0) (h : r + y * q = x) (h0 : r ≤ 0) (h1 : y < r) : x.fdiv y = q ∧ x.fmod y = r := by
  have h2 := fdiv_unique (x := -x) (y := -y) (q := q) (r := -r) (by omega) (by rw [Int.neg_mul]; omega) (by omega) (by omega)
  rw [Int.neg_fdiv_neg] at h2
  refine ⟨h2.1, ?_⟩
  have h3 := Int.fmod_add_mul_fdiv x y
  rw [h2.1] at h3
  omega

theorem div_same (s : Bool) (X Y : Nat) (hY : 0 < Y) : (sv s X).fdiv (sv s Y) = sv false (X / Y) ∧ (sv s X).fmod (sv s Y) = sv s (X % Y) := by
  have h1 := Nat.mod_lt X hY
  have h2 : ((X % Y : Nat) : Int) + (Y : Int) * ((X / Y : Nat) : Int) = (X : Int) := by rw [← Int.natCast_mul, ← Int.natCast_add, Nat.mod_add_div]
  generalize X / Y = q at *
  generalize X % Y = r at *
  cases s with
  | false => exact fdiv_unique (by simp [sv]; omega) (by simpa [sv] using h2) (by simp [sv]) (by simp [sv]; omega)
  | true => exact fdiv_unique_neg (by simp [sv]; omega) (by simp only [sv, if_true, if_false, Bool.false_eq_true]; rw [Int.neg_mul]; omega) (by simp [sv]) (by simp [sv]; omega)

theorem div_exact (s t : Bool) (X Y : Nat) (hst : (s == t) = false) (hY : 0 < Y) (hr : X % Y = 0) : (sv s X).fdiv (sv t Y) = sv true (X / Y) ∧ (sv s X).fmod (sv t Y) = sv t (X % Y) := by
  have h2 : ((X % Y : Nat) : Int) + (Y : Int) * ((X / Y : Nat) : Int) = (X : Int) := by rw [← Int.natCast_mul, ← Int.natCast_add, Nat.mod_add_div]
  rw [hr] at h2 ⊢
  generalize X / Y = q at *
  cases t with
  | false =>
    cases s with
    | false => cases hst
    | true => exact fdiv_unique (by simp [sv]; omega) (by simp only [sv, if_true, if_false, Bool.false_eq_true]; rw [Int.mul_neg]; omega) (by simp [sv]) (by simp [sv]; omega)
  | true =>
    cases s with
    | true => cases hst
    | false => exact fdiv_unique_neg (by simp [sv]; omega) (by simp only [sv, if_true, if_false, Bool.false_eq_true]; rw [Int.mul_neg, Int.neg_mul]; omega) (by simp [sv]) (by simp [sv]; omega)

theorem div_rest (s t : Bool) (X Y : Nat) (hst : (s == t) = false) (hY : 0 < Y) (hr : 0 < X % Y) : (sv s X).fdiv (sv t Y) = sv true (X / Y + 1) ∧ (sv s X).fmod (sv t Y) = sv t (Y - X % Y) := by
  have h1 := Nat.mod_lt X hY
  have h2 : ((X % Y : Nat) : Int) + (Y : Int) * ((X / Y : Nat) : Int) = (X : Int) := by rw [← Int.natCast_mul, ← Int.natCast_add, Nat.mod_add_div]
  generalize X / Y = q at *
  generalize X % Y = r at *
  have h3 : ((Y - r : Nat) : Int) = (Y : Int) - (r : Int) := by omega
  have h4 : (Y : Int) * ((q + 1 : Nat) : Int) = (Y : Int) * (q : Int) + (Y : Int) := by rw [Int.natCast_add, Int.mul_add]; simp
  cases t with
  | false =>
    cases s with
    | false => cases hst
    | true => exact fdiv_unique (by simp [sv]; omega) (by simp only [sv, if_true, if_false, Bool.false_eq_true]; rw [Int.mul_neg, h4, h3]; omega) (by simp only [sv, if_false, Bool.false_eq_true]; omega) (by simp only [sv, if_false, Bool.false_eq_true]; omega)
  | true =>
    cases s with
    | true => cases hst
    | false => exact fdiv_unique_neg (by simp [sv]; omega) (by simp only [sv, if_true, if_false, Bool.false_eq_true]; rw [Int.mul_neg, Int.neg_mul, h4, h3]; omega) (by simp only [sv, if_true]; omega) (by simp only [sv, if_true]; omega)

theorem _root_.Go.RowKit.Below.drew_left {w w' : World} (h : Below w.drew.heap.size w.drew w') : Below w.heap.size w w' := ⟨h.os, h.tape, h.output, h.size, h.block⟩

theorem norm_len {ls : List Nat} (hn : Norm ls) (h : val 4294967296 ls < lim) : ls.length ≤ 32 := by
  rcases Nat.lt_or_ge 32 ls.length with h' | h'
  · exfalso
    have h8 := hn.ge (B := 4294967296) (List.ne_nil_of_length_pos (by omega)) (by decide)
    have h9 : 4294967296 ^ 32 ≤ 4294967296 ^ (ls.length - 1) := Nat.pow_le_pow_right (by decide) (by omega)
    have h10 : lim = 4294967296 ^ 32 := rfl
    omega
  · exact h'

theorem addLimbs_lim (v1 v2 : Value) (N1 N2 L1 L2 : Nat) (w : World) (h1 : LimR w v1 N1 L1) (h2 : LimR w v2 N2 L2) (hl1 : N1 < lim) (hl2 : N2 < lim) :
    Calls Try.prog 46 #[v1, v2] w fun e w' => ∃ v, e = .returned v ∧ LimR w' v (N1 + N2) 9001 ∧ Below w.heap.size w w' := by
  obtain ⟨a1, c1, l1, rfl, _, _, s1, d1, n1, rfl⟩ := h1
  obtain ⟨a2, c2, l2, rfl, _, _, s2, d2, n2, rfl⟩ := h2
  have e1 := norm_len n1 hl1
  have e2 := norm_len n2 hl2
  exact addLimbs_any a1 a2 l1.length l2.length c1 c2 l1 l2 w rfl rfl (by omega) (by omega) s1 s2 d1 d2

theorem subLimbs_lim (v1 v2 : Value) (N1 N2 L1 L2 : Nat) (w : World) (h1 : LimR w v1 N1 L1) (h2 : LimR w v2 N2 L2) (hl1 : N1 < lim) (hle : N2 ≤ N1) :
    Calls Try.prog 48 #[v1, v2] w fun e w' => ∃ v, e = .returned v ∧ LimR w' v (N1 - N2) 9001 ∧ Below w.heap.size w w' := by
  obtain ⟨a1, c1, l1, rfl, _, _, s1, d1, n1, rfl⟩ := h1
  obtain ⟨a2, c2, l2, rfl, _, _, s2, d2, n2, rfl⟩ := h2
  have e1 := norm_len n1 hl1
  have e2 : l2.length ≤ l1.length := by
    rcases Nat.lt_or_ge l1.length l2.length with h | h
    · have := val_lt_of_length d1 n2 (by decide) h; omega
    · exact h
  exact subLimbs_any a1 a2 l1.length l2.length c1 c2 l1 l2 w rfl rfl (by omega) e2 s1 s2 d1 d2 hle

theorem quot_lim (X Y : Nat) (hX : X < lim) (hY : 0 < Y) (hr : 0 < X % Y) : X / Y + 1 < lim := by
  have h1 := Nat.mod_lt X hY
  have h2 := Nat.mod_add_div X Y
  have h3 : 2 ≤ Y := by omega
  have h4 : 2 * (X / Y) ≤ Y * (X / Y) := Nat.mul_le_mul_right _ h3
  omega

set_option maxHeartbeats 8000000 in
theorem div_of (va vb : Value) (na nb : Bool) (xs ys : List Nat) (w : World) (hva : IntV w va na xs) (hvb : IntV w vb nb ys) (hxl : val 4294967296 xs < lim) (hyl : val 4294967296 ys < lim) (hy0 : 0 < ys.length) (hdc : DivC xs ys) :
    Calls Try.prog 39 #[va, vb] w fun e w' => ∃ vq vr, e = .returned (.tuple #[vq, vr, .int .i64 0]) ∧ AInt w' vq ((sv na (val 4294967296 xs)).fdiv (sv nb (val 4294967296 ys))) ∧ AInt w' vr ((sv na (val 4294967296 xs)).fmod (sv nb (val 4294967296 ys))) ∧ Below w.heap.size w w' := by
  have hl1 := AInt.len hva hxl
  have hl2 := AInt.len hvb hyl
  have HVB := hvb
  obtain ⟨ao, cap, rfl, h1, h2, hs, hd, hn, h3⟩ := hva
  obtain ⟨bo, cap', rfl, k1, k2, ks, kd, kn, k3⟩ := hvb
  have hYp := (kn.pos (B := 4294967296) (List.ne_nil_of_length_pos hy0)).resolve_right (by decide)
  have hsg : ((sv nb (val 4294967296 ys)).sign == 0) = false := by
    rw [beq_eq_false_iff_ne]
    intro e
    have := Int.sign_eq_zero_iff_zero.1 e
    have h4 := sv_natAbs nb (val 4294967296 ys)
    rw [this] at h4
    simp at h4
    omega
  have HDC : Hid (DivC xs ys) := hdc
  have HLM : Hid (val 4294967296 xs < lim ∧ val 4294967296 ys < lim ∧ 0 < val 4294967296 ys) := ⟨hxl, hyl, hYp⟩
  clear hdc hxl hyl h3 k3 hYp
  have A0 := (((Blk.new w 25 #[.bool na, .slice ao xs.length cap]).alloc (.cells #[.bool nb, .slice bo ys.length cap'] 25 (0, 0))).alloc (.cells #[.bool false, .slice none 0 0] 25 (0, 0))).alloc (.cells #[.bool false, .slice none 0 0] 25 (0, 0))
  have B0 := ((Blk.new (w.alloc (.cells #[.bool na, .slice ao xs.length cap] 25 (0, 0))) 25 #[.bool nb, .slice bo ys.length cap']).alloc (.cells #[.bool false, .slice none 0 0] 25 (0, 0))).alloc (.cells #[.bool false, .slice none 0 0] 25 (0, 0))
  have Q0 := (Blk.new ((w.alloc (.cells #[.bool na, .slice ao xs.length cap] 25 (0, 0))).alloc (.cells #[.bool nb, .slice bo ys.length cap'] 25 (0, 0))) 25 #[.bool false, .slice none 0 0]).alloc (.cells #[.bool false, .slice none 0 0] 25 (0, 0))
  have R0 := Blk.new (((w.alloc (.cells #[.bool na, .slice ao xs.length cap] 25 (0, 0))).alloc (.cells #[.bool nb, .slice bo ys.length cap'] 25 (0, 0))).alloc (.cells #[.bool false, .slice none 0 0] 25 (0, 0))) 25 #[.bool false, .slice none 0 0]
  simp only [World.size_alloc] at B0 Q0 R0
  have hbw0 : Below w.heap.size w ((((w.alloc (.cells #[.bool na, .slice ao xs.length cap] 25 (0, 0))).alloc (.cells #[.bool nb, .slice bo ys.length cap'] 25 (0, 0))).alloc (.cells #[.bool false, .slice none 0 0] 25 (0, 0))).alloc (.cells #[.bool false, .slice none 0 0] 25 (0, 0))) := by go_grown
  have HVB4 := HVB.below hbw0
  go_enter Try.func39, Try.ntmps39
  go_wp2_with fail
  refine (sign_any _ nb ys _ HVB4).mono ?_
  rintro e w1 ⟨rfl, hb1⟩
  have A1 := A0.stay hb1
  have B1 := B0.stay hb1
  have Q1 := Q0.stay hb1
  have R1 := R0.stay hb1
  obtain ⟨ca0, ca1, _, _⟩ := A1.two
  obtain ⟨cb0, cb1, _, _⟩ := B1.two
  have hbw1 := hbw0.step hb1 (Nat.le_refl _)
  go_wp2_with fail
  refine (HDC.out ao bo cap cap' _ (hs.below hbw1) (ks.below hbw1)).mono ?_
  rintro e w2 ⟨u1, u2, rfl, hu1, hu2, hb2⟩
  have AA := A1.stay hb2
  have BB := B1.stay hb2
  have QQ := Q1.stay hb2
  have RR := R1.stay hb2
  clear ca0 ca1 cb0 cb1 A0 B0 Q0 R0 A1 B1 Q1 R1 hbw0 HVB4 HVB
  obtain ⟨ca0, ca1, _, _⟩ := AA.two
  obtain ⟨cb0, cb1, _, _⟩ := BB.two
  have hbw := hbw1.step hb2 (Nat.le_refl _)
  have hks := ks.below hbw
  clear hb1 hb2 hbw1
  by_cases hst : (na == nb) = true
  · have HQV : Hid ((sv na (val 4294967296 xs)).fdiv (sv nb (val 4294967296 ys)) = sv false (val 4294967296 xs / val 4294967296 ys)) := by
      show _ = _
      have e : na = nb := by simpa using hst
      rw [e]; exact (div_same nb _ _ HLM.out.2.2).1
    have HRV : Hid ((sv na (val 4294967296 xs)).fmod (sv nb (val 4294967296 ys)) = sv nb (val 4294967296 xs % val 4294967296 ys)) := by
      show _ = _
      have e : na = nb := by simpa using hst
      rw [e]; exact (div_same nb _ _ HLM.out.2.2).2
    have HU1 : Hid (LimR w2.drew u1 (val 4294967296 xs / val 4294967296 ys) 9001 ∧ val 4294967296 xs / val 4294967296 ys < lim) := ⟨hu1, Nat.lt_of_le_of_lt (Nat.div_le_self _ _) HLM.out.1⟩
    have HU2 : Hid (LimR w2 u2 (val 4294967296 xs % val 4294967296 ys) 9001 ∧ val 4294967296 xs % val 4294967296 ys < lim) := ⟨hu2, Nat.lt_trans (Nat.mod_lt _ HLM.out.2.2) HLM.out.2.1⟩
    go_wp2
    go_region_held3 (fun w' => w'.cell? ⟨w.heap.size + 1, 0, none⟩ = some (.bool nb))
      (simp [*, go_sem])
      (first
        | (go_at_call_of 43 u1; refine (signed_lim false u1 _ 9001 _ HU1.out.1 (by decide) HU1.out.2).mono ?_; rintro e w7 ⟨v7, rfl, ha7, hb7⟩; have BB7 := BB.drew.stay hb7; have QQ7 := QQ.drew.stay hb7; have RR7 := RR.drew.stay hb7; obtain ⟨cb0, _, _, _⟩ := BB7.two)
        | (go_at_call_of 43 u2; refine (signed_lim nb u2 _ 9001 _ (HU2.out.1.below (Below.drew_left hb7)) (by decide) HU2.out.2).mono ?_; rintro e w8 ⟨v8, rfl, ha8, hb8⟩; have BB8 := BB7.stay hb8; obtain ⟨cd0, _, _, _⟩ := BB8.two; have ha7' := ha7.below hb8; obtain ⟨x7, a7, n7, c7, rfl⟩ := ha7'.shape; obtain ⟨x8, a8, n8, c8, rfl⟩ := ha8.shape; have QQ8 := QQ7.stay hb8; have RR8 := RR7.stay hb8; obtain ⟨q0, q1, qf0, qf1⟩ := QQ8.two; obtain ⟨s0, s1, sf0, sf1⟩ := RR8.two))
    go_wp2
    have RR9 : Blk 25 ((w8.setCell ⟨w.heap.size + 1 + 1, 0, none⟩ (.bool x7)).setCell ⟨w.heap.size + 1 + 1, 1, none⟩ (.slice a7 n7 c7)) (w.heap.size + 1 + 1 + 1) #[.bool false, .slice none 0 0] := (RR8.other (by simp) _).other (by simp) _
    refine bodyPost_ret (v := .tuple #[.agg #[.bool x7, .slice a7 n7 c7], .agg #[.bool x8, .slice a8 n8 c8], .int .i64 0]) (by simp [results, Try.results39, go_sem, q0, q1, s0, s1]) rfl ?_
    have hbE : Below w.heap.size w w8 := ((hbw.drew).step hb7 (Nat.le_refl _)).step hb8 (Nat.le_refl _)
    refine ⟨_, _, rfl, ?_, ?_, below_store2 (below_store2 hbE (by omega) _ _) (by omega) _ _⟩
    · rw [HQV.out]
      exact (ha7'.store2 QQ8 _ _ _ _).store2 RR9 _ _ _ _
    · rw [HRV.out]
      exact (ha8.store2 QQ8 _ _ _ _).store2 RR9 _ _ _ _

  · have hst' : (na == nb) = false := by simpa using hst
    have hu2' := hu2
    obtain ⟨a2, cp2, ls2, hue, l1, l2, hsg2, ld2, ln2, hv2⟩ := hu2'
    have hst2 := hst'
    by_cases hr0 : ls2.length ≤ 0
    · have hRz : val 4294967296 xs % val 4294967296 ys = 0 := by rw [← hv2, List.eq_nil_of_length_eq_zero (show ls2.length = 0 by omega)]; rfl
      have HQV : Hid ((sv na (val 4294967296 xs)).fdiv (sv nb (val 4294967296 ys)) = sv true (val 4294967296 xs / val 4294967296 ys)) := (div_exact na nb _ _ hst' HLM.out.2.2 hRz).1
      have HRV : Hid ((sv na (val 4294967296 xs)).fmod (sv nb (val 4294967296 ys)) = sv nb (val 4294967296 xs % val 4294967296 ys)) := (div_exact na nb _ _ hst' HLM.out.2.2 hRz).2
      subst hue
      have HU1 : Hid (LimR w2.drew u1 (val 4294967296 xs / val 4294967296 ys) 9001 ∧ val 4294967296 xs / val 4294967296 ys < lim) := ⟨hu1, Nat.lt_of_le_of_lt (Nat.div_le_self _ _) HLM.out.1⟩
      have HU2 : Hid (LimR w2 (Value.slice a2 ls2.length cp2) (val 4294967296 xs % val 4294967296 ys) 9001 ∧ val 4294967296 xs % val 4294967296 ys < lim) := ⟨hu2, Nat.lt_trans (Nat.mod_lt _ HLM.out.2.2) HLM.out.2.1⟩
      clear hv2 hRz hst hsg2 hu1 hu2
      go_wp2
      go_region_held3 (fun w' => w'.cell? ⟨w.heap.size + 1, 0, none⟩ = some (.bool nb))
        (simp [*, go_sem])
        (first
          | (go_at_call_of 43 u1; refine (signed_lim true u1 _ 9001 _ HU1.out.1 (by decide) HU1.out.2).mono ?_; rintro e w7 ⟨v7, rfl, ha7, hb7⟩; have BB7 := BB.drew.stay hb7; have QQ7 := QQ.drew.stay hb7; have RR7 := RR.drew.stay hb7; obtain ⟨cb0, _, _, _⟩ := BB7.two)
          | (go_at_call_of 43 (Value.slice a2 ls2.length cp2); refine (signed_lim nb (Value.slice a2 ls2.length cp2) _ 9001 _ (HU2.out.1.below (Below.drew_left hb7)) (by decide) HU2.out.2).mono ?_; rintro e w8 ⟨v8, rfl, ha8, hb8⟩; have BB8 := BB7.stay hb8; obtain ⟨cd0, _, _, _⟩ := BB8.two; have ha7' := ha7.below hb8; obtain ⟨x7, a7, n7, c7, rfl⟩ := ha7'.shape; obtain ⟨x8, a8, n8, c8, rfl⟩ := ha8.shape; have QQ8 := QQ7.stay hb8; have RR8 := RR7.stay hb8; obtain ⟨q0, q1, qf0, qf1⟩ := QQ8.two; obtain ⟨s0, s1, sf0, sf1⟩ := RR8.two))
      go_wp2
      have RR9 : Blk 25 ((w8.setCell ⟨w.heap.size + 1 + 1, 0, none⟩ (.bool x7)).setCell ⟨w.heap.size + 1 + 1, 1, none⟩ (.slice a7 n7 c7)) (w.heap.size + 1 + 1 + 1) #[.bool false, .slice none 0 0] := (RR8.other (by simp) _).other (by simp) _
      refine bodyPost_ret (v := .tuple #[.agg #[.bool x7, .slice a7 n7 c7], .agg #[.bool x8, .slice a8 n8 c8], .int .i64 0]) (by simp [results, Try.results39, go_sem, q0, q1, s0, s1]) rfl ?_
      have hbE : Below w.heap.size w w8 := ((hbw.drew).step hb7 (Nat.le_refl _)).step hb8 (Nat.le_refl _)
      refine ⟨_, _, rfl, ?_, ?_, below_store2 (below_store2 hbE (by omega) _ _) (by omega) _ _⟩
      · rw [HQV.out]
        exact (ha7'.store2 QQ8 _ _ _ _).store2 RR9 _ _ _ _
      · rw [HRV.out]
        exact (ha8.store2 QQ8 _ _ _ _).store2 RR9 _ _ _ _

    · have hRp : 0 < val 4294967296 xs % val 4294967296 ys := by
        rw [← hv2]; exact (ln2.pos (B := 4294967296) (List.ne_nil_of_length_pos (by omega))).resolve_right (by decide)
      have HQV : Hid ((sv na (val 4294967296 xs)).fdiv (sv nb (val 4294967296 ys)) = sv true (val 4294967296 xs / val 4294967296 ys + 1)) := (div_rest na nb _ _ hst' HLM.out.2.2 hRp).1
      have HRV : Hid ((sv na (val 4294967296 xs)).fmod (sv nb (val 4294967296 ys)) = sv nb (val 4294967296 ys - val 4294967296 xs % val 4294967296 ys)) := (div_rest na nb _ _ hst' HLM.out.2.2 hRp).2
      have HQL : Hid (val 4294967296 xs / val 4294967296 ys + 1 < lim) := quot_lim _ _ HLM.out.1 HLM.out.2.2 hRp
      subst hue
      have HU1 : Hid (LimR w2 u1 (val 4294967296 xs / val 4294967296 ys) 9001) := hu1
      have HU2 : Hid (LimR w2 (Value.slice a2 ls2.length cp2) (val 4294967296 xs % val 4294967296 ys) 9001) := hu2
      have HYY : Hid (LimR w2 (Value.slice bo ys.length cap') (val 4294967296 ys) 10000) := ⟨bo, cap', ys, rfl, k1, k2, hks, kd, kn, rfl⟩
      clear hv2 hRp hst hsg2 hu1 hu2
      go_wp2_with fail
      refine (splitWord_int 1 _ rfl _ (by decide)).mono ?_
      rintro e w3 ⟨o1, rfl, ho1, hb3⟩
      go_wp2_with fail
      refine (addLimbs_lim u1 o1 _ 1 9001 2 _ (HU1.out.below hb3) ho1 (by have := HQL.out; omega) (by have := word_lim; omega)).mono ?_
      rintro e w4 ⟨z1, rfl, hz1, hb4⟩
      have hb34 := hb3.step hb4 (Nat.le_refl _)
      have BB4 := BB.stay hb34
      clear cb0 cb1
      obtain ⟨cb0, cb1, _, _⟩ := BB4.two
      go_wp2_with fail
      refine (subLimbs_lim _ _ _ _ 10000 9001 _ (HYY.out.below hb34) (HU2.out.below hb34) HLM.out.2.1 (Nat.le_of_lt (Nat.mod_lt _ HLM.out.2.2))).mono ?_
      rintro e w5 ⟨z2, rfl, hz2, hb5⟩
      have hb35 := hb34.step hb5 (Nat.le_refl _)
      have BB5 := BB.stay hb35
      have QQ5 := QQ.stay hb35
      have RR5 := RR.stay hb35
      have hbw5 := hbw.step hb35 (Nat.le_refl _)
      clear cb0 cb1
      obtain ⟨cb0, cb1, _, _⟩ := BB5.two
      have HU1 : Hid (LimR w5.drew z1 (val 4294967296 xs / val 4294967296 ys + 1) 9001 ∧ val 4294967296 xs / val 4294967296 ys + 1 < lim) := ⟨hz1.below hb5.drew, HQL.out⟩
      have HU2 : Hid (LimR w5 z2 (val 4294967296 ys - val 4294967296 xs % val 4294967296 ys) 9001 ∧ val 4294967296 ys - val 4294967296 xs % val 4294967296 ys < lim) := ⟨hz2, Nat.lt_of_le_of_lt (Nat.sub_le _ _) HLM.out.2.1⟩
      clear hz1 hz2 hb3 hb4 hb5 hb34 hb35 BB4
      go_wp2
      go_region_held3 (fun w' => w'.cell? ⟨w.heap.size + 1, 0, none⟩ = some (.bool nb))
        (simp [*, go_sem])
        (first
          | (go_at_call_of 43 z1; refine (signed_lim true z1 _ 9001 _ HU1.out.1 (by decide) HU1.out.2).mono ?_; rintro e w7 ⟨v7, rfl, ha7, hb7⟩; have BB7 := BB5.drew.stay hb7; have QQ7 := QQ5.drew.stay hb7; have RR7 := RR5.drew.stay hb7; obtain ⟨cb0, _, _, _⟩ := BB7.two)
          | (go_at_call_of 43 z2; refine (signed_lim nb z2 _ 9001 _ (HU2.out.1.below (Below.drew_left hb7)) (by decide) HU2.out.2).mono ?_; rintro e w8 ⟨v8, rfl, ha8, hb8⟩; have BB8 := BB7.stay hb8; obtain ⟨cd0, _, _, _⟩ := BB8.two; have ha7' := ha7.below hb8; obtain ⟨x7, a7, n7, c7, rfl⟩ := ha7'.shape; obtain ⟨x8, a8, n8, c8, rfl⟩ := ha8.shape; have QQ8 := QQ7.stay hb8; have RR8 := RR7.stay hb8; obtain ⟨q0, q1, qf0, qf1⟩ := QQ8.two; obtain ⟨s0, s1, sf0, sf1⟩ := RR8.two))
      go_wp2
      have RR9 : Blk 25 ((w8.setCell ⟨w.heap.size + 1 + 1, 0, none⟩ (.bool x7)).setCell ⟨w.heap.size + 1 + 1, 1, none⟩ (.slice a7 n7 c7)) (w.heap.size + 1 + 1 + 1) #[.bool false, .slice none 0 0] := (RR8.other (by simp) _).other (by simp) _
      refine bodyPost_ret (v := .tuple #[.agg #[.bool x7, .slice a7 n7 c7], .agg #[.bool x8, .slice a8 n8 c8], .int .i64 0]) (by simp [results, Try.results39, go_sem, q0, q1, s0, s1]) rfl ?_
      have hbE : Below w.heap.size w w8 := ((hbw5.drew).step hb7 (Nat.le_refl _)).step hb8 (Nat.le_refl _)
      refine ⟨_, _, rfl, ?_, ?_, below_store2 (below_store2 hbE (by omega) _ _) (by omega) _ _⟩
      · rw [HQV.out]
        exact (ha7'.store2 QQ8 _ _ _ _).store2 RR9 _ _ _ _
      · rw [HRV.out]
        exact (ha8.store2 QQ8 _ _ _ _).store2 RR9 _ _ _ _

end Go.Proofs.Ytidpbdhhbeaijab
/- Contract of arith.Gcd at numbers of at most two limbs; it proves no statement of the seat. -/
namespace Go.Proofs.Ytidpbdhhbeaijab
open Go.RowKit

theorem two_limbs {xs : List Nat} (hd : Digs 4294967296 xs) (hl : xs.length ≤ 2) : val 4294967296 xs < 18446744073709551616 := by
  have h1 := val_lt hd
  have h2 : 4294967296 ^ xs.length ≤ 4294967296 ^ 2 := Nat.pow_le_pow_right (by decide) hl
  omega

set_option maxHeartbeats 4000000 in
theorem gcd_small (va vb : Value) (na nb : Bool) (xs ys : List Nat) (w : World) (hva : IntV w va na xs) (hvb : IntV w vb nb ys) (hl1 : xs.length ≤ 2) (hl2 : ys.length ≤ 2) :
    Calls Try.prog 32 #[va, vb] w fun e w' => ∃ v, e = .returned v ∧ AInt w' v (Nat.gcd (val 4294967296 xs) (val 4294967296 ys)) ∧ Below w.heap.size w w' := by
  obtain ⟨ao, cap, rfl, h1, h2, hs, hd, hn, h3⟩ := hva
  obtain ⟨bo, cap', rfl, k1, k2, ks, kd, kn, k3⟩ := hvb
  have g1 : decide (2 < (xs.length : Int)) = false := by simp; omega
  have g2 : decide (2 < (ys.length : Int)) = false := by simp; omega
  have HX : Hid (val 4294967296 xs < 18446744073709551616) := two_limbs hd hl1
  have HY : Hid (val 4294967296 ys < 18446744073709551616) := two_limbs kd hl2
  have HG : Hid (Nat.gcd (val 4294967296 xs) (val 4294967296 ys) < 18446744073709551616) := by
    show _ < _
    rcases Nat.eq_zero_or_pos (val 4294967296 xs) with h | h
    · rw [h, Nat.gcd_zero_left]; exact HY.out
    · exact Nat.lt_of_le_of_lt (Nat.gcd_le_left _ h) HX.out
  clear h3 k3
  have R0 := Blk.new ((w.alloc (.cells #[.bool na, .slice ao xs.length cap] 25 (0, 0))).alloc (.cells #[.bool nb, .slice bo ys.length cap'] 25 (0, 0))) 25 #[.bool false, .slice none 0 0]
  simp only [World.size_alloc] at R0
  have hbw : Below w.heap.size w (((w.alloc (.cells #[.bool na, .slice ao xs.length cap] 25 (0, 0))).alloc (.cells #[.bool nb, .slice bo ys.length cap'] 25 (0, 0))).alloc (.cells #[.bool false, .slice none 0 0] 25 (0, 0))) := by go_grown
  go_enter Try.func32, Try.ntmps32
  go_wp2
  go_region
  go_wp2
  refine wp_loop_rounds 1 ?_
  rw [rounds_succ]
  go_wp2_with fail
  refine (joinWord_any ao xs.length cap xs _ rfl hl1 (hs.below hbw.drew) hd).mono ?_
  rintro e w1 ⟨rfl, rfl⟩
  go_wp2_with fail
  refine (joinWord_any bo ys.length cap' ys _ rfl hl2 (ks.below hbw.drew) kd).mono ?_
  rintro e w1 ⟨rfl, rfl⟩
  go_wp2_with fail
  refine (gcdWords_any _ _ _ (by have := HX.out; omega) (by have := HY.out; omega)).mono ?_
  rintro e w1 ⟨rfl, hb1⟩
  have R1 := R0.drew.stay hb1
  go_wp2_with fail
  refine (splitWord_int _ _ rfl _ HG.out).mono ?_
  rintro e w2 ⟨v2, rfl, hl, hb2⟩
  have R2 := R1.stay hb2
  go_wp2_with fail
  refine (signed_lim false v2 _ 2 _ hl (by decide) (Nat.lt_of_lt_of_le HG.out word_lim)).mono ?_
  rintro e w3 ⟨v3, rfl, ha3, hb3⟩
  have R3 := R2.stay hb3
  obtain ⟨x, a, n, c, rfl⟩ := ha3.shape
  obtain ⟨r0, r1, q0, q1⟩ := R3.two
  go_wp2
  refine bodyPost_ret (v := .agg #[.bool x, .slice a n c]) (by simp [results, Try.results32, go_sem, r0, r1]) rfl ?_
  exact ⟨_, rfl, ha3.store2 R3 _ _ _ _, below_store2 (((hbw.drew.step hb1 (Nat.le_refl _)).step hb2 (Nat.le_refl _)).step hb3 (Nat.le_refl _)) (by omega) _ _⟩
end Go.Proofs.Ytidpbdhhbeaijab
/- Contract of suretyref01.cmp; it proves no statement of the seat. -/
namespace Go.Proofs.Ytidpbdhhbeaijab
open Go.RowKit

theorem Try.underlying28 : Try.prog.underlying 28 = some (.slice 3) := by kernel_rfl
theorem Try.underlying3 : Try.prog.underlying 3 = some (.int .i64) := by kernel_rfl
theorem Try.info3 : (Try.prog.info? 3).map (fun i => (i.zero, i.size, i.bytes)) = some (some (.int .i64 0), 1, 8) := by kernel_rfl

set_option maxHeartbeats 1000000 in
theorem rcmp_any (ao bo : Option Addr) (n m cap cap' : Nat) (xs ys : List Nat) (w : World) (hn : xs.length = n) (hm : ys.length = m) (h1 : n ≤ 100000) (h2 : m ≤ 100000) (hs : Seg .i64 w ao xs) (ht : Seg .i64 w bo ys) (hdx : Digs 10 xs) (hdy : Digs 10 ys) :
    Calls Try.prog 77 #[.slice ao n cap, .slice bo m cap'] w fun e w' => e = .returned (.int .i64 (cmpL 10 xs ys)) ∧ Below w.heap.size w w' := by
  have HN : Hid (xs.length = n) := hn
  have HM : Hid (ys.length = m) := hm
  clear hn hm
  by_cases hne : n = m
  · subst hne
    have hb : (((n : Nat) : Int) != ((n : Nat) : Int)) = false := by simp
    go_enter Try.func77, Try.ntmps77
    go_wp2
    go_loopw [5] (fun i wr => ∃ k : Nat, k ≤ n ∧ i = .int .i64 ((k : Int) - 1) ∧ Hid (xs.drop k = ys.drop k) ∧ Below w.heap.size w wr) (fun i _ => (intOf i + 1).toNat)
    case atStart => exact ⟨n, Nat.le_refl _, rfl, (by rw [List.drop_of_length_le (by have := HN.out; omega), List.drop_of_length_le (by have := HM.out; omega)] : _ = _), Below.refl _ _⟩
    case round =>
      obtain ⟨k, hk, rfl, HD, hbel⟩ := hrel
      have hs' := hs.below hbel
      have ht' := ht.below hbel
      by_cases h0 : 0 < k
      · obtain ⟨j, rfl⟩ : ∃ j, k = j + 1 := ⟨k - 1, by omega⟩
        obtain ⟨b, off, rfl, hc⟩ := hs'.open j (by have := HN.out; omega)
        obtain ⟨b2, off2, rfl, hc2⟩ := ht'.open j (by have := HM.out; omega)
        have c1 := hc j (by have := HN.out; omega)
        have c2 := hc2 j (by have := HM.out; omega)
        obtain ⟨x, hx⟩ : ∃ x, x = xs.getD j 0 := ⟨_, rfl⟩
        obtain ⟨y, hy⟩ : ∃ y, y = ys.getD j 0 := ⟨_, rfl⟩
        rw [← hx] at c1
        rw [← hy] at c2
        have HX : Hid (x = xs.getD j 0) := hx
        have HY : Hid (y = ys.getD j 0) := hy
        clear hx hy hc hc2 hs' ht'
        by_cases hlt : x < y
        · go_wp2
          go_region
          go_wp2
          go_ret
          refine ⟨?_, hbel.drew⟩
          rw [cmpL_lt (by rw [HN.out, HM.out]) (val_lt_at hdx (by rw [HN.out, HM.out]) j (by have := HN.out; omega) HD.out (by rw [← HX.out, ← HY.out]; exact hlt))]
          rfl
        · by_cases hgt : y < x
          · go_wp2
            go_region
            go_wp2
            go_region
            go_wp2
            go_ret
            refine ⟨?_, hbel.drew.drew⟩
            rw [cmpL_gt (by rw [HN.out, HM.out]) (val_lt_at hdy (by rw [HN.out, HM.out]) j (by have := HM.out; omega) HD.out.symm (by rw [← HX.out, ← HY.out]; exact hgt))]
            rfl
          · have hxy : x = y := by omega
            go_wp2
            go_region
            go_wp2
            go_region
            go_wp2
            go_roundw
            case rel =>
              refine ⟨j, by omega, rfl, ?_, hbel.drew.drew⟩
              show _ = _
              rw [drop_cons_getD xs j (by have := HN.out; omega), drop_cons_getD ys j (by have := HM.out; omega), ← HX.out, ← HY.out, HD.out, hxy]
            case measure => simp [intOf]
      · have hk0 : k = 0 := by omega
        subst hk0
        go_wp2
        go_ret
        refine ⟨?_, hbel⟩
        have e : xs = ys := by simpa using HD.out
        rw [e, cmpL_eq]
        rfl
  · have hb : (((n : Nat) : Int) != ((m : Nat) : Int)) = true := by rw [bne_iff_ne]; omega
    by_cases hlt : n < m
    · have HR : Hid (cmpL 10 xs ys = -1) := by show _ = _; unfold cmpL; rw [if_pos (by rw [HN.out, HM.out]; exact hlt)]
      go_enter Try.func77, Try.ntmps77
      go_wp2
      go_ret
      exact ⟨by rw [HR.out]; rfl, Below.refl _ _⟩
    · have HR : Hid (cmpL 10 xs ys = 1) := by show _ = _; unfold cmpL; rw [if_neg (by rw [HN.out, HM.out]; omega), if_pos (by rw [HN.out, HM.out]; omega)]
      go_enter Try.func77, Try.ntmps77
      go_wp2
      go_ret
      exact ⟨by rw [HR.out]; rfl, Below.refl _ _⟩
end Go.Proofs.Ytidpbdhhbeaijab
/- Contract of suretyref01.plus; it proves no statement of the seat. -/
namespace Go.Proofs.Ytidpbdhhbeaijab
open Go.RowKit

set_option maxHeartbeats 4000000 in
theorem rplus_any (ao bo : Option Addr) (n m cap cap' : Nat) (xs ys : List Nat) (w : World) (hn : xs.length = n) (hm : ys.length = m) (h1 : n ≤ 10000) (h2 : m ≤ 10000) (hs : Seg .i64 w ao xs) (ht : Seg .i64 w bo ys) (hdx : Digs 10 xs) (hdy : Digs 10 ys) :
    Calls Try.prog 101 #[.slice ao n cap, .slice bo m cap'] w fun e w' => ∃ v, e = .returned v ∧ ∃ zs, Own .i64 3 w.heap.size w' v zs ∧ Digs 10 zs ∧ val 10 zs = val 10 xs + val 10 ys ∧ n ≤ zs.length ∧ m ≤ zs.length ∧ (zs.length ≤ n ∨ zs.length ≤ m ∨ ((zs.length = n + 1 ∨ zs.length = m + 1) ∧ 10 ^ (zs.length - 1) ≤ val 10 zs)) ∧ Below w.heap.size w w' := by
  have HN : Hid (xs.length = n) := hn
  have HM : Hid (ys.length = m) := hm
  clear hn hm
  go_enter Try.func101, Try.ntmps101
  go_wp2
  go_loopw [5, 6, 7] (fun v c i wr => ∃ k cN : Nat, ∃ zs, i = .int .i64 k ∧ c = .int .i64 cN ∧ cN ≤ 1 ∧ Hid (zs.length = k) ∧ k ≤ 10001 ∧ Digs 10 zs ∧ Own .i64 3 w.heap.size wr v zs ∧ Hid (val 10 zs + 10 ^ k * cN = val 10 (xs.take k) + val 10 (ys.take k)) ∧
      Hid (k ≤ n ∨ k ≤ m ∨ ((k = n + 1 ∨ k = m + 1) ∧ n < k ∧ m < k ∧ cN = 0 ∧ 10 ^ (k - 1) ≤ val 10 zs)) ∧ Below w.heap.size w wr ∧ w.heap.size ≤ wr.heap.size) (fun _ _ i _ => 20000 - (intOf i).toNat)
  case atStart => exact ⟨0, 0, [], rfl, rfl, by omega, (rfl : _ = _), by omega, Digs.nil _, Own.nil _ _ _ _, (by simp [val] : _ = _), (Or.inl (Nat.zero_le _) : _ ∨ _), Below.refl _ _, Nat.le_refl _⟩
  case round =>
    obtain ⟨k, cN, zs, rfl, rfl, hc, HZ, hk, hzd, hown, HV, HK, hbel, hsz⟩ := hrel
    have hs' := hs.below hbel
    have ht' := ht.below hbel
    have HZL : Hid (zs.length ≤ 100000) := by show _ ≤ _; rw [HZ.out]; omega
    obtain ⟨x, hx⟩ : ∃ x, x = xs.getD k 0 := ⟨_, rfl⟩
    obtain ⟨y, hy⟩ : ∃ y, y = ys.getD k 0 := ⟨_, rfl⟩
    have hx10 : x < 10 := hx ▸ hdx.getD (by decide) k
    have hy10 : y < 10 := hy ▸ hdy.getD (by decide) k
    have HX : Hid (x = xs.getD k 0) := hx
    have HY : Hid (y = ys.getD k 0) := hy
    clear hx hy
    by_cases ha : k < n
    · obtain ⟨b, off, rfl, hc1⟩ := hs'.open k (by have := HN.out; omega)
      have c1 := hc1 k (by have := HN.out; omega)
      rw [← HX.out] at c1
      clear hc1 hs'
      by_cases hb : k < m
      · obtain ⟨b2, off2, rfl, hc2⟩ := ht'.open k (by have := HM.out; omega)
        have c2 := hc2 k (by have := HM.out; omega)
        rw [← HY.out] at c2
        clear hc2 ht'
        go_wp2_with (at_builtin; refine wpList_append_num rfl (.tmp 44) (.tmp 47) 28 rfl w.heap.size 3 .i64 8 Try.underlying28 Try.info3 (by decide) _ _ rfl hown _ ((cN + x + y) % 10) (by omega) rfl HZL.out hsz ?_; intro v' w3 hown3 hblk3 hbel3)
        go_roundw
        case rel =>
          refine ⟨k + 1, (cN + x + y) / 10, zs ++ [(cN + x + y) % 10], by go_num, rfl, by omega, ?_, by omega, hzd.append (Digs.cons (Nat.mod_lt _ (by decide)) (Digs.nil _)), hown3, ?_, ?_, hbel.trans hbel3, by have := hbel3.size; omega⟩
          · show _ = _
            rw [List.length_append, HZ.out]; rfl
          · show _ = _
            rw [val_snoc, HZ.out, val_take_succ', val_take_succ', ← HX.out, ← HY.out, Nat.pow_succ]
            exact plus_step _ _ _ _ _ _ _ _ _ _ HV.out (Nat.mod_add_div _ _)
          · exact Or.inl (by omega)
        case measure => simp [intOf]; omega
      · have hy0 : y = 0 := by
          rw [HY.out, List.getD_eq_getElem?_getD, List.getElem?_eq_none (by have := HM.out; omega)]; rfl
        have HY0 : Hid (y = 0) := hy0
        clear hy0 ht'
        go_wp2_with (at_builtin; refine wpList_append_num rfl (.tmp 44) (.tmp 47) 28 rfl w.heap.size 3 .i64 8 Try.underlying28 Try.info3 (by decide) _ _ rfl hown _ ((cN + x) % 10) (by omega) rfl HZL.out hsz ?_; intro v' w3 hown3 hblk3 hbel3)
        go_roundw
        case rel =>
          refine ⟨k + 1, (cN + x) / 10, zs ++ [(cN + x) % 10], by go_num, rfl, by omega, ?_, by omega, hzd.append (Digs.cons (Nat.mod_lt _ (by decide)) (Digs.nil _)), hown3, ?_, ?_, hbel.trans hbel3, by have := hbel3.size; omega⟩
          · show _ = _
            rw [List.length_append, HZ.out]; rfl
          · show _ = _
            rw [val_snoc, HZ.out, val_take_succ', val_take_succ', ← HX.out, ← HY.out, Nat.pow_succ]
            exact plus_step _ _ _ _ _ _ _ _ _ _ HV.out (by rw [HY0.out]; exact Nat.mod_add_div _ _)
          · exact Or.inl (by omega)
        case measure => simp [intOf]; omega
    · have hx0 : x = 0 := by
        rw [HX.out, List.getD_eq_getElem?_getD, List.getElem?_eq_none (by have := HN.out; omega)]; rfl
      have HX0 : Hid (x = 0) := hx0
      clear hx0 hs'
      by_cases hb : k < m
      · obtain ⟨b2, off2, rfl, hc2⟩ := ht'.open k (by have := HM.out; omega)
        have c2 := hc2 k (by have := HM.out; omega)
        rw [← HY.out] at c2
        clear hc2 ht'
        go_wp2_with (at_builtin; refine wpList_append_num rfl (.tmp 44) (.tmp 47) 28 rfl w.heap.size 3 .i64 8 Try.underlying28 Try.info3 (by decide) _ _ rfl hown _ ((cN + y) % 10) (by omega) rfl HZL.out hsz ?_; intro v' w3 hown3 hblk3 hbel3)
        go_roundw
        case rel =>
          refine ⟨k + 1, (cN + y) / 10, zs ++ [(cN + y) % 10], by go_num, rfl, by omega, ?_, by omega, hzd.append (Digs.cons (Nat.mod_lt _ (by decide)) (Digs.nil _)), hown3, ?_, ?_, hbel.trans hbel3, by have := hbel3.size; omega⟩
          · show _ = _
            rw [List.length_append, HZ.out]; rfl
          · show _ = _
            rw [val_snoc, HZ.out, val_take_succ', val_take_succ', ← HX.out, ← HY.out, Nat.pow_succ]
            exact plus_step _ _ _ _ _ _ _ _ _ _ HV.out (by rw [HX0.out]; exact Nat.mod_add_div _ _)
          · exact Or.inr (Or.inl (by omega))
        case measure => simp [intOf]; omega
      · have hy0 : y = 0 := by
          rw [HY.out, List.getD_eq_getElem?_getD, List.getElem?_eq_none (by have := HM.out; omega)]; rfl
        have HY0 : Hid (y = 0) := hy0
        clear hy0 ht'
        by_cases hc0 : 0 < cN
        · have hkb : k ≤ 10000 := by
            rcases HK.out with h | h | h
            · omega
            · omega
            · omega
          have HK2 : Hid (k = n ∨ k = m) := by
            show _ ∨ _
            rcases HK.out with h | h | h
            · left; omega
            · right; omega
            · omega
          go_wp2_with (at_builtin; refine wpList_append_num rfl (.tmp 44) (.tmp 47) 28 rfl w.heap.size 3 .i64 8 Try.underlying28 Try.info3 (by decide) _ _ rfl hown _ (cN % 10) (by omega) rfl HZL.out hsz ?_; intro v' w3 hown3 hblk3 hbel3)
          go_roundw
          case rel =>
            refine ⟨k + 1, cN / 10, zs ++ [cN % 10], by go_num, rfl, by omega, ?_, by omega, hzd.append (Digs.cons (Nat.mod_lt _ (by decide)) (Digs.nil _)), hown3, ?_, ?_, hbel.trans hbel3, by have := hbel3.size; omega⟩
            · show _ = _
              rw [List.length_append, HZ.out]; rfl
            · show _ = _
              rw [val_snoc, HZ.out, val_take_succ', val_take_succ', ← HX.out, ← HY.out, Nat.pow_succ]
              exact plus_step _ _ _ _ _ _ _ _ _ _ HV.out (by rw [HX0.out, HY0.out]; exact Nat.mod_add_div _ _)
            · refine Or.inr (Or.inr ⟨by have := HK2.out; omega, by omega, by omega, by omega, ?_⟩)
              have h1 : cN % 10 = 1 := by omega
              rw [val_snoc, HZ.out, h1, Nat.mul_one, Nat.add_sub_cancel]
              exact Nat.le_add_left _ _
          case measure => simp [intOf]; omega
        · have hc00 : cN = 0 := by omega
          go_wp2
          go_ret
          refine ⟨_, rfl, zs, hown, hzd, ?_, by rw [HZ.out]; omega, by rw [HZ.out]; omega, ?_, hbel⟩
          · have h3 := HV.out
            rw [List.take_of_length_le (by have := HN.out; omega), List.take_of_length_le (by have := HM.out; omega), hc00, Nat.mul_zero, Nat.add_zero] at h3
            exact h3
          · rw [HZ.out]
            rcases HK.out with h | h | h
            · exact Or.inl h
            · exact Or.inr (Or.inl h)
            · exact Or.inr (Or.inr ⟨h.1, h.2.2.2.2⟩)
end Go.Proofs.Ytidpbdhhbeaijab
