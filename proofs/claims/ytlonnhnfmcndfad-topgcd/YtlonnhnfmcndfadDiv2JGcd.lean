/- Contract of arith.Div, out of that of divLimbs; it proves no statement of the seat. -/
import Derived.Test.YtlonnhnfmcndfadDiv1JGcd
namespace Go.Proofs.Ytlonnhnfmcndfad
open Go.RowKit

theorem fdiv_unique {x y q r : Int} (hy : 0 < y) (h : r + y * q = x) (h0 : 0 ≤ r) (h1 : r < y) : x.fdiv y = q ∧ x.fmod y = r := by
  have h2 := (Int.ediv_emod_unique hy (r := r) (q := q) (a := x)).2 ⟨h, h0, h1⟩
  rw [Int.fdiv_eq_ediv_of_nonneg _ (Int.le_of_lt hy), Int.fmod_eq_emod_of_nonneg _ (Int.le_of_lt hy)]
  exact h2

theorem fdiv_unique_neg {x y q r : Int} (hy : y < 0) (h : r + y * q = x) (h0 : r ≤ 0) (h1 : y < r) : x.fdiv y = q ∧ x.fmod y = r := by
  have h2 := fdiv_unique (x := -x) (y := -y) (q := q) (r := -r) (by omega) (by rw [Int.neg_mul]; omega) (by omega) (by omega)
  rw [Int.neg_fdiv_neg] at h2
  refine ⟨h2.1, ?_⟩
  have h3 := Int.fmod_add_mul_fdiv x y
  rw [h2.1] at h3
  omega

theorem div_same (s : Bool) (X Y : Nat) (hY : 0 < Y) : (sv s X).fdiv (sv s Y) = sv false (X / Y) ∧ (sv s X).fmod (sv s Y) = sv s (X % Y) := by
  have h1 := Nat.mod_lt X hY
  have h2 : ((X % Y : Nat) : Int) + (Y : Int) * ((X / Y : Nat) : Int) = (X : Int) := by rw [← Int.natCast_mul, ← Int.natCast_add, Nat.mod_add_div]
  generalize X / Y = q at *
  generalize X % Y = r at *
  cases s with
  | false => exact fdiv_unique (by simp [sv]; omega) (by simpa [sv] using h2) (by simp [sv]) (by simp [sv]; omega)
  | true => exact fdiv_unique_neg (by simp [sv]; omega) (by simp only [sv, if_true, if_false, Bool.false_eq_true]; rw [Int.neg_mul]; omega) (by simp [sv]) (by simp [sv]; omega)

theorem div_exact (s t : Bool) (X Y : Nat) (hst : (s == t) = false) (hY : 0 < Y) (hr : X % Y = 0) : (sv s X).fdiv (sv t Y) = sv true (X / Y) ∧ (sv s X).fmod (sv t Y) = sv t (X % Y) := by
  have h2 : ((X % Y : Nat) : Int) + (Y : Int) * ((X / Y : Nat) : Int) = (X : Int) := by rw [← Int.natCast_mul, ← Int.natCast_add, Nat.mod_add_div]
  rw [hr] at h2 ⊢
  generalize X / Y = q at *
  cases t with
  | false =>
    cases s with
    | false => cases hst
    | true => exact fdiv_unique (by simp [sv]; omega) (by simp only [sv, if_true, if_false, Bool.false_eq_true]; rw [Int.mul_neg]; omega) (by simp [sv]) (by simp [sv]; omega)
  | true =>
    cases s with
    | true => cases hst
    | false => exact fdiv_unique_neg (by simp [sv]; omega) (by simp only [sv, if_true, if_false, Bool.false_eq_true]; rw [Int.mul_neg, Int.neg_mul]; omega) (by simp [sv]) (by simp [sv]; omega)

theorem div_rest (s t : Bool) (X Y : Nat) (hst : (s == t) = false) (hY : 0 < Y) (hr : 0 < X % Y) : (sv s X).fdiv (sv t Y) = sv true (X / Y + 1) ∧ (sv s X).fmod (sv t Y) = sv t (Y - X % Y) := by
  have h1 := Nat.mod_lt X hY
  have h2 : ((X % Y : Nat) : Int) + (Y : Int) * ((X / Y : Nat) : Int) = (X : Int) := by rw [← Int.natCast_mul, ← Int.natCast_add, Nat.mod_add_div]
  generalize X / Y = q at *
  generalize X % Y = r at *
  have h3 : ((Y - r : Nat) : Int) = (Y : Int) - (r : Int) := by omega
  have h4 : (Y : Int) * ((q + 1 : Nat) : Int) = (Y : Int) * (q : Int) + (Y : Int) := by rw [Int.natCast_add, Int.mul_add]; simp
  cases t with
  | false =>
    cases s with
    | false => cases hst
    | true => exact fdiv_unique (by simp [sv]; omega) (by simp only [sv, if_true, if_false, Bool.false_eq_true]; rw [Int.mul_neg, h4, h3]; omega) (by simp only [sv, if_false, Bool.false_eq_true]; omega) (by simp only [sv, if_false, Bool.false_eq_true]; omega)
  | true =>
    cases s with
    | true => cases hst
    | false => exact fdiv_unique_neg (by simp [sv]; omega) (by simp only [sv, if_true, if_false, Bool.false_eq_true]; rw [Int.mul_neg, Int.neg_mul, h4, h3]; omega) (by simp only [sv, if_true]; omega) (by simp only [sv, if_true]; omega)

theorem _root_.Go.RowKit.Below.drew_left {w w' : World} (h : Below w.drew.heap.size w.drew w') : Below w.heap.size w w' := ⟨h.os, h.tape, h.output, h.size, h.block⟩

theorem norm_len {ls : List Nat} (hn : Norm ls) (h : val 4294967296 ls < lim) : ls.length ≤ 32 := by
  rcases Nat.lt_or_ge 32 ls.length with h' | h'
  · exfalso
    have h8 := hn.ge (B := 4294967296) (List.ne_nil_of_length_pos (by omega)) (by decide)
    have h9 : 4294967296 ^ 32 ≤ 4294967296 ^ (ls.length - 1) := Nat.pow_le_pow_right (by decide) (by omega)
    have h10 : lim = 4294967296 ^ 32 := rfl
    omega
  · exact h'

theorem addLimbs_lim (v1 v2 : Value) (N1 N2 L1 L2 : Nat) (w : World) (h1 : LimR w v1 N1 L1) (h2 : LimR w v2 N2 L2) (hl1 : N1 < lim) (hl2 : N2 < lim) :
    Calls Try.prog 39 #[v1, v2] w fun e w' => ∃ v, e = .returned v ∧ LimR w' v (N1 + N2) 9001 ∧ Below w.heap.size w w' := by
  obtain ⟨a1, c1, l1, rfl, _, _, s1, d1, n1, rfl⟩ := h1
  obtain ⟨a2, c2, l2, rfl, _, _, s2, d2, n2, rfl⟩ := h2
  have e1 := norm_len n1 hl1
  have e2 := norm_len n2 hl2
  exact addLimbs_any a1 a2 l1.length l2.length c1 c2 l1 l2 w rfl rfl (by omega) (by omega) s1 s2 d1 d2

theorem subLimbs_lim (v1 v2 : Value) (N1 N2 L1 L2 : Nat) (w : World) (h1 : LimR w v1 N1 L1) (h2 : LimR w v2 N2 L2) (hl1 : N1 < lim) (hle : N2 ≤ N1) :
    Calls Try.prog 40 #[v1, v2] w fun e w' => ∃ v, e = .returned v ∧ LimR w' v (N1 - N2) 9001 ∧ Below w.heap.size w w' := by
  obtain ⟨a1, c1, l1, rfl, _, _, s1, d1, n1, rfl⟩ := h1
  obtain ⟨a2, c2, l2, rfl, _, _, s2, d2, n2, rfl⟩ := h2
  have e1 := norm_len n1 hl1
  have e2 : l2.length ≤ l1.length := by
    rcases Nat.lt_or_ge l1.length l2.length with h | h
    · have := val_lt_of_length d1 n2 (by decide) h; omega
    · exact h
  exact subLimbs_any a1 a2 l1.length l2.length c1 c2 l1 l2 w rfl rfl (by omega) e2 s1 s2 d1 d2 hle

theorem quot_lim (X Y : Nat) (hX : X < lim) (hY : 0 < Y) (hr : 0 < X % Y) : X / Y + 1 < lim := by
  have h1 := Nat.mod_lt X hY
  have h2 := Nat.mod_add_div X Y
  have h3 : 2 ≤ Y := by omega
  have h4 : 2 * (X / Y) ≤ Y * (X / Y) := Nat.mul_le_mul_right _ h3
  omega

set_option maxHeartbeats 8000000 in
theorem div_of (va vb : Value) (na nb : Bool) (xs ys : List Nat) (w : World) (hva : IntV w va na xs) (hvb : IntV w vb nb ys) (hxl : val 4294967296 xs < lim) (hyl : val 4294967296 ys < lim) (hy0 : 0 < ys.length) (hdc : DivC xs ys) :
    Calls Try.prog 20 #[va, vb] w fun e w' => ∃ vq vr, e = .returned (.tuple #[vq, vr, .int .i64 0]) ∧ AInt w' vq ((sv na (val 4294967296 xs)).fdiv (sv nb (val 4294967296 ys))) ∧ AInt w' vr ((sv na (val 4294967296 xs)).fmod (sv nb (val 4294967296 ys))) ∧ Below w.heap.size w w' := by
  have hl1 := AInt.len hva hxl
  have hl2 := AInt.len hvb hyl
  have HVB := hvb
  obtain ⟨ao, cap, rfl, h1, h2, hs, hd, hn, h3⟩ := hva
  obtain ⟨bo, cap', rfl, k1, k2, ks, kd, kn, k3⟩ := hvb
  have hYp := (kn.pos (B := 4294967296) (List.ne_nil_of_length_pos hy0)).resolve_right (by decide)
  have hsg : ((sv nb (val 4294967296 ys)).sign == 0) = false := by
    rw [beq_eq_false_iff_ne]
    intro e
    have := Int.sign_eq_zero_iff_zero.1 e
    have h4 := sv_natAbs nb (val 4294967296 ys)
    rw [this] at h4
    simp at h4
    omega
  have HDC : Hid (DivC xs ys) := hdc
  have HLM : Hid (val 4294967296 xs < lim ∧ val 4294967296 ys < lim ∧ 0 < val 4294967296 ys) := ⟨hxl, hyl, hYp⟩
  clear hdc hxl hyl h3 k3 hYp
  have A0 := (((Blk.new w 50 #[.bool na, .slice ao xs.length cap]).alloc (.cells #[.bool nb, .slice bo ys.length cap'] 50 (0, 0))).alloc (.cells #[.bool false, .slice none 0 0] 50 (0, 0))).alloc (.cells #[.bool false, .slice none 0 0] 50 (0, 0))
  have B0 := ((Blk.new (w.alloc (.cells #[.bool na, .slice ao xs.length cap] 50 (0, 0))) 50 #[.bool nb, .slice bo ys.length cap']).alloc (.cells #[.bool false, .slice none 0 0] 50 (0, 0))).alloc (.cells #[.bool false, .slice none 0 0] 50 (0, 0))
  have Q0 := (Blk.new ((w.alloc (.cells #[.bool na, .slice ao xs.length cap] 50 (0, 0))).alloc (.cells #[.bool nb, .slice bo ys.length cap'] 50 (0, 0))) 50 #[.bool false, .slice none 0 0]).alloc (.cells #[.bool false, .slice none 0 0] 50 (0, 0))
  have R0 := Blk.new (((w.alloc (.cells #[.bool na, .slice ao xs.length cap] 50 (0, 0))).alloc (.cells #[.bool nb, .slice bo ys.length cap'] 50 (0, 0))).alloc (.cells #[.bool false, .slice none 0 0] 50 (0, 0))) 50 #[.bool false, .slice none 0 0]
  simp only [World.size_alloc] at B0 Q0 R0
  have hbw0 : Below w.heap.size w ((((w.alloc (.cells #[.bool na, .slice ao xs.length cap] 50 (0, 0))).alloc (.cells #[.bool nb, .slice bo ys.length cap'] 50 (0, 0))).alloc (.cells #[.bool false, .slice none 0 0] 50 (0, 0))).alloc (.cells #[.bool false, .slice none 0 0] 50 (0, 0))) := by go_grown
  have HVB4 := HVB.below hbw0
  go_enter Try.func20, Try.ntmps20
  go_wp2_with fail
  refine (sign_any _ nb ys _ HVB4).mono ?_
  rintro e w1 ⟨rfl, hb1⟩
  have A1 := A0.stay hb1
  have B1 := B0.stay hb1
  have Q1 := Q0.stay hb1
  have R1 := R0.stay hb1
  obtain ⟨ca0, ca1, _, _⟩ := A1.two
  obtain ⟨cb0, cb1, _, _⟩ := B1.two
  have hbw1 := hbw0.step hb1 (Nat.le_refl _)
  go_wp2_with fail
  refine (HDC.out ao bo cap cap' _ (hs.below hbw1) (ks.below hbw1)).mono ?_
  rintro e w2 ⟨u1, u2, rfl, hu1, hu2, hb2⟩
  have AA := A1.stay hb2
  have BB := B1.stay hb2
  have QQ := Q1.stay hb2
  have RR := R1.stay hb2
  clear ca0 ca1 cb0 cb1 A0 B0 Q0 R0 A1 B1 Q1 R1 hbw0 HVB4 HVB
  obtain ⟨ca0, ca1, _, _⟩ := AA.two
  obtain ⟨cb0, cb1, _, _⟩ := BB.two
  have hbw := hbw1.step hb2 (Nat.le_refl _)
  have hks := ks.below hbw
  clear hb1 hb2 hbw1
  by_cases hst : (na == nb) = true
  · have HQV : Hid ((sv na (val 4294967296 xs)).fdiv (sv nb (val 4294967296 ys)) = sv false (val 4294967296 xs / val 4294967296 ys)) := by
      show _ = _
      have e : na = nb := by simpa using hst
      rw [e]; exact (div_same nb _ _ HLM.out.2.2).1
    have HRV : Hid ((sv na (val 4294967296 xs)).fmod (sv nb (val 4294967296 ys)) = sv nb (val 4294967296 xs % val 4294967296 ys)) := by
      show _ = _
      have e : na = nb := by simpa using hst
      rw [e]; exact (div_same nb _ _ HLM.out.2.2).2
    have HU1 : Hid (LimR w2.drew u1 (val 4294967296 xs / val 4294967296 ys) 9001 ∧ val 4294967296 xs / val 4294967296 ys < lim) := ⟨hu1, Nat.lt_of_le_of_lt (Nat.div_le_self _ _) HLM.out.1⟩
    have HU2 : Hid (LimR w2 u2 (val 4294967296 xs % val 4294967296 ys) 9001 ∧ val 4294967296 xs % val 4294967296 ys < lim) := ⟨hu2, Nat.lt_trans (Nat.mod_lt _ HLM.out.2.2) HLM.out.2.1⟩
    go_wp2
    go_region_held3 (fun w' => w'.cell? ⟨w.heap.size + 1, 0, none⟩ = some (.bool nb))
      (simp [*, go_sem])
      (first
        | (go_at_call_of 31 u1; refine (signed_lim false u1 _ 9001 _ HU1.out.1 (by decide) HU1.out.2).mono ?_; rintro e w7 ⟨v7, rfl, ha7, hb7⟩; have BB7 := BB.drew.stay hb7; have QQ7 := QQ.drew.stay hb7; have RR7 := RR.drew.stay hb7; obtain ⟨cb0, _, _, _⟩ := BB7.two)
        | (go_at_call_of 31 u2; refine (signed_lim nb u2 _ 9001 _ (HU2.out.1.below (Below.drew_left hb7)) (by decide) HU2.out.2).mono ?_; rintro e w8 ⟨v8, rfl, ha8, hb8⟩; have BB8 := BB7.stay hb8; obtain ⟨cd0, _, _, _⟩ := BB8.two; have ha7' := ha7.below hb8; obtain ⟨x7, a7, n7, c7, rfl⟩ := ha7'.shape; obtain ⟨x8, a8, n8, c8, rfl⟩ := ha8.shape; have QQ8 := QQ7.stay hb8; have RR8 := RR7.stay hb8; obtain ⟨q0, q1, qf0, qf1⟩ := QQ8.two; obtain ⟨s0, s1, sf0, sf1⟩ := RR8.two))
    go_wp2
    have RR9 : Blk 50 ((w8.setCell ⟨w.heap.size + 1 + 1, 0, none⟩ (.bool x7)).setCell ⟨w.heap.size + 1 + 1, 1, none⟩ (.slice a7 n7 c7)) (w.heap.size + 1 + 1 + 1) #[.bool false, .slice none 0 0] := (RR8.other (by simp) _).other (by simp) _
    refine bodyPost_ret (v := .tuple #[.agg #[.bool x7, .slice a7 n7 c7], .agg #[.bool x8, .slice a8 n8 c8], .int .i64 0]) (by simp [results, Try.results20, go_sem, q0, q1, s0, s1]) rfl ?_
    have hbE : Below w.heap.size w w8 := ((hbw.drew).step hb7 (Nat.le_refl _)).step hb8 (Nat.le_refl _)
    refine ⟨_, _, rfl, ?_, ?_, below_store2 (below_store2 hbE (by omega) _ _) (by omega) _ _⟩
    · rw [HQV.out]
      exact (ha7'.store2 QQ8 _ _ _ _).store2 RR9 _ _ _ _
    · rw [HRV.out]
      exact (ha8.store2 QQ8 _ _ _ _).store2 RR9 _ _ _ _

  · have hst' : (na == nb) = false := by simpa using hst
    have hu2' := hu2
    obtain ⟨a2, cp2, ls2, hue, l1, l2, hsg2, ld2, ln2, hv2⟩ := hu2'
    have hst2 := hst'
    by_cases hr0 : ls2.length ≤ 0
    · have hRz : val 4294967296 xs % val 4294967296 ys = 0 := by rw [← hv2, List.eq_nil_of_length_eq_zero (show ls2.length = 0 by omega)]; rfl
      have HQV : Hid ((sv na (val 4294967296 xs)).fdiv (sv nb (val 4294967296 ys)) = sv true (val 4294967296 xs / val 4294967296 ys)) := (div_exact na nb _ _ hst' HLM.out.2.2 hRz).1
      have HRV : Hid ((sv na (val 4294967296 xs)).fmod (sv nb (val 4294967296 ys)) = sv nb (val 4294967296 xs % val 4294967296 ys)) := (div_exact na nb _ _ hst' HLM.out.2.2 hRz).2
      subst hue
      have HU1 : Hid (LimR w2.drew u1 (val 4294967296 xs / val 4294967296 ys) 9001 ∧ val 4294967296 xs / val 4294967296 ys < lim) := ⟨hu1, Nat.lt_of_le_of_lt (Nat.div_le_self _ _) HLM.out.1⟩
      have HU2 : Hid (LimR w2 (Value.slice a2 ls2.length cp2) (val 4294967296 xs % val 4294967296 ys) 9001 ∧ val 4294967296 xs % val 4294967296 ys < lim) := ⟨hu2, Nat.lt_trans (Nat.mod_lt _ HLM.out.2.2) HLM.out.2.1⟩
      clear hv2 hRz hst hsg2 hu1 hu2
      go_wp2
      go_region_held3 (fun w' => w'.cell? ⟨w.heap.size + 1, 0, none⟩ = some (.bool nb))
        (simp [*, go_sem])
        (first
          | (go_at_call_of 31 u1; refine (signed_lim true u1 _ 9001 _ HU1.out.1 (by decide) HU1.out.2).mono ?_; rintro e w7 ⟨v7, rfl, ha7, hb7⟩; have BB7 := BB.drew.stay hb7; have QQ7 := QQ.drew.stay hb7; have RR7 := RR.drew.stay hb7; obtain ⟨cb0, _, _, _⟩ := BB7.two)
          | (go_at_call_of 31 (Value.slice a2 ls2.length cp2); refine (signed_lim nb (Value.slice a2 ls2.length cp2) _ 9001 _ (HU2.out.1.below (Below.drew_left hb7)) (by decide) HU2.out.2).mono ?_; rintro e w8 ⟨v8, rfl, ha8, hb8⟩; have BB8 := BB7.stay hb8; obtain ⟨cd0, _, _, _⟩ := BB8.two; have ha7' := ha7.below hb8; obtain ⟨x7, a7, n7, c7, rfl⟩ := ha7'.shape; obtain ⟨x8, a8, n8, c8, rfl⟩ := ha8.shape; have QQ8 := QQ7.stay hb8; have RR8 := RR7.stay hb8; obtain ⟨q0, q1, qf0, qf1⟩ := QQ8.two; obtain ⟨s0, s1, sf0, sf1⟩ := RR8.two))
      go_wp2
      have RR9 : Blk 50 ((w8.setCell ⟨w.heap.size + 1 + 1, 0, none⟩ (.bool x7)).setCell ⟨w.heap.size + 1 + 1, 1, none⟩ (.slice a7 n7 c7)) (w.heap.size + 1 + 1 + 1) #[.bool false, .slice none 0 0] := (RR8.other (by simp) _).other (by simp) _
      refine bodyPost_ret (v := .tuple #[.agg #[.bool x7, .slice a7 n7 c7], .agg #[.bool x8, .slice a8 n8 c8], .int .i64 0]) (by simp [results, Try.results20, go_sem, q0, q1, s0, s1]) rfl ?_
      have hbE : Below w.heap.size w w8 := ((hbw.drew).step hb7 (Nat.le_refl _)).step hb8 (Nat.le_refl _)
      refine ⟨_, _, rfl, ?_, ?_, below_store2 (below_store2 hbE (by omega) _ _) (by omega) _ _⟩
      · rw [HQV.out]
        exact (ha7'.store2 QQ8 _ _ _ _).store2 RR9 _ _ _ _
      · rw [HRV.out]
        exact (ha8.store2 QQ8 _ _ _ _).store2 RR9 _ _ _ _

    · have hRp : 0 < val 4294967296 xs % val 4294967296 ys := by
        rw [← hv2]; exact (ln2.pos (B := 4294967296) (List.ne_nil_of_length_pos (by omega))).resolve_right (by decide)
      have HQV : Hid ((sv na (val 4294967296 xs)).fdiv (sv nb (val 4294967296 ys)) = sv true (val 4294967296 xs / val 4294967296 ys + 1)) := (div_rest na nb _ _ hst' HLM.out.2.2 hRp).1
      have HRV : Hid ((sv na (val 4294967296 xs)).fmod (sv nb (val 4294967296 ys)) = sv nb (val 4294967296 ys - val 4294967296 xs % val 4294967296 ys)) := (div_rest na nb _ _ hst' HLM.out.2.2 hRp).2
      have HQL : Hid (val 4294967296 xs / val 4294967296 ys + 1 < lim) := quot_lim _ _ HLM.out.1 HLM.out.2.2 hRp
      subst hue
      have HU1 : Hid (LimR w2 u1 (val 4294967296 xs / val 4294967296 ys) 9001) := hu1
      have HU2 : Hid (LimR w2 (Value.slice a2 ls2.length cp2) (val 4294967296 xs % val 4294967296 ys) 9001) := hu2
      have HYY : Hid (LimR w2 (Value.slice bo ys.length cap') (val 4294967296 ys) 10000) := ⟨bo, cap', ys, rfl, k1, k2, hks, kd, kn, rfl⟩
      clear hv2 hRp hst hsg2 hu1 hu2
      go_wp2_with fail
      refine (splitWord_int 1 _ rfl _ (by decide)).mono ?_
      rintro e w3 ⟨o1, rfl, ho1, hb3⟩
      go_wp2_with fail
      refine (addLimbs_lim u1 o1 _ 1 9001 2 _ (HU1.out.below hb3) ho1 (by have := HQL.out; omega) (by have := word_lim; omega)).mono ?_
      rintro e w4 ⟨z1, rfl, hz1, hb4⟩
      have hb34 := hb3.step hb4 (Nat.le_refl _)
      have BB4 := BB.stay hb34
      clear cb0 cb1
      obtain ⟨cb0, cb1, _, _⟩ := BB4.two
      go_wp2_with fail
      refine (subLimbs_lim _ _ _ _ 10000 9001 _ (HYY.out.below hb34) (HU2.out.below hb34) HLM.out.2.1 (Nat.le_of_lt (Nat.mod_lt _ HLM.out.2.2))).mono ?_
      rintro e w5 ⟨z2, rfl, hz2, hb5⟩
      have hb35 := hb34.step hb5 (Nat.le_refl _)
      have BB5 := BB.stay hb35
      have QQ5 := QQ.stay hb35
      have RR5 := RR.stay hb35
      have hbw5 := hbw.step hb35 (Nat.le_refl _)
      clear cb0 cb1
      obtain ⟨cb0, cb1, _, _⟩ := BB5.two
      have HU1 : Hid (LimR w5.drew z1 (val 4294967296 xs / val 4294967296 ys + 1) 9001 ∧ val 4294967296 xs / val 4294967296 ys + 1 < lim) := ⟨hz1.below hb5.drew, HQL.out⟩
      have HU2 : Hid (LimR w5 z2 (val 4294967296 ys - val 4294967296 xs % val 4294967296 ys) 9001 ∧ val 4294967296 ys - val 4294967296 xs % val 4294967296 ys < lim) := ⟨hz2, Nat.lt_of_le_of_lt (Nat.sub_le _ _) HLM.out.2.1⟩
      clear hz1 hz2 hb3 hb4 hb5 hb34 hb35 BB4
      go_wp2
      go_region_held3 (fun w' => w'.cell? ⟨w.heap.size + 1, 0, none⟩ = some (.bool nb))
        (simp [*, go_sem])
        (first
          | (go_at_call_of 31 z1; refine (signed_lim true z1 _ 9001 _ HU1.out.1 (by decide) HU1.out.2).mono ?_; rintro e w7 ⟨v7, rfl, ha7, hb7⟩; have BB7 := BB5.drew.stay hb7; have QQ7 := QQ5.drew.stay hb7; have RR7 := RR5.drew.stay hb7; obtain ⟨cb0, _, _, _⟩ := BB7.two)
          | (go_at_call_of 31 z2; refine (signed_lim nb z2 _ 9001 _ (HU2.out.1.below (Below.drew_left hb7)) (by decide) HU2.out.2).mono ?_; rintro e w8 ⟨v8, rfl, ha8, hb8⟩; have BB8 := BB7.stay hb8; obtain ⟨cd0, _, _, _⟩ := BB8.two; have ha7' := ha7.below hb8; obtain ⟨x7, a7, n7, c7, rfl⟩ := ha7'.shape; obtain ⟨x8, a8, n8, c8, rfl⟩ := ha8.shape; have QQ8 := QQ7.stay hb8; have RR8 := RR7.stay hb8; obtain ⟨q0, q1, qf0, qf1⟩ := QQ8.two; obtain ⟨s0, s1, sf0, sf1⟩ := RR8.two))
      go_wp2
      have RR9 : Blk 50 ((w8.setCell ⟨w.heap.size + 1 + 1, 0, none⟩ (.bool x7)).setCell ⟨w.heap.size + 1 + 1, 1, none⟩ (.slice a7 n7 c7)) (w.heap.size + 1 + 1 + 1) #[.bool false, .slice none 0 0] := (RR8.other (by simp) _).other (by simp) _
      refine bodyPost_ret (v := .tuple #[.agg #[.bool x7, .slice a7 n7 c7], .agg #[.bool x8, .slice a8 n8 c8], .int .i64 0]) (by simp [results, Try.results20, go_sem, q0, q1, s0, s1]) rfl ?_
      have hbE : Below w.heap.size w w8 := ((hbw5.drew).step hb7 (Nat.le_refl _)).step hb8 (Nat.le_refl _)
      refine ⟨_, _, rfl, ?_, ?_, below_store2 (below_store2 hbE (by omega) _ _) (by omega) _ _⟩
      · rw [HQV.out]
        exact (ha7'.store2 QQ8 _ _ _ _).store2 RR9 _ _ _ _
      · rw [HRV.out]
        exact (ha8.store2 QQ8 _ _ _ _).store2 RR9 _ _ _ _

end Go.Proofs.Ytlonnhnfmcndfad
