/- Joined: Ints2, Div1, Div2, Gcd1: words and contracts; no statement of the seat is proved here. -/
import Derived.Test.YteefniagebcagaaGreatDoorJoin5Tells
import Derived.Deep.RegionHeld3
/- Contract of arith.Mul; it proves no statement of the seat. -/
namespace Go.Proofs.YteefniagebcagaaGreatDoor
open Go.RowKit

theorem sv_mul (a b : Bool) (m n : Nat) : sv (!(a == b)) (m * n) = sv a m * sv b n := by
  cases a <;> cases b <;> simp [sv, Int.natCast_mul, Int.neg_mul, Int.mul_neg]

set_option maxHeartbeats 4000000 in
theorem mul_any (va vb : Value) (x y : Int) (w : World) (ha : AInt w va x) (hb : AInt w vb y) :
    Calls Tryz.prog 67 #[va, vb] w fun e w' => ∃ v c, e = .returned (.tuple #[v, .int .i64 c]) ∧ Held w' v c (x * y) ∧ Below w.heap.size w w' := by
  obtain ⟨na, xs, hva, hxe, hxl⟩ := ha
  obtain ⟨nb, ys, hvb, hye, hyl⟩ := hb
  have hl1 := AInt.len hva hxl
  have hl2 := AInt.len hvb hyl
  obtain ⟨ao, cap, rfl, h1, h2, hs, hd, hn, h3⟩ := hva
  obtain ⟨bo, cap', rfl, k1, k2, ks, kd, kn, k3⟩ := hvb
  have HXY : Hid (x * y = sv (!(na == nb)) (val 4294967296 xs * val 4294967296 ys)) := by show _ = _; rw [sv_mul, hxe, hye]
  clear hxe hye hxl hyl h3 k3
  have A0 := ((Blk.new w 31 #[.bool na, .slice ao xs.length cap]).alloc (.cells #[.bool nb, .slice bo ys.length cap'] 31 (0, 0))).alloc (.cells #[.bool false, .slice none 0 0] 31 (0, 0))
  have B0 := (Blk.new (w.alloc (.cells #[.bool na, .slice ao xs.length cap] 31 (0, 0))) 31 #[.bool nb, .slice bo ys.length cap']).alloc (.cells #[.bool false, .slice none 0 0] 31 (0, 0))
  have R0 := Blk.new ((w.alloc (.cells #[.bool na, .slice ao xs.length cap] 31 (0, 0))).alloc (.cells #[.bool nb, .slice bo ys.length cap'] 31 (0, 0))) 31 #[.bool false, .slice none 0 0]
  simp only [World.size_alloc] at B0 R0
  have hbw : Below w.heap.size w (((w.alloc (.cells #[.bool na, .slice ao xs.length cap] 31 (0, 0))).alloc (.cells #[.bool nb, .slice bo ys.length cap'] 31 (0, 0))).alloc (.cells #[.bool false, .slice none 0 0] 31 (0, 0))) := by go_grown
  go_enter Tryz.func67, Tryz.ntmps67
  go_wp2
  go_region_held3 (fun w' => w'.cell? ⟨w.heap.size, 0, none⟩ = some (.bool na) ∧ w'.cell? ⟨w.heap.size, 1, none⟩ = some (.slice ao xs.length cap) ∧ w'.cell? ⟨w.heap.size + 1, 0, none⟩ = some (.bool nb) ∧ w'.cell? ⟨w.heap.size + 1, 1, none⟩ = some (.slice bo ys.length cap'))
    (simp [*, go_sem])
    (first
      | (go_at_call 105; refine (mulLimbs_any ao bo xs.length ys.length cap cap' xs ys _ rfl rfl (by omega) (by omega) (hs.below hbw.drew) (ks.below hbw.drew) hd kd).mono ?_; rintro e w1 ⟨v1, rfl, hl, hb1⟩; have A1 := Blk.stay A0.drew hb1; have B1 := Blk.stay B0.drew hb1; have R1 := Blk.stay R0.drew hb1; obtain ⟨ca0, ca1, _, _⟩ := A1.two; obtain ⟨cb0, cb1, _, _⟩ := B1.two)
      | (go_at_call 85; refine (fitting_lim _ v1 _ 9001 _ hl (by decide)).mono ?_; rintro e w2 ⟨v2, c, rfl, hheld, hb2⟩; obtain ⟨xx, aa, nn, cc, rfl⟩ := hheld.shape; obtain ⟨da0, da1, _, _⟩ := (A1.stay hb2).two; obtain ⟨db0, db1, _, _⟩ := (B1.stay hb2).two; have R2 := R1.stay hb2; obtain ⟨r0, r1, q0, q1⟩ := R2.two))
  go_wp2
  refine bodyPost_ret (v := .tuple #[.agg #[.bool xx, .slice aa nn cc], .int .i64 c]) (by simp [results, Tryz.results67, go_sem, r0, r1]) rfl ?_
  refine ⟨_, _, rfl, ?_, below_store2 (((hbw.drew).step hb1 (Nat.le_refl _)).step hb2 (Nat.le_refl _)) (by omega) _ _⟩
  rw [HXY.out]
  exact hheld.store2 R2 _ _ _ _
end Go.Proofs.YteefniagebcagaaGreatDoor
/- Contract of arith.divLimbs where the divisor is greater or has one limb; it proves no statement of the seat. -/
namespace Go.Proofs.YteefniagebcagaaGreatDoor
open Go.RowKit

/-- What arith.divLimbs answers: the quotient and the rest. -/
def DivC (xs ys : List Nat) : Prop := ∀ (ao bo : Option Addr) (cap cap' : Nat) (w : World), Seg .u32 w ao xs → Seg .u32 w bo ys →
  Calls Tryz.prog 114 #[.slice ao xs.length cap, .slice bo ys.length cap'] w fun e w' => ∃ v1 v2, e = .returned (.tuple #[v1, v2]) ∧ LimR w' v1 (val 4294967296 xs / val 4294967296 ys) 9001 ∧ LimR w' v2 (val 4294967296 xs % val 4294967296 ys) 9001 ∧ Below w.heap.size w w'

theorem LimR.all {t : TypeId} {w : World} {g : Nat} {zs : List Nat} (h : Row .u32 t w g zs) (hd : Digs 4294967296 zs) (hn : Norm zs) (L : Nat) (hL : zs.length ≤ L) : LimR w (.slice (some ⟨g, 0, none⟩) zs.length zs.length) (val 4294967296 zs) L :=
  ⟨_, _, zs, rfl, Nat.le_refl _, hL, h.all, hd, hn, rfl⟩
theorem LimR.nil (w : World) (L : Nat) : LimR w (.slice none 0 0) 0 L := ⟨none, 0, [], rfl, Nat.le_refl _, Nat.zero_le _, Seg.nil _ _ _, Digs.nil _, Norm.nil, rfl⟩

theorem cmpL_neg {B : Nat} {xs ys : List Nat} (hB : 0 < B) (hx : Digs B xs) (hy : Digs B ys) (nx : Norm xs) (ny : Norm ys) : cmpL B xs ys < 0 ↔ val B xs < val B ys := by
  rw [cmpL_norm hB hx hy nx ny, Int.sign_neg_iff]
  omega

set_option maxHeartbeats 1000000 in
theorem divLimbs_less (xs ys : List Nat) (hl : xs.length ≤ 9000) (hl' : ys.length ≤ 9000) (hdx : Digs 4294967296 xs) (hdy : Digs 4294967296 ys) (nx : Norm xs) (ny : Norm ys) (hlt : val 4294967296 xs < val 4294967296 ys) : DivC xs ys := by
  intro ao bo cap cap' w hs ht
  have hc : cmpL 4294967296 xs ys < 0 := (cmpL_neg (by decide) hdx hdy nx ny).2 hlt
  have HL : Hid (val 4294967296 xs < val 4294967296 ys) := hlt
  clear hlt
  go_enter Tryz.func114, Tryz.ntmps114
  go_wp2_with fail
  refine (cmpLimbs_any ao bo xs.length ys.length cap cap' xs ys _ rfl rfl (by omega) (by omega) hs ht hdx hdy).mono ?_
  rintro e w1 ⟨rfl, hb1⟩
  go_wp2_with (go_at_call 100; refine (copied_any ao xs.length cap xs _ rfl (by omega) (hs.below hb1)).mono ?_; rintro e w2 ⟨rfl, hr2, hb2, _⟩)
  go_ret2
  refine ⟨_, _, rfl, ?_, ?_, hb1.step hb2 (Nat.le_refl _)⟩
  · rw [Nat.div_eq_of_lt HL.out]; exact LimR.nil _ _
  · rw [Nat.mod_eq_of_lt HL.out]; exact LimR.all hr2 hdx nx 9001 (by omega)

theorem drop_none (xs : List Nat) (n : Nat) (h : xs.length = n) : xs.drop n = [] := by rw [← h, List.drop_length]

set_option maxHeartbeats 1000000 in
theorem divLimbs_one (xs ys : List Nat) (hl : xs.length ≤ 9000) (hl' : ys.length = 1) (hdx : Digs 4294967296 xs) (hdy : Digs 4294967296 ys) (nx : Norm xs) (ny : Norm ys) (hge : val 4294967296 ys ≤ val 4294967296 xs) : DivC xs ys := by
  intro ao bo cap cap' w hs ht
  have hc : ¬ cmpL 4294967296 xs ys < 0 := fun h => by have := (cmpL_neg (by decide) hdx hdy nx ny).1 h; omega
  obtain ⟨b, off, rfl, hcs⟩ := ht.open 0 (by omega)
  have hc0 := hcs 0 (by omega)
  obtain ⟨y, hy⟩ : ∃ y, y = ys.getD 0 0 := ⟨_, rfl⟩
  rw [← hy, Nat.add_zero] at hc0
  have hyl : y < 4294967296 := hy ▸ hdy.getD (by decide) 0
  have hy0 : 0 < y := by
    have := ny.last (by omega)
    rw [hl'] at this
    rw [hy]; exact Nat.pos_of_ne_zero this
  have HYV : Hid (val 4294967296 ys = y) := by
    show _ = _
    match ys, hl', hy with
    | [z], _, hy => simp at hy; simp [val, hy]
  have hbw : b < w.heap.size := World.block_lt_of_cell? w ⟨b, off, none⟩ hc0
  have HLY : Hid (ys.length = 1) := hl'
  have hone : (((ys.length : Nat) : Int) == 1) = true := by rw [beq_iff_eq]; omega
  clear hcs hy hl' hge
  go_enter Tryz.func114, Tryz.ntmps114
  go_wp2_with fail
  refine (cmpLimbs_any ao _ xs.length ys.length cap cap' xs ys _ rfl rfl (by omega) (by have := HLY.out; omega) hs ht hdx hdy).mono ?_
  rintro e w1 ⟨rfl, hb1⟩
  go_wp2_with fail
  refine (copied_any ao xs.length cap xs _ rfl (by omega) (hs.below hb1)).mono ?_
  rintro e w2 ⟨rfl, hr2, hb2, _⟩
  have hb12 := hb1.step hb2 (Nat.le_refl _)
  have hcell : w2.cell? ⟨b, off, none⟩ = some (.int .u32 y) := (hb12.cell (p := ⟨b, off, none⟩) hbw).trans hc0
  have hyn : 0 < ys.length := by have := HLY.out; omega
  go_wp2_with fail
  refine (shrinkLimbs_any w1.heap.size xs.length xs.length y xs _ (Nat.le_refl _) (by omega) hr2 hdx hy0 hyl).mono ?_
  rintro e w3 ⟨r, qs, rfl, hr, hql, hqd, hqv, hr3, honly⟩
  rw [List.take_length] at hqv
  rw [drop_none xs _ rfl, List.append_nil] at hr3
  have HQ : Hid (qs.length = xs.length ∧ val 4294967296 xs = val 4294967296 qs * y + r) := ⟨hql, hqv⟩
  clear hql hqv
  go_wp2_with fail
  refine (trimmed_any (some ⟨w1.heap.size, 0, none⟩) xs.length xs.length qs _ HQ.out.1 (Nat.le_refl _) (by unfold maxLen; omega) hr3.all).mono ?_
  rintro e w3' ⟨rfl, rfl⟩
  go_wp2_with fail
  have hr4 := Row.new w3' .u32 167 [r]
  refine (trimmed_any (some ⟨w3'.heap.size, 0, none⟩) 1 1 [r] _ rfl (Nat.le_refl _) (by unfold maxLen; omega) hr4.all).mono ?_
  rintro e w4 ⟨rfl, rfl⟩
  go_wp2
  go_ret2
  have e1 : val 4294967296 xs / val 4294967296 ys = val 4294967296 qs := by
    rw [HYV.out, HQ.out.2, Nat.mul_comm, Nat.mul_add_div hy0, Nat.div_eq_of_lt hr, Nat.add_zero]
  have e2 : val 4294967296 xs % val 4294967296 ys = val 4294967296 [r] := by
    rw [HYV.out, HQ.out.2, Nat.mul_comm, Nat.mul_add_mod, Nat.mod_eq_of_lt hr]; simp [val]
  have hb3 : Below w.heap.size w w3' := hb12.trans (honly.below hb1.size)
  refine ⟨_, _, rfl, ?_, ?_, hb3.alloc hb3.size _⟩
  · rw [e1]
    exact (LimR.row hr3 hqd xs.length 9001 (by rw [HQ.out.1]; exact Nat.le_refl _) (by omega)).below ((Below.refl _ _).alloc (Nat.le_refl _) _)
  · rw [e2]
    exact LimR.row hr4 (Digs.cons (by omega) (Digs.nil _)) 1 9001 (Nat.le_refl _) (by decide)
end Go.Proofs.YteefniagebcagaaGreatDoor
/- Contract of arith.Div, out of that of divLimbs; it proves no statement of the seat. -/
namespace Go.Proofs.YteefniagebcagaaGreatDoor
open Go.RowKit

theorem fdiv_unique {x y q r : Int} (hy : 0 < y) (h : r + y * q = x) (h0 : 0 ≤ r) (h1 : r < y) : x.fdiv y = q ∧ x.fmod y = r := by
  have h2 := (Int.ediv_emod_unique hy (r := r) (q := q) (a := x)).2 ⟨h, h0, h1⟩
  rw [Int.fdiv_eq_ediv_of_nonneg _ (Int.le_of_lt hy), Int.fmod_eq_emod_of_nonneg _ (Int.le_of_lt hy)]
  exact h2

theorem fdiv_unique_neg {x y q r : Int} (hy : y < 0) (h : r + y * q = x) (h0 : r ≤ 0) (h1 : y < r) : x.fdiv y = q ∧ x.fmod y = r := by
  have h2 := fdiv_unique (x := -x) (y := -y) (q := q) (r := -r) (by omega) (by rw [Int.neg_mul]; omega) (by omega) (by omega)
  rw [Int.neg_fdiv_neg] at h2
  refine ⟨h2.1, ?_⟩
  have h3 := Int.fmod_add_mul_fdiv x y
  rw [h2.1] at h3
  omega

theorem div_same (s : Bool) (X Y : Nat) (hY : 0 < Y) : (sv s X).fdiv (sv s Y) = sv false (X / Y) ∧ (sv s X).fmod (sv s Y) = sv s (X % Y) := by
  have h1 := Nat.mod_lt X hY
  have h2 : ((X % Y : Nat) : Int) + (Y : Int) * ((X / Y : Nat) : Int) = (X : Int) := by rw [← Int.natCast_mul, ← Int.natCast_add, Nat.mod_add_div]
  generalize X / Y = q at *
  generalize X % Y = r at *
  cases s with
  | false => exact fdiv_unique (by simp [sv]; omega) (by simpa [sv] using h2) (by simp [sv]) (by simp [sv]; omega)
  | true => exact fdiv_unique_neg (by simp [sv]; omega) (by simp only [sv, if_true, if_false, Bool.false_eq_true]; rw [Int.neg_mul]; omega) (by simp [sv]) (by simp [sv]; omega)

theorem div_exact (s t : Bool) (X Y : Nat) (hst : (s == t) = false) (hY : 0 < Y) (hr : X % Y = 0) : (sv s X).fdiv (sv t Y) = sv true (X / Y) ∧ (sv s X).fmod (sv t Y) = sv t (X % Y) := by
  have h2 : ((X % Y : Nat) : Int) + (Y : Int) * ((X / Y : Nat) : Int) = (X : Int) := by rw [← Int.natCast_mul, ← Int.natCast_add, Nat.mod_add_div]
  rw [hr] at h2 ⊢
  generalize X / Y = q at *
  cases t with
  | false =>
    cases s with
    | false => cases hst
    | true => exact fdiv_unique (by simp [sv]; omega) (by simp only [sv, if_true, if_false, Bool.false_eq_true]; rw [Int.mul_neg]; omega) (by simp [sv]) (by simp [sv]; omega)
  | true =>
    cases s with
    | true => cases hst
    | false => exact fdiv_unique_neg (by simp [sv]; omega) (by simp only [sv, if_true, if_false, Bool.false_eq_true]; rw [Int.mul_neg, Int.neg_mul]; omega) (by simp [sv]) (by simp [sv]; omega)

theorem div_rest (s t : Bool) (X Y : Nat) (hst : (s == t) = false) (hY : 0 < Y) (hr : 0 < X % Y) : (sv s X).fdiv (sv t Y) = sv true (X / Y + 1) ∧ (sv s X).fmod (sv t Y) = sv t (Y - X % Y) := by
  have h1 := Nat.mod_lt X hY
  have h2 : ((X % Y : Nat) : Int) + (Y : Int) * ((X / Y : Nat) : Int) = (X : Int) := by rw [← Int.natCast_mul, ← Int.natCast_add, Nat.mod_add_div]
  generalize X / Y = q at *
  generalize X % Y = r at *
  have h3 : ((Y - r : Nat) : Int) = (Y : Int) - (r : Int) := by omega
  have h4 : (Y : Int) * ((q + 1 : Nat) : Int) = (Y : Int) * (q : Int) + (Y : Int) := by rw [Int.natCast_add, Int.mul_add]; simp
  cases t with
  | false =>
    cases s with
    | false => cases hst
    | true => exact fdiv_unique (by simp [sv]; omega) (by simp only [sv, if_true, if_false, Bool.false_eq_true]; rw [Int.mul_neg, h4, h3]; omega) (by simp only [sv, if_false, Bool.false_eq_true]; omega) (by simp only [sv, if_false, Bool.false_eq_true]; omega)
  | true =>
    cases s with
    | true => cases hst
    | false => exact fdiv_unique_neg (by simp [sv]; omega) (by simp only [sv, if_true, if_false, Bool.false_eq_true]; rw [Int.mul_neg, Int.neg_mul, h4, h3]; omega) (by simp only [sv, if_true]; omega) (by simp only [sv, if_true]; omega)

theorem _root_.Go.RowKit.Below.drew_left {w w' : World} (h : Below w.drew.heap.size w.drew w') : Below w.heap.size w w' := ⟨h.os, h.tape, h.output, h.size, h.block⟩

theorem norm_len {ls : List Nat} (hn : Norm ls) (h : val 4294967296 ls < lim) : ls.length ≤ 32 := by
  rcases Nat.lt_or_ge 32 ls.length with h' | h'
  · exfalso
    have h8 := hn.ge (B := 4294967296) (List.ne_nil_of_length_pos (by omega)) (by decide)
    have h9 : 4294967296 ^ 32 ≤ 4294967296 ^ (ls.length - 1) := Nat.pow_le_pow_right (by decide) (by omega)
    have h10 : lim = 4294967296 ^ 32 := rfl
    omega
  · exact h'

theorem addLimbs_lim (v1 v2 : Value) (N1 N2 L1 L2 : Nat) (w : World) (h1 : LimR w v1 N1 L1) (h2 : LimR w v2 N2 L2) (hl1 : N1 < lim) (hl2 : N2 < lim) :
    Calls Tryz.prog 86 #[v1, v2] w fun e w' => ∃ v, e = .returned v ∧ LimR w' v (N1 + N2) 9001 ∧ Below w.heap.size w w' := by
  obtain ⟨a1, c1, l1, rfl, _, _, s1, d1, n1, rfl⟩ := h1
  obtain ⟨a2, c2, l2, rfl, _, _, s2, d2, n2, rfl⟩ := h2
  have e1 := norm_len n1 hl1
  have e2 := norm_len n2 hl2
  exact addLimbs_any a1 a2 l1.length l2.length c1 c2 l1 l2 w rfl rfl (by omega) (by omega) s1 s2 d1 d2

theorem subLimbs_lim (v1 v2 : Value) (N1 N2 L1 L2 : Nat) (w : World) (h1 : LimR w v1 N1 L1) (h2 : LimR w v2 N2 L2) (hl1 : N1 < lim) (hle : N2 ≤ N1) :
    Calls Tryz.prog 89 #[v1, v2] w fun e w' => ∃ v, e = .returned v ∧ LimR w' v (N1 - N2) 9001 ∧ Below w.heap.size w w' := by
  obtain ⟨a1, c1, l1, rfl, _, _, s1, d1, n1, rfl⟩ := h1
  obtain ⟨a2, c2, l2, rfl, _, _, s2, d2, n2, rfl⟩ := h2
  have e1 := norm_len n1 hl1
  have e2 : l2.length ≤ l1.length := by
    rcases Nat.lt_or_ge l1.length l2.length with h | h
    · have := val_lt_of_length d1 n2 (by decide) h; omega
    · exact h
  exact subLimbs_any a1 a2 l1.length l2.length c1 c2 l1 l2 w rfl rfl (by omega) e2 s1 s2 d1 d2 hle

theorem quot_lim (X Y : Nat) (hX : X < lim) (hY : 0 < Y) (hr : 0 < X % Y) : X / Y + 1 < lim := by
  have h1 := Nat.mod_lt X hY
  have h2 := Nat.mod_add_div X Y
  have h3 : 2 ≤ Y := by omega
  have h4 : 2 * (X / Y) ≤ Y * (X / Y) := Nat.mul_le_mul_right _ h3
  omega

set_option maxHeartbeats 8000000 in
theorem div_of (va vb : Value) (na nb : Bool) (xs ys : List Nat) (w : World) (hva : IntV w va na xs) (hvb : IntV w vb nb ys) (hxl : val 4294967296 xs < lim) (hyl : val 4294967296 ys < lim) (hy0 : 0 < ys.length) (hdc : DivC xs ys) :
    Calls Tryz.prog 122 #[va, vb] w fun e w' => ∃ vq vr, e = .returned (.tuple #[vq, vr, .int .i64 0]) ∧ AInt w' vq ((sv na (val 4294967296 xs)).fdiv (sv nb (val 4294967296 ys))) ∧ AInt w' vr ((sv na (val 4294967296 xs)).fmod (sv nb (val 4294967296 ys))) ∧ Below w.heap.size w w' := by
  have hl1 := AInt.len hva hxl
  have hl2 := AInt.len hvb hyl
  have HVB := hvb
  obtain ⟨ao, cap, rfl, h1, h2, hs, hd, hn, h3⟩ := hva
  obtain ⟨bo, cap', rfl, k1, k2, ks, kd, kn, k3⟩ := hvb
  have hYp := (kn.pos (B := 4294967296) (List.ne_nil_of_length_pos hy0)).resolve_right (by decide)
  have hsg : ((sv nb (val 4294967296 ys)).sign == 0) = false := by
    rw [beq_eq_false_iff_ne]
    intro e
    have := Int.sign_eq_zero_iff_zero.1 e
    have h4 := sv_natAbs nb (val 4294967296 ys)
    rw [this] at h4
    simp at h4
    omega
  have HDC : Hid (DivC xs ys) := hdc
  have HLM : Hid (val 4294967296 xs < lim ∧ val 4294967296 ys < lim ∧ 0 < val 4294967296 ys) := ⟨hxl, hyl, hYp⟩
  clear hdc hxl hyl h3 k3 hYp
  have A0 := (((Blk.new w 31 #[.bool na, .slice ao xs.length cap]).alloc (.cells #[.bool nb, .slice bo ys.length cap'] 31 (0, 0))).alloc (.cells #[.bool false, .slice none 0 0] 31 (0, 0))).alloc (.cells #[.bool false, .slice none 0 0] 31 (0, 0))
  have B0 := ((Blk.new (w.alloc (.cells #[.bool na, .slice ao xs.length cap] 31 (0, 0))) 31 #[.bool nb, .slice bo ys.length cap']).alloc (.cells #[.bool false, .slice none 0 0] 31 (0, 0))).alloc (.cells #[.bool false, .slice none 0 0] 31 (0, 0))
  have Q0 := (Blk.new ((w.alloc (.cells #[.bool na, .slice ao xs.length cap] 31 (0, 0))).alloc (.cells #[.bool nb, .slice bo ys.length cap'] 31 (0, 0))) 31 #[.bool false, .slice none 0 0]).alloc (.cells #[.bool false, .slice none 0 0] 31 (0, 0))
  have R0 := Blk.new (((w.alloc (.cells #[.bool na, .slice ao xs.length cap] 31 (0, 0))).alloc (.cells #[.bool nb, .slice bo ys.length cap'] 31 (0, 0))).alloc (.cells #[.bool false, .slice none 0 0] 31 (0, 0))) 31 #[.bool false, .slice none 0 0]
  simp only [World.size_alloc] at B0 Q0 R0
  have hbw0 : Below w.heap.size w ((((w.alloc (.cells #[.bool na, .slice ao xs.length cap] 31 (0, 0))).alloc (.cells #[.bool nb, .slice bo ys.length cap'] 31 (0, 0))).alloc (.cells #[.bool false, .slice none 0 0] 31 (0, 0))).alloc (.cells #[.bool false, .slice none 0 0] 31 (0, 0))) := by go_grown
  have HVB4 := HVB.below hbw0
  go_enter Tryz.func122, Tryz.ntmps122
  go_wp2_with fail
  refine (sign_any _ nb ys _ HVB4).mono ?_
  rintro e w1 ⟨rfl, hb1⟩
  have A1 := A0.stay hb1
  have B1 := B0.stay hb1
  have Q1 := Q0.stay hb1
  have R1 := R0.stay hb1
  obtain ⟨ca0, ca1, _, _⟩ := A1.two
  obtain ⟨cb0, cb1, _, _⟩ := B1.two
  have hbw1 := hbw0.step hb1 (Nat.le_refl _)
  go_wp2_with fail
  refine (HDC.out ao bo cap cap' _ (hs.below hbw1) (ks.below hbw1)).mono ?_
  rintro e w2 ⟨u1, u2, rfl, hu1, hu2, hb2⟩
  have AA := A1.stay hb2
  have BB := B1.stay hb2
  have QQ := Q1.stay hb2
  have RR := R1.stay hb2
  clear ca0 ca1 cb0 cb1 A0 B0 Q0 R0 A1 B1 Q1 R1 hbw0 HVB4 HVB
  obtain ⟨ca0, ca1, _, _⟩ := AA.two
  obtain ⟨cb0, cb1, _, _⟩ := BB.two
  have hbw := hbw1.step hb2 (Nat.le_refl _)
  have hks := ks.below hbw
  clear hb1 hb2 hbw1
  by_cases hst : (na == nb) = true
  · have HQV : Hid ((sv na (val 4294967296 xs)).fdiv (sv nb (val 4294967296 ys)) = sv false (val 4294967296 xs / val 4294967296 ys)) := by
      show _ = _
      have e : na = nb := by simpa using hst
      rw [e]; exact (div_same nb _ _ HLM.out.2.2).1
    have HRV : Hid ((sv na (val 4294967296 xs)).fmod (sv nb (val 4294967296 ys)) = sv nb (val 4294967296 xs % val 4294967296 ys)) := by
      show _ = _
      have e : na = nb := by simpa using hst
      rw [e]; exact (div_same nb _ _ HLM.out.2.2).2
    have HU1 : Hid (LimR w2.drew u1 (val 4294967296 xs / val 4294967296 ys) 9001 ∧ val 4294967296 xs / val 4294967296 ys < lim) := ⟨hu1, Nat.lt_of_le_of_lt (Nat.div_le_self _ _) HLM.out.1⟩
    have HU2 : Hid (LimR w2 u2 (val 4294967296 xs % val 4294967296 ys) 9001 ∧ val 4294967296 xs % val 4294967296 ys < lim) := ⟨hu2, Nat.lt_trans (Nat.mod_lt _ HLM.out.2.2) HLM.out.2.1⟩
    go_wp2
    go_region_held3 (fun w' => w'.cell? ⟨w.heap.size + 1, 0, none⟩ = some (.bool nb))
      (simp [*, go_sem])
      (first
        | (go_at_call_of 88 u1; refine (signed_lim false u1 _ 9001 _ HU1.out.1 (by decide) HU1.out.2).mono ?_; rintro e w7 ⟨v7, rfl, ha7, hb7⟩; have BB7 := BB.drew.stay hb7; have QQ7 := QQ.drew.stay hb7; have RR7 := RR.drew.stay hb7; obtain ⟨cb0, _, _, _⟩ := BB7.two)
        | (go_at_call_of 88 u2; refine (signed_lim nb u2 _ 9001 _ (HU2.out.1.below (Below.drew_left hb7)) (by decide) HU2.out.2).mono ?_; rintro e w8 ⟨v8, rfl, ha8, hb8⟩; have BB8 := BB7.stay hb8; obtain ⟨cd0, _, _, _⟩ := BB8.two; have ha7' := ha7.below hb8; obtain ⟨x7, a7, n7, c7, rfl⟩ := ha7'.shape; obtain ⟨x8, a8, n8, c8, rfl⟩ := ha8.shape; have QQ8 := QQ7.stay hb8; have RR8 := RR7.stay hb8; obtain ⟨q0, q1, qf0, qf1⟩ := QQ8.two; obtain ⟨s0, s1, sf0, sf1⟩ := RR8.two))
    go_wp2
    have RR9 : Blk 31 ((w8.setCell ⟨w.heap.size + 1 + 1, 0, none⟩ (.bool x7)).setCell ⟨w.heap.size + 1 + 1, 1, none⟩ (.slice a7 n7 c7)) (w.heap.size + 1 + 1 + 1) #[.bool false, .slice none 0 0] := (RR8.other (by simp) _).other (by simp) _
    refine bodyPost_ret (v := .tuple #[.agg #[.bool x7, .slice a7 n7 c7], .agg #[.bool x8, .slice a8 n8 c8], .int .i64 0]) (by simp [results, Tryz.results122, go_sem, q0, q1, s0, s1]) rfl ?_
    have hbE : Below w.heap.size w w8 := ((hbw.drew).step hb7 (Nat.le_refl _)).step hb8 (Nat.le_refl _)
    refine ⟨_, _, rfl, ?_, ?_, below_store2 (below_store2 hbE (by omega) _ _) (by omega) _ _⟩
    · rw [HQV.out]
      exact (ha7'.store2 QQ8 _ _ _ _).store2 RR9 _ _ _ _
    · rw [HRV.out]
      exact (ha8.store2 QQ8 _ _ _ _).store2 RR9 _ _ _ _

  · have hst' : (na == nb) = false := by simpa using hst
    have hu2' := hu2
    obtain ⟨a2, cp2, ls2, hue, l1, l2, hsg2, ld2, ln2, hv2⟩ := hu2'
    have hst2 := hst'
    by_cases hr0 : ls2.length ≤ 0
    · have hRz : val 4294967296 xs % val 4294967296 ys = 0 := by rw [← hv2, List.eq_nil_of_length_eq_zero (show ls2.length = 0 by omega)]; rfl
      have HQV : Hid ((sv na (val 4294967296 xs)).fdiv (sv nb (val 4294967296 ys)) = sv true (val 4294967296 xs / val 4294967296 ys)) := (div_exact na nb _ _ hst' HLM.out.2.2 hRz).1
      have HRV : Hid ((sv na (val 4294967296 xs)).fmod (sv nb (val 4294967296 ys)) = sv nb (val 4294967296 xs % val 4294967296 ys)) := (div_exact na nb _ _ hst' HLM.out.2.2 hRz).2
      subst hue
      have HU1 : Hid (LimR w2.drew u1 (val 4294967296 xs / val 4294967296 ys) 9001 ∧ val 4294967296 xs / val 4294967296 ys < lim) := ⟨hu1, Nat.lt_of_le_of_lt (Nat.div_le_self _ _) HLM.out.1⟩
      have HU2 : Hid (LimR w2 (Value.slice a2 ls2.length cp2) (val 4294967296 xs % val 4294967296 ys) 9001 ∧ val 4294967296 xs % val 4294967296 ys < lim) := ⟨hu2, Nat.lt_trans (Nat.mod_lt _ HLM.out.2.2) HLM.out.2.1⟩
      clear hv2 hRz hst hsg2 hu1 hu2
      go_wp2
      go_region_held3 (fun w' => w'.cell? ⟨w.heap.size + 1, 0, none⟩ = some (.bool nb))
        (simp [*, go_sem])
        (first
          | (go_at_call_of 88 u1; refine (signed_lim true u1 _ 9001 _ HU1.out.1 (by decide) HU1.out.2).mono ?_; rintro e w7 ⟨v7, rfl, ha7, hb7⟩; have BB7 := BB.drew.stay hb7; have QQ7 := QQ.drew.stay hb7; have RR7 := RR.drew.stay hb7; obtain ⟨cb0, _, _, _⟩ := BB7.two)
          | (go_at_call_of 88 (Value.slice a2 ls2.length cp2); refine (signed_lim nb (Value.slice a2 ls2.length cp2) _ 9001 _ (HU2.out.1.below (Below.drew_left hb7)) (by decide) HU2.out.2).mono ?_; rintro e w8 ⟨v8, rfl, ha8, hb8⟩; have BB8 := BB7.stay hb8; obtain ⟨cd0, _, _, _⟩ := BB8.two; have ha7' := ha7.below hb8; obtain ⟨x7, a7, n7, c7, rfl⟩ := ha7'.shape; obtain ⟨x8, a8, n8, c8, rfl⟩ := ha8.shape; have QQ8 := QQ7.stay hb8; have RR8 := RR7.stay hb8; obtain ⟨q0, q1, qf0, qf1⟩ := QQ8.two; obtain ⟨s0, s1, sf0, sf1⟩ := RR8.two))
      go_wp2
      have RR9 : Blk 31 ((w8.setCell ⟨w.heap.size + 1 + 1, 0, none⟩ (.bool x7)).setCell ⟨w.heap.size + 1 + 1, 1, none⟩ (.slice a7 n7 c7)) (w.heap.size + 1 + 1 + 1) #[.bool false, .slice none 0 0] := (RR8.other (by simp) _).other (by simp) _
      refine bodyPost_ret (v := .tuple #[.agg #[.bool x7, .slice a7 n7 c7], .agg #[.bool x8, .slice a8 n8 c8], .int .i64 0]) (by simp [results, Tryz.results122, go_sem, q0, q1, s0, s1]) rfl ?_
      have hbE : Below w.heap.size w w8 := ((hbw.drew).step hb7 (Nat.le_refl _)).step hb8 (Nat.le_refl _)
      refine ⟨_, _, rfl, ?_, ?_, below_store2 (below_store2 hbE (by omega) _ _) (by omega) _ _⟩
      · rw [HQV.out]
        exact (ha7'.store2 QQ8 _ _ _ _).store2 RR9 _ _ _ _
      · rw [HRV.out]
        exact (ha8.store2 QQ8 _ _ _ _).store2 RR9 _ _ _ _

    · have hRp : 0 < val 4294967296 xs % val 4294967296 ys := by
        rw [← hv2]; exact (ln2.pos (B := 4294967296) (List.ne_nil_of_length_pos (by omega))).resolve_right (by decide)
      have HQV : Hid ((sv na (val 4294967296 xs)).fdiv (sv nb (val 4294967296 ys)) = sv true (val 4294967296 xs / val 4294967296 ys + 1)) := (div_rest na nb _ _ hst' HLM.out.2.2 hRp).1
      have HRV : Hid ((sv na (val 4294967296 xs)).fmod (sv nb (val 4294967296 ys)) = sv nb (val 4294967296 ys - val 4294967296 xs % val 4294967296 ys)) := (div_rest na nb _ _ hst' HLM.out.2.2 hRp).2
      have HQL : Hid (val 4294967296 xs / val 4294967296 ys + 1 < lim) := quot_lim _ _ HLM.out.1 HLM.out.2.2 hRp
      subst hue
      have HU1 : Hid (LimR w2 u1 (val 4294967296 xs / val 4294967296 ys) 9001) := hu1
      have HU2 : Hid (LimR w2 (Value.slice a2 ls2.length cp2) (val 4294967296 xs % val 4294967296 ys) 9001) := hu2
      have HYY : Hid (LimR w2 (Value.slice bo ys.length cap') (val 4294967296 ys) 10000) := ⟨bo, cap', ys, rfl, k1, k2, hks, kd, kn, rfl⟩
      clear hv2 hRp hst hsg2 hu1 hu2
      go_wp2_with fail
      refine (splitWord_int 1 _ rfl _ (by decide)).mono ?_
      rintro e w3 ⟨o1, rfl, ho1, hb3⟩
      go_wp2_with fail
      refine (addLimbs_lim u1 o1 _ 1 9001 2 _ (HU1.out.below hb3) ho1 (by have := HQL.out; omega) (by have := word_lim; omega)).mono ?_
      rintro e w4 ⟨z1, rfl, hz1, hb4⟩
      have hb34 := hb3.step hb4 (Nat.le_refl _)
      have BB4 := BB.stay hb34
      clear cb0 cb1
      obtain ⟨cb0, cb1, _, _⟩ := BB4.two
      go_wp2_with fail
      refine (subLimbs_lim _ _ _ _ 10000 9001 _ (HYY.out.below hb34) (HU2.out.below hb34) HLM.out.2.1 (Nat.le_of_lt (Nat.mod_lt _ HLM.out.2.2))).mono ?_
      rintro e w5 ⟨z2, rfl, hz2, hb5⟩
      have hb35 := hb34.step hb5 (Nat.le_refl _)
      have BB5 := BB.stay hb35
      have QQ5 := QQ.stay hb35
      have RR5 := RR.stay hb35
      have hbw5 := hbw.step hb35 (Nat.le_refl _)
      clear cb0 cb1
      obtain ⟨cb0, cb1, _, _⟩ := BB5.two
      have HU1 : Hid (LimR w5.drew z1 (val 4294967296 xs / val 4294967296 ys + 1) 9001 ∧ val 4294967296 xs / val 4294967296 ys + 1 < lim) := ⟨hz1.below hb5.drew, HQL.out⟩
      have HU2 : Hid (LimR w5 z2 (val 4294967296 ys - val 4294967296 xs % val 4294967296 ys) 9001 ∧ val 4294967296 ys - val 4294967296 xs % val 4294967296 ys < lim) := ⟨hz2, Nat.lt_of_le_of_lt (Nat.sub_le _ _) HLM.out.2.1⟩
      clear hz1 hz2 hb3 hb4 hb5 hb34 hb35 BB4
      go_wp2
      go_region_held3 (fun w' => w'.cell? ⟨w.heap.size + 1, 0, none⟩ = some (.bool nb))
        (simp [*, go_sem])
        (first
          | (go_at_call_of 88 z1; refine (signed_lim true z1 _ 9001 _ HU1.out.1 (by decide) HU1.out.2).mono ?_; rintro e w7 ⟨v7, rfl, ha7, hb7⟩; have BB7 := BB5.drew.stay hb7; have QQ7 := QQ5.drew.stay hb7; have RR7 := RR5.drew.stay hb7; obtain ⟨cb0, _, _, _⟩ := BB7.two)
          | (go_at_call_of 88 z2; refine (signed_lim nb z2 _ 9001 _ (HU2.out.1.below (Below.drew_left hb7)) (by decide) HU2.out.2).mono ?_; rintro e w8 ⟨v8, rfl, ha8, hb8⟩; have BB8 := BB7.stay hb8; obtain ⟨cd0, _, _, _⟩ := BB8.two; have ha7' := ha7.below hb8; obtain ⟨x7, a7, n7, c7, rfl⟩ := ha7'.shape; obtain ⟨x8, a8, n8, c8, rfl⟩ := ha8.shape; have QQ8 := QQ7.stay hb8; have RR8 := RR7.stay hb8; obtain ⟨q0, q1, qf0, qf1⟩ := QQ8.two; obtain ⟨s0, s1, sf0, sf1⟩ := RR8.two))
      go_wp2
      have RR9 : Blk 31 ((w8.setCell ⟨w.heap.size + 1 + 1, 0, none⟩ (.bool x7)).setCell ⟨w.heap.size + 1 + 1, 1, none⟩ (.slice a7 n7 c7)) (w.heap.size + 1 + 1 + 1) #[.bool false, .slice none 0 0] := (RR8.other (by simp) _).other (by simp) _
      refine bodyPost_ret (v := .tuple #[.agg #[.bool x7, .slice a7 n7 c7], .agg #[.bool x8, .slice a8 n8 c8], .int .i64 0]) (by simp [results, Tryz.results122, go_sem, q0, q1, s0, s1]) rfl ?_
      have hbE : Below w.heap.size w w8 := ((hbw5.drew).step hb7 (Nat.le_refl _)).step hb8 (Nat.le_refl _)
      refine ⟨_, _, rfl, ?_, ?_, below_store2 (below_store2 hbE (by omega) _ _) (by omega) _ _⟩
      · rw [HQV.out]
        exact (ha7'.store2 QQ8 _ _ _ _).store2 RR9 _ _ _ _
      · rw [HRV.out]
        exact (ha8.store2 QQ8 _ _ _ _).store2 RR9 _ _ _ _

end Go.Proofs.YteefniagebcagaaGreatDoor
/- Contract of arith.Gcd at numbers of at most two limbs; it proves no statement of the seat. -/
namespace Go.Proofs.YteefniagebcagaaGreatDoor
open Go.RowKit

theorem two_limbs {xs : List Nat} (hd : Digs 4294967296 xs) (hl : xs.length ≤ 2) : val 4294967296 xs < 18446744073709551616 := by
  have h1 := val_lt hd
  have h2 : 4294967296 ^ xs.length ≤ 4294967296 ^ 2 := Nat.pow_le_pow_right (by decide) hl
  omega

end Go.Proofs.YteefniagebcagaaGreatDoor
