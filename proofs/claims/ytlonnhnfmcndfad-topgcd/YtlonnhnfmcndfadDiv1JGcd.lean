/- Contract of arith.divLimbs where the divisor is greater or has one limb; it proves no statement of the seat. -/
import Derived.Test.YtlonnhnfmcndfadInts2JGcd
namespace Go.Proofs.Ytlonnhnfmcndfad
open Go.RowKit

/-- What arith.divLimbs answers: the quotient and the rest. -/
def DivC (xs ys : List Nat) : Prop := ∀ (ao bo : Option Addr) (cap cap' : Nat) (w : World), Seg .u32 w ao xs → Seg .u32 w bo ys →
  Calls Try.prog 36 #[.slice ao xs.length cap, .slice bo ys.length cap'] w fun e w' => ∃ v1 v2, e = .returned (.tuple #[v1, v2]) ∧ LimR w' v1 (val 4294967296 xs / val 4294967296 ys) 9001 ∧ LimR w' v2 (val 4294967296 xs % val 4294967296 ys) 9001 ∧ Below w.heap.size w w'

theorem LimR.all {t : TypeId} {w : World} {g : Nat} {zs : List Nat} (h : Row .u32 t w g zs) (hd : Digs 4294967296 zs) (hn : Norm zs) (L : Nat) (hL : zs.length ≤ L) : LimR w (.slice (some ⟨g, 0, none⟩) zs.length zs.length) (val 4294967296 zs) L :=
  ⟨_, _, zs, rfl, Nat.le_refl _, hL, h.all, hd, hn, rfl⟩
theorem LimR.nil (w : World) (L : Nat) : LimR w (.slice none 0 0) 0 L := ⟨none, 0, [], rfl, Nat.le_refl _, Nat.zero_le _, Seg.nil _ _ _, Digs.nil _, Norm.nil, rfl⟩

theorem cmpL_neg {B : Nat} {xs ys : List Nat} (hB : 0 < B) (hx : Digs B xs) (hy : Digs B ys) (nx : Norm xs) (ny : Norm ys) : cmpL B xs ys < 0 ↔ val B xs < val B ys := by
  rw [cmpL_norm hB hx hy nx ny, Int.sign_neg_iff]
  omega

set_option maxHeartbeats 1000000 in
theorem divLimbs_less (xs ys : List Nat) (hl : xs.length ≤ 9000) (hl' : ys.length ≤ 9000) (hdx : Digs 4294967296 xs) (hdy : Digs 4294967296 ys) (nx : Norm xs) (ny : Norm ys) (hlt : val 4294967296 xs < val 4294967296 ys) : DivC xs ys := by
  intro ao bo cap cap' w hs ht
  have hc : cmpL 4294967296 xs ys < 0 := (cmpL_neg (by decide) hdx hdy nx ny).2 hlt
  have HL : Hid (val 4294967296 xs < val 4294967296 ys) := hlt
  clear hlt
  go_enter Try.func36, Try.ntmps36
  go_wp2_with fail
  refine (cmpLimbs_any ao bo xs.length ys.length cap cap' xs ys _ rfl rfl (by omega) (by omega) hs ht hdx hdy).mono ?_
  rintro e w1 ⟨rfl, hb1⟩
  go_wp2_with (go_at_call 35; refine (copied_any ao xs.length cap xs _ rfl (by omega) (hs.below hb1)).mono ?_; rintro e w2 ⟨rfl, hr2, hb2, _⟩)
  go_ret2
  refine ⟨_, _, rfl, ?_, ?_, hb1.step hb2 (Nat.le_refl _)⟩
  · rw [Nat.div_eq_of_lt HL.out]; exact LimR.nil _ _
  · rw [Nat.mod_eq_of_lt HL.out]; exact LimR.all hr2 hdx nx 9001 (by omega)

theorem drop_none (xs : List Nat) (n : Nat) (h : xs.length = n) : xs.drop n = [] := by rw [← h, List.drop_length]

set_option maxHeartbeats 1000000 in
theorem divLimbs_one (xs ys : List Nat) (hl : xs.length ≤ 9000) (hl' : ys.length = 1) (hdx : Digs 4294967296 xs) (hdy : Digs 4294967296 ys) (nx : Norm xs) (ny : Norm ys) (hge : val 4294967296 ys ≤ val 4294967296 xs) : DivC xs ys := by
  intro ao bo cap cap' w hs ht
  have hc : ¬ cmpL 4294967296 xs ys < 0 := fun h => by have := (cmpL_neg (by decide) hdx hdy nx ny).1 h; omega
  obtain ⟨b, off, rfl, hcs⟩ := ht.open 0 (by omega)
  have hc0 := hcs 0 (by omega)
  obtain ⟨y, hy⟩ : ∃ y, y = ys.getD 0 0 := ⟨_, rfl⟩
  rw [← hy, Nat.add_zero] at hc0
  have hyl : y < 4294967296 := hy ▸ hdy.getD (by decide) 0
  have hy0 : 0 < y := by
    have := ny.last (by omega)
    rw [hl'] at this
    rw [hy]; exact Nat.pos_of_ne_zero this
  have HYV : Hid (val 4294967296 ys = y) := by
    show _ = _
    match ys, hl', hy with
    | [z], _, hy => simp at hy; simp [val, hy]
  have hbw : b < w.heap.size := World.block_lt_of_cell? w ⟨b, off, none⟩ hc0
  have HLY : Hid (ys.length = 1) := hl'
  have hone : (((ys.length : Nat) : Int) == 1) = true := by rw [beq_iff_eq]; omega
  clear hcs hy hl' hge
  go_enter Try.func36, Try.ntmps36
  go_wp2_with fail
  refine (cmpLimbs_any ao _ xs.length ys.length cap cap' xs ys _ rfl rfl (by omega) (by have := HLY.out; omega) hs ht hdx hdy).mono ?_
  rintro e w1 ⟨rfl, hb1⟩
  go_wp2_with fail
  refine (copied_any ao xs.length cap xs _ rfl (by omega) (hs.below hb1)).mono ?_
  rintro e w2 ⟨rfl, hr2, hb2, _⟩
  have hb12 := hb1.step hb2 (Nat.le_refl _)
  have hcell : w2.cell? ⟨b, off, none⟩ = some (.int .u32 y) := (hb12.cell (p := ⟨b, off, none⟩) hbw).trans hc0
  have hyn : 0 < ys.length := by have := HLY.out; omega
  go_wp2_with fail
  refine (shrinkLimbs_any w1.heap.size xs.length xs.length y xs _ (Nat.le_refl _) (by omega) hr2 hdx hy0 hyl).mono ?_
  rintro e w3 ⟨r, qs, rfl, hr, hql, hqd, hqv, hr3, honly⟩
  rw [List.take_length] at hqv
  rw [drop_none xs _ rfl, List.append_nil] at hr3
  have HQ : Hid (qs.length = xs.length ∧ val 4294967296 xs = val 4294967296 qs * y + r) := ⟨hql, hqv⟩
  clear hql hqv
  go_wp2_with fail
  refine (trimmed_any (some ⟨w1.heap.size, 0, none⟩) xs.length xs.length qs _ HQ.out.1 (Nat.le_refl _) (by unfold maxLen; omega) hr3.all).mono ?_
  rintro e w3' ⟨rfl, rfl⟩
  go_wp2_with fail
  have hr4 := Row.new w3' .u32 114 [r]
  refine (trimmed_any (some ⟨w3'.heap.size, 0, none⟩) 1 1 [r] _ rfl (Nat.le_refl _) (by unfold maxLen; omega) hr4.all).mono ?_
  rintro e w4 ⟨rfl, rfl⟩
  go_wp2
  go_ret2
  have e1 : val 4294967296 xs / val 4294967296 ys = val 4294967296 qs := by
    rw [HYV.out, HQ.out.2, Nat.mul_comm, Nat.mul_add_div hy0, Nat.div_eq_of_lt hr, Nat.add_zero]
  have e2 : val 4294967296 xs % val 4294967296 ys = val 4294967296 [r] := by
    rw [HYV.out, HQ.out.2, Nat.mul_comm, Nat.mul_add_mod, Nat.mod_eq_of_lt hr]; simp [val]
  have hb3 : Below w.heap.size w w3' := hb12.trans (honly.below hb1.size)
  refine ⟨_, _, rfl, ?_, ?_, hb3.alloc hb3.size _⟩
  · rw [e1]
    exact (LimR.row hr3 hqd xs.length 9001 (by rw [HQ.out.1]; exact Nat.le_refl _) (by omega)).below ((Below.refl _ _).alloc (Nat.le_refl _) _)
  · rw [e2]
    exact LimR.row hr4 (Digs.cons (by omega) (Digs.nil _)) 1 9001 (Nat.le_refl _) (by decide)
end Go.Proofs.Ytlonnhnfmcndfad
