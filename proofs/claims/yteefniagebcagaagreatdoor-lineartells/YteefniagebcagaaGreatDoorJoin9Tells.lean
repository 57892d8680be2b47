/- Joined: Keep, Pars, Ints3, Ints4: words and contracts; no statement of the seat is proved here. -/
import Derived.Test.YteefniagebcagaaGreatDoorJoin6Tells
import Derived.Test.YteefniagebcagaaGreatDoorJoin8Tells
import Derived.Deep.DeepCutAuto
/- Words for regions that draw their order, and contracts of arith's calls at small numbers; they prove no statement of the seat. -/
namespace Go.Proofs.YteefniagebcagaaGreatDoor
open Go.RowKit

theorem text_a (v : Value) (z : Int) (w : World) (hv : AInt w v z) :
    Calls Tryz.prog 31 #[v] w fun e w' => ∃ S, e = .returned (.string S) ∧ TextOf S z ∧ Below w.heap.size w w' := by
  obtain ⟨neg, xs, h1, h2, h3⟩ := hv
  rw [h2]
  exact text_any v neg xs w h1 (by have := AInt.len h1 h3; omega)

theorem keepc {p q : Prop} {W0 W w' : World} (hS : p ∧ q ∧ Below W0.heap.size W0 W) (hb : Below W.heap.size W w') : Below W0.heap.size W0 w' := hS.2.2.step hb (Nat.le_refl _)

end Go.Proofs.YteefniagebcagaaGreatDoor
/- Both Parses at one text: the same code, the same number; it proves no statement of the seat. -/
namespace Go.Proofs.YteefniagebcagaaGreatDoor
open Go.RowKit

end Go.Proofs.YteefniagebcagaaGreatDoor
/- Contracts of arith's Neg, Abs, Cmp; they prove no statement of the seat. -/
namespace Go.Proofs.YteefniagebcagaaGreatDoor
open Go.RowKit

theorem sv_not (n : Bool) (m : Nat) : sv (!n) m = - sv n m := by cases n <;> simp [sv]

/-- arith's copied, of limbs without noughts at their end. -/
theorem copied_lim (v : Value) (N L : Nat) (w : World) (hv : LimR w v N L) (hN : N < lim) :
    Calls Tryz.prog 100 #[v] w fun e w' => ∃ v', e = .returned v' ∧ LimR w' v' N 9001 ∧ Below w.heap.size w w' := by
  obtain ⟨ao, cap, ls, rfl, h1, h2, hs, hd, hn, rfl⟩ := hv
  have hl := norm_len hn hN
  refine (copied_any ao ls.length cap ls w rfl (by omega) hs).mono ?_
  rintro e w' ⟨rfl, hr, hb, _⟩
  exact ⟨_, rfl, LimR.all hr hd hn 9001 (by omega), hb⟩

set_option maxHeartbeats 4000000 in
theorem neg_any (va : Value) (x : Int) (w : World) (ha : AInt w va x) :
    Calls Tryz.prog 61 #[va] w fun e w' => ∃ v, e = .returned v ∧ AInt w' v (-x) ∧ Below w.heap.size w w' := by
  obtain ⟨na, xs, hva, hxe, hxl⟩ := ha
  obtain ⟨ao, cap, rfl, h1, h2, hs, hd, hn, h3⟩ := hva
  have HX : Hid (-x = sv (!na) (val 4294967296 xs) ∧ val 4294967296 xs < lim) := ⟨by rw [sv_not, hxe], hxl⟩
  clear hxe hxl h3
  have A0 := (Blk.new w 31 #[.bool na, .slice ao xs.length cap]).alloc (.cells #[.bool false, .slice none 0 0] 31 (0, 0))
  have R0 := Blk.new (w.alloc (.cells #[.bool na, .slice ao xs.length cap] 31 (0, 0))) 31 #[.bool false, .slice none 0 0]
  simp only [World.size_alloc] at R0
  have hbw : Below w.heap.size w ((w.alloc (.cells #[.bool na, .slice ao xs.length cap] 31 (0, 0))).alloc (.cells #[.bool false, .slice none 0 0] 31 (0, 0))) := by go_grown
  have HL : Hid (LimR ((w.alloc (.cells #[.bool na, .slice ao xs.length cap] 31 (0, 0))).alloc (.cells #[.bool false, .slice none 0 0] 31 (0, 0))).drew (.slice ao xs.length cap) (val 4294967296 xs) 10000) := ⟨ao, cap, xs, rfl, h1, h2, hs.below hbw.drew, hd, hn, rfl⟩
  go_enter Tryz.func61, Tryz.ntmps61
  go_wp2
  go_region_held3 (fun w' => w'.cell? ⟨w.heap.size, 0, none⟩ = some (.bool na) ∧ w'.cell? ⟨w.heap.size, 1, none⟩ = some (.slice ao xs.length cap))
    (simp [*, go_sem])
    (first
      | (go_at_call 100; refine (copied_lim _ _ 10000 _ HL.out HX.out.2).mono ?_; rintro e w1 ⟨v1, rfl, hl, hb1⟩; have A1 := A0.drew.stay hb1; have R1 := R0.drew.stay hb1; obtain ⟨ca0, ca1, _, _⟩ := A1.two)
      | (go_at_call 88; refine (signed_lim _ v1 _ 9001 _ hl (by decide) HX.out.2).mono ?_; rintro e w2 ⟨v2, rfl, ha2, hb2⟩; obtain ⟨xx, aa, nn, cc, rfl⟩ := ha2.shape; obtain ⟨da0, da1, _, _⟩ := (A1.stay hb2).two; have R2 := R1.stay hb2; obtain ⟨r0, r1, q0, q1⟩ := R2.two))
  go_wp2
  refine bodyPost_ret (v := .agg #[.bool xx, .slice aa nn cc]) (by simp [results, Tryz.results61, go_sem, r0, r1]) rfl ?_
  refine ⟨_, rfl, ?_, below_store2 (((hbw.drew).step hb1 (Nat.le_refl _)).step hb2 (Nat.le_refl _)) (by omega) _ _⟩
  rw [HX.out.1]
  exact ha2.store2 R2 _ _ _ _

end Go.Proofs.YteefniagebcagaaGreatDoor
/- Contracts of arith's Add and Sub; they prove no statement of the seat. -/
namespace Go.Proofs.YteefniagebcagaaGreatDoor
open Go.RowKit

theorem sv_add (n : Bool) (a b : Nat) : sv n a + sv n b = sv n (a + b) := by cases n <;> simp [sv] <;> omega
theorem sv_diff (n m : Bool) (a b : Nat) (h : (n == m) = false) (hle : b ≤ a) : sv n a + sv m b = sv n (a - b) := by
  cases n <;> cases m <;> simp [sv] at h ⊢ <;> omega
theorem sv_diff' (n m : Bool) (a b : Nat) (h : (n == m) = false) (hle : a ≤ b) : sv n a + sv m b = sv m (b - a) := by
  cases n <;> cases m <;> simp [sv] at h ⊢ <;> omega

set_option maxHeartbeats 8000000 in
theorem add_any (va vb : Value) (x y : Int) (w : World) (ha : AInt w va x) (hb : AInt w vb y) :
    Calls Tryz.prog 50 #[va, vb] w fun e w' => ∃ v c, e = .returned (.tuple #[v, .int .i64 c]) ∧ Held w' v c (x + y) ∧ Below w.heap.size w w' := by
  obtain ⟨na, xs, hva, hxe, hxl⟩ := ha
  obtain ⟨nb, ys, hvb, hye, hyl⟩ := hb
  have hl1 := AInt.len hva hxl
  have hl2 := AInt.len hvb hyl
  obtain ⟨ao, cap, rfl, h1, h2, hs, hd, hn, h3⟩ := hva
  obtain ⟨bo, cap', rfl, k1, k2, ks, kd, kn, k3⟩ := hvb
  have HE : Hid (x + y = sv na (val 4294967296 xs) + sv nb (val 4294967296 ys) ∧ val 4294967296 xs < lim ∧ val 4294967296 ys < lim) := ⟨by rw [hxe, hye], hxl, hyl⟩
  clear hxe hye hxl hyl h3 k3
  have A0 := ((Blk.new w 31 #[.bool na, .slice ao xs.length cap]).alloc (.cells #[.bool nb, .slice bo ys.length cap'] 31 (0, 0))).alloc (.cells #[.bool false, .slice none 0 0] 31 (0, 0))
  have B0 := (Blk.new (w.alloc (.cells #[.bool na, .slice ao xs.length cap] 31 (0, 0))) 31 #[.bool nb, .slice bo ys.length cap']).alloc (.cells #[.bool false, .slice none 0 0] 31 (0, 0))
  have R0 := Blk.new ((w.alloc (.cells #[.bool na, .slice ao xs.length cap] 31 (0, 0))).alloc (.cells #[.bool nb, .slice bo ys.length cap'] 31 (0, 0))) 31 #[.bool false, .slice none 0 0]
  simp only [World.size_alloc] at B0 R0
  have hbw : Below w.heap.size w (((w.alloc (.cells #[.bool na, .slice ao xs.length cap] 31 (0, 0))).alloc (.cells #[.bool nb, .slice bo ys.length cap'] 31 (0, 0))).alloc (.cells #[.bool false, .slice none 0 0] 31 (0, 0))) := by go_grown
  by_cases hst : (na == nb) = true
  · have HXY : Hid (x + y = sv na (val 4294967296 xs + val 4294967296 ys)) := by
      show _ = _
      have e : na = nb := by simpa using hst
      rw [HE.out.1, ← e, sv_add]
    go_enter Tryz.func50, Tryz.ntmps50
    go_wp2
    go_region_held3 (fun w' => w'.cell? ⟨w.heap.size, 0, none⟩ = some (.bool na) ∧ w'.cell? ⟨w.heap.size, 1, none⟩ = some (.slice ao xs.length cap) ∧ w'.cell? ⟨w.heap.size + 1, 0, none⟩ = some (.bool nb) ∧ w'.cell? ⟨w.heap.size + 1, 1, none⟩ = some (.slice bo ys.length cap'))
      (simp [*, go_sem])
      (first
        | (go_at_call 86; refine (addLimbs_any ao bo xs.length ys.length cap cap' xs ys _ rfl rfl (by omega) (by omega) (hs.below hbw.drew) (ks.below hbw.drew) hd kd).mono ?_; rintro e w1 ⟨v1, rfl, hl, hb1⟩; have A1 := A0.drew.stay hb1; have B1 := B0.drew.stay hb1; have R1 := R0.drew.stay hb1; obtain ⟨ca0, ca1, _, _⟩ := A1.two; obtain ⟨cb0, cb1, _, _⟩ := B1.two)
        | (go_at_call 85; refine (fitting_lim _ v1 _ 9001 _ hl (by decide)).mono ?_; rintro e w2 ⟨v2, c, rfl, hheld, hb2⟩; obtain ⟨xx, aa, nn, cc, rfl⟩ := hheld.shape; obtain ⟨da0, da1, _, _⟩ := (A1.stay hb2).two; obtain ⟨db0, db1, _, _⟩ := (B1.stay hb2).two; have R2 := R1.stay hb2; obtain ⟨r0, r1, q0, q1⟩ := R2.two))
    go_wp2
    refine bodyPost_ret (v := .tuple #[.agg #[.bool xx, .slice aa nn cc], .int .i64 c]) (by simp [results, Tryz.results50, go_sem, r0, r1]) rfl ?_
    refine ⟨_, _, rfl, ?_, below_store2 (((hbw.drew).step hb1 (Nat.le_refl _)).step hb2 (Nat.le_refl _)) (by omega) _ _⟩
    rw [HXY.out]
    exact hheld.store2 R2 _ _ _ _
  · have hst' : (na == nb) = false := by simpa using hst
    clear hst
    by_cases hlt : val 4294967296 xs < val 4294967296 ys
    · have hc : cmpL 4294967296 xs ys < 0 := (cmpL_neg (by decide) hd kd hn kn).2 hlt
      have HXY : Hid (x + y = sv nb (val 4294967296 ys - val 4294967296 xs)) := by show _ = _; rw [HE.out.1, sv_diff' _ _ _ _ hst' (Nat.le_of_lt hlt)]
      have HLM : Hid (val 4294967296 ys - val 4294967296 xs < lim) := Nat.lt_of_le_of_lt (Nat.sub_le _ _) HE.out.2.2
      have HLT : Hid (val 4294967296 xs < val 4294967296 ys) := hlt
      clear hlt
      go_enter Tryz.func50, Tryz.ntmps50
      go_wp2_with (go_at_call 87; refine (cmpLimbs_any ao bo xs.length ys.length cap cap' xs ys _ rfl rfl (by omega) (by omega) (hs.below hbw) (ks.below hbw) hd kd).mono ?_; rintro e w5 ⟨rfl, hb5⟩; have A5 := A0.stay hb5; have B5 := B0.stay hb5; have R5 := R0.stay hb5; have hbw5 := hbw.step hb5 (Nat.le_refl _); obtain ⟨_, _, _, _⟩ := A5.two; obtain ⟨_, _, _, _⟩ := B5.two)
      have HLX : Hid (LimR w5.drew (.slice ao xs.length cap) (val 4294967296 xs) 10000) := ⟨ao, cap, xs, rfl, h1, h2, hs.below hbw5.drew, hd, hn, rfl⟩
      have HLY : Hid (LimR w5.drew (.slice bo ys.length cap') (val 4294967296 ys) 10000) := ⟨bo, cap', ys, rfl, k1, k2, ks.below hbw5.drew, kd, kn, rfl⟩
      go_region_held3 (fun w' => w'.cell? ⟨w.heap.size, 0, none⟩ = some (.bool na) ∧ w'.cell? ⟨w.heap.size, 1, none⟩ = some (.slice ao xs.length cap) ∧ w'.cell? ⟨w.heap.size + 1, 0, none⟩ = some (.bool nb) ∧ w'.cell? ⟨w.heap.size + 1, 1, none⟩ = some (.slice bo ys.length cap'))
        (simp [*, go_sem])
        (first
          | (go_at_call 89; refine (subLimbs_lim _ _ _ _ 10000 10000 _ HLY.out HLX.out HE.out.2.2 (Nat.le_of_lt HLT.out)).mono ?_; rintro e w1 ⟨v1, rfl, hl, hb1⟩; have A1 := A5.drew.stay hb1; have B1 := B5.drew.stay hb1; have R1 := R5.drew.stay hb1; obtain ⟨ca0, ca1, _, _⟩ := A1.two; obtain ⟨cb0, cb1, _, _⟩ := B1.two)
          | (go_at_call 88; refine (signed_lim nb v1 _ 9001 _ hl (by decide) HLM.out).mono ?_; rintro e w2 ⟨v2, rfl, ha2, hb2⟩; obtain ⟨xx, aa, nn, cc, rfl⟩ := ha2.shape; obtain ⟨da0, da1, _, _⟩ := (A1.stay hb2).two; obtain ⟨db0, db1, _, _⟩ := (B1.stay hb2).two; have R2 := R1.stay hb2; obtain ⟨r0, r1, q0, q1⟩ := R2.two))
      go_wp2
      refine bodyPost_ret (v := .tuple #[.agg #[.bool xx, .slice aa nn cc], .int .i64 0]) (by simp [results, Tryz.results50, go_sem, r0, r1]) rfl ?_
      refine ⟨_, _, rfl, Or.inl ⟨rfl, by rw [HXY.out, sv_natAbs]; exact HLM.out, ?_⟩, below_store2 (((hbw5.drew).step hb1 (Nat.le_refl _)).step hb2 (Nat.le_refl _)) (by omega) _ _⟩
      rw [HXY.out]
      exact ha2.store2 R2 _ _ _ _
    · have hc : ¬ cmpL 4294967296 xs ys < 0 := fun h => hlt ((cmpL_neg (by decide) hd kd hn kn).1 h)
      have HXY : Hid (x + y = sv na (val 4294967296 xs - val 4294967296 ys)) := by show _ = _; rw [HE.out.1, sv_diff _ _ _ _ hst' (by omega)]
      have HLM : Hid (val 4294967296 xs - val 4294967296 ys < lim) := Nat.lt_of_le_of_lt (Nat.sub_le _ _) HE.out.2.1
      have HLT : Hid (val 4294967296 ys ≤ val 4294967296 xs) := Nat.le_of_not_lt hlt
      clear hlt
      go_enter Tryz.func50, Tryz.ntmps50
      go_wp2_with (go_at_call 87; refine (cmpLimbs_any ao bo xs.length ys.length cap cap' xs ys _ rfl rfl (by omega) (by omega) (hs.below hbw) (ks.below hbw) hd kd).mono ?_; rintro e w5 ⟨rfl, hb5⟩; have A5 := A0.stay hb5; have B5 := B0.stay hb5; have R5 := R0.stay hb5; have hbw5 := hbw.step hb5 (Nat.le_refl _); obtain ⟨_, _, _, _⟩ := A5.two; obtain ⟨_, _, _, _⟩ := B5.two)
      have HLX : Hid (LimR w5.drew (.slice ao xs.length cap) (val 4294967296 xs) 10000) := ⟨ao, cap, xs, rfl, h1, h2, hs.below hbw5.drew, hd, hn, rfl⟩
      have HLY : Hid (LimR w5.drew (.slice bo ys.length cap') (val 4294967296 ys) 10000) := ⟨bo, cap', ys, rfl, k1, k2, ks.below hbw5.drew, kd, kn, rfl⟩
      go_region_held3 (fun w' => w'.cell? ⟨w.heap.size, 0, none⟩ = some (.bool na) ∧ w'.cell? ⟨w.heap.size, 1, none⟩ = some (.slice ao xs.length cap) ∧ w'.cell? ⟨w.heap.size + 1, 0, none⟩ = some (.bool nb) ∧ w'.cell? ⟨w.heap.size + 1, 1, none⟩ = some (.slice bo ys.length cap'))
        (simp [*, go_sem])
        (first
          | (go_at_call 89; refine (subLimbs_lim _ _ _ _ 10000 10000 _ HLX.out HLY.out HE.out.2.1 HLT.out).mono ?_; rintro e w1 ⟨v1, rfl, hl, hb1⟩; have A1 := A5.drew.stay hb1; have B1 := B5.drew.stay hb1; have R1 := R5.drew.stay hb1; obtain ⟨ca0, ca1, _, _⟩ := A1.two; obtain ⟨cb0, cb1, _, _⟩ := B1.two)
          | (go_at_call 88; refine (signed_lim na v1 _ 9001 _ hl (by decide) HLM.out).mono ?_; rintro e w2 ⟨v2, rfl, ha2, hb2⟩; obtain ⟨xx, aa, nn, cc, rfl⟩ := ha2.shape; obtain ⟨da0, da1, _, _⟩ := (A1.stay hb2).two; obtain ⟨db0, db1, _, _⟩ := (B1.stay hb2).two; have R2 := R1.stay hb2; obtain ⟨r0, r1, q0, q1⟩ := R2.two))
      go_wp2
      refine bodyPost_ret (v := .tuple #[.agg #[.bool xx, .slice aa nn cc], .int .i64 0]) (by simp [results, Tryz.results50, go_sem, r0, r1]) rfl ?_
      refine ⟨_, _, rfl, Or.inl ⟨rfl, by rw [HXY.out, sv_natAbs]; exact HLM.out, ?_⟩, below_store2 (((hbw5.drew).step hb1 (Nat.le_refl _)).step hb2 (Nat.le_refl _)) (by omega) _ _⟩
      rw [HXY.out]
      exact ha2.store2 R2 _ _ _ _

end Go.Proofs.YteefniagebcagaaGreatDoor
