/- Joined: Pow, RPow, RAdd, RSum: words and contracts; no statement of the seat is proved here. -/
import Derived.Test.YteefniagebcagaaGreatDoorJoin12Tells
import Derived.Test.YteefniagebcagaaGreatDoorJoin18Tells
import Derived.Test.YteefniagebcagaaGreatDoorJoin11Tells
import Derived.Test.YteefniagebcagaaGreatDoorJoin17Tells
/- Contract of arith.Pow; it proves no statement of the seat. -/
namespace Go.Proofs.YteefniagebcagaaGreatDoor
open Go.RowKit

end Go.Proofs.YteefniagebcagaaGreatDoor
/- Contracts of suretyref01's TooBig, Held and Pow by the numbers; they prove no statement of the seat. -/
namespace Go.Proofs.YteefniagebcagaaGreatDoor
open Go.RowKit

theorem RNum.short {w : World} {v : Value} {z : Int} {L : Nat} (h : RNum w v z L) (hz : z.natAbs < lim) : RNum w v z 400 := by
  obtain ⟨neg, ds, h1, h2, h3⟩ := h
  refine ⟨neg, ds, h1, h2, ?_⟩
  obtain ⟨_, _, _, _, _, _, _, hd, hn, _⟩ := h1
  rw [h2, sv_natAbs] at hz
  rcases Nat.lt_or_ge 309 ds.length with k | k
  · have := toobig_long hn k; omega
  · omega

theorem toobig_r (v : Value) (z : Int) (L : Nat) (b : Bool) (w : World) (hv : RNum w v z L) (hL : L ≤ 10000) (hb : decide (lim ≤ z.natAbs) = b) :
    Calls Tryz.prog 58 #[v] w fun e w' => e = .returned (.bool b) ∧ Below w.heap.size w w' := by
  subst hb
  obtain ⟨neg, ds, h1, h2, h3⟩ := hv
  rw [h2, sv_natAbs]
  exact toobig_any v neg ds w h1 (by omega)

end Go.Proofs.YteefniagebcagaaGreatDoor
/- Contracts of suretyref01's Add and Sub; they prove no statement of the seat. -/
namespace Go.Proofs.YteefniagebcagaaGreatDoor
open Go.RowKit

theorem own_seg {k : IntKind} {e : TypeId} {base : Nat} {w : World} {v : Value} {zs : List Nat} (h : Own k e base w v zs) : ∃ ao cap, v = .slice ao zs.length cap ∧ zs.length ≤ cap ∧ cap ≤ maxLen ∧ Seg k w ao zs := by
  obtain ⟨ao, cap, h1, h2, h3, h4, _⟩ := h.open
  exact ⟨ao, cap, h1, h2, h3, h4⟩
theorem cmpL_ge {xs ys : List Nat} (hx : Digs 10 xs) (hy : Digs 10 ys) (nx : Norm xs) (ny : Norm ys) : 0 ≤ cmpL 10 xs ys ↔ val 10 ys ≤ val 10 xs := by
  have := cmpL_neg (by decide) hx hy nx ny
  omega

set_option maxRecDepth 20000 in
set_option maxHeartbeats 8000000 in
theorem rAdd_any (va vb : Value) (x y z : Int) (L M : Nat) (w : World) (ha : RNum w va x L) (hb : RNum w vb y M) (hL : L + M ≤ 9000) (hz' : x + y = z) :
    Calls Tryz.prog 57 #[va, vb] w fun e w' => ∃ s a n c, e = .returned (.agg #[.bool s, .slice a n c]) ∧ RNum w' (.agg #[.bool s, .slice a n c]) z (L + M + 1) ∧ Below w.heap.size w w' := by
  obtain ⟨na, xs, hva, hxe, hxl⟩ := ha
  obtain ⟨nb, ys, hvb, hye, hyl⟩ := hb
  obtain ⟨ao, cap, rfl, h1, h2, h4, hs, hd, hn, h3, -⟩ := hva
  obtain ⟨bo, cap', rfl, k1, k2, k4, ks, kd, kn, k3, -⟩ := hvb
  have A0 := ((Blk.new w 39 #[.bool na, .slice ao xs.length cap]).alloc (.cells #[.bool nb, .slice bo ys.length cap'] 39 (0, 0))).alloc (.cells #[.bool false, .slice none 0 0] 39 (0, 0))
  have B0 := (Blk.new (w.alloc (.cells #[.bool na, .slice ao xs.length cap] 39 (0, 0))) 39 #[.bool nb, .slice bo ys.length cap']).alloc (.cells #[.bool false, .slice none 0 0] 39 (0, 0))
  have R0 := Blk.new ((w.alloc (.cells #[.bool na, .slice ao xs.length cap] 39 (0, 0))).alloc (.cells #[.bool nb, .slice bo ys.length cap'] 39 (0, 0))) 39 #[.bool false, .slice none 0 0]
  simp only [World.size_alloc] at B0 R0
  have hbw : Below w.heap.size w (((w.alloc (.cells #[.bool na, .slice ao xs.length cap] 39 (0, 0))).alloc (.cells #[.bool nb, .slice bo ys.length cap'] 39 (0, 0))).alloc (.cells #[.bool false, .slice none 0 0] 39 (0, 0))) := by go_grown
  have HLM : Hid (xs.length ≤ L ∧ ys.length ≤ M) := ⟨hxl, hyl⟩
  by_cases hsg : (na == nb) = true
  · have HE : Hid (sv na (val 10 xs + val 10 ys) = z) := by
      have e : na = nb := by simpa using hsg
      subst e
      show _ = _
      rw [← hz', hxe, hye, sv_add]
    clear hxe hye h3 k3 h4 k4 hz'
    go_enter Tryz.func57, Tryz.ntmps57
    go_wp2
    go_region_held3 (fun w' => w'.cell? ⟨w.heap.size, 0, none⟩ = some (.bool na) ∧ w'.cell? ⟨w.heap.size, 1, none⟩ = some (.slice ao xs.length cap) ∧ w'.cell? ⟨w.heap.size + 1, 0, none⟩ = some (.bool nb) ∧ w'.cell? ⟨w.heap.size + 1, 1, none⟩ = some (.slice bo ys.length cap'))
      (simp [*, go_sem])
      (first
        | (go_at_call 96; refine (rplus_any ao bo xs.length ys.length cap cap' xs ys _ rfl rfl (by omega) (by omega) (hs.below hbw.drew) (ks.below hbw.drew) hd kd).mono ?_; rintro e w1 ⟨v1, rfl, zs, hown, hzd, hzv, hzn, hzm, hzl, hb1⟩; have A1 := Blk.stay A0.drew hb1; have B1 := Blk.stay B0.drew hb1; have R1 := Blk.stay R0.drew hb1; obtain ⟨ca0, ca1, _, _⟩ := A1.two; obtain ⟨cb0, cb1, _, _⟩ := B1.two; have HO : Hid2 (∃ ao cap, v1 = .slice ao zs.length cap ∧ zs.length ≤ cap ∧ cap ≤ maxLen ∧ Seg .i64 w1 ao zs) := ⟨own_seg hown⟩; have HZ : Hid (sv na (val 10 zs) = z ∧ zs.length ≤ L + M + 1) := ⟨by rw [hzv]; exact HE.out, by have := HLM.out; omega⟩; clear hown hzv hzl hzn hzm)
        | (go_at_call 95; refine (rtrim_seg _ v1 zs z _ HO.out (by have := HZ.out.2; omega) hzd HZ.out.1).mono ?_; rintro e w2 ⟨s2, a2, n2, c2, rfl, hr2, hb2⟩; obtain ⟨da0, da1, _, _⟩ := (A1.stay hb2).two; obtain ⟨db0, db1, _, _⟩ := (B1.stay hb2).two; have R2 := R1.stay hb2; obtain ⟨r0, r1, q0, q1⟩ := R2.two))
    go_wp2
    refine bodyPost_ret (v := .agg #[.bool s2, .slice a2 n2 c2]) (by simp [results, Tryz.results57, go_sem, r0, r1]) rfl ?_
    exact ⟨_, _, _, _, rfl, (hr2.mono HZ.out.2).store2 R2 _ _ _ _, below_store2 (((hbw.drew).step hb1 (Nat.le_refl _)).step hb2 (Nat.le_refl _)) (by omega) _ _⟩
  · have hsg' : (na == nb) = false := by simpa using hsg
    rcases Nat.lt_or_ge (val 10 xs) (val 10 ys) with hlt | hge
    · have HC : Hid (¬ 0 ≤ cmpL 10 xs ys) := fun h => by have := (cmpL_ge hd kd hn kn).1 h; omega
      have HE : Hid (sv nb (val 10 ys - val 10 xs) = z) := by show _ = _; rw [← hz', hxe, hye, sv_diff' _ _ _ _ hsg' (by omega)]
      have hlen : xs.length ≤ ys.length := by
        rcases Nat.lt_or_ge ys.length xs.length with k | k
        · have := val_lt_of_length kd hn (by decide) k; omega
        · exact k
      have HLT : Hid (val 10 xs ≤ val 10 ys) := Nat.le_of_lt hlt
      clear hxe hye h3 k3 h4 k4 hz' hlt hsg
      go_enter Tryz.func57, Tryz.ntmps57
      go_wp2_with fail
      refine (rcmp_any ao bo xs.length ys.length cap cap' xs ys _ rfl rfl (by omega) (by omega) (hs.below hbw) (ks.below hbw) hd kd).mono ?_
      rintro e w0 ⟨rfl, hb0⟩
      have A9 := A0.stay hb0
      have B9 := B0.stay hb0
      have R9 := R0.stay hb0
      obtain ⟨ya0, ya1, _, _⟩ := A9.two
      obtain ⟨yb0, yb1, _, _⟩ := B9.two
      replace hbw := hbw.step hb0 (Nat.le_refl _)
      have hcc : decide (0 ≤ cmpL 10 xs ys) = false := decide_eq_false (by have := HC.out; omega)
      go_wp2
      go_region_held3 (fun w' => w'.cell? ⟨w.heap.size, 0, none⟩ = some (.bool na) ∧ w'.cell? ⟨w.heap.size, 1, none⟩ = some (.slice ao xs.length cap) ∧ w'.cell? ⟨w.heap.size + 1, 0, none⟩ = some (.bool nb) ∧ w'.cell? ⟨w.heap.size + 1, 1, none⟩ = some (.slice bo ys.length cap'))
        (simp [*, go_sem])
        (first
          | (go_at_call 98; refine (rless_any bo ao ys.length xs.length cap' cap ys xs _ rfl rfl (by omega) hlen (ks.below hbw.drew) (hs.below hbw.drew) kd hd HLT.out).mono ?_; rintro e w1 ⟨v1, rfl, zs, hown, hzd, hzv, hzl, hb1⟩; have A1 := Blk.stay A9.drew hb1; have B1 := Blk.stay B9.drew hb1; have R1 := Blk.stay R9.drew hb1; obtain ⟨ca0, ca1, _, _⟩ := A1.two; obtain ⟨cb0, cb1, _, _⟩ := B1.two; have HO : Hid2 (∃ ao cap, v1 = .slice ao zs.length cap ∧ zs.length ≤ cap ∧ cap ≤ maxLen ∧ Seg .i64 w1 ao zs) := ⟨own_seg hown⟩; have HZ : Hid (sv nb (val 10 zs) = z ∧ zs.length ≤ L + M + 1) := ⟨by rw [hzv]; exact HE.out, by have := HLM.out; omega⟩; clear hown hzv hzl)
          | (go_at_call 95; refine (rtrim_seg _ v1 zs z _ HO.out (by have := HZ.out.2; omega) hzd HZ.out.1).mono ?_; rintro e w2 ⟨s2, a2, n2, c2, rfl, hr2, hb2⟩; obtain ⟨da0, da1, _, _⟩ := (A1.stay hb2).two; obtain ⟨db0, db1, _, _⟩ := (B1.stay hb2).two; have R2 := R1.stay hb2; obtain ⟨r0, r1, q0, q1⟩ := R2.two))
      go_wp2
      refine bodyPost_ret (v := .agg #[.bool s2, .slice a2 n2 c2]) (by simp [results, Tryz.results57, go_sem, r0, r1]) rfl ?_
      exact ⟨_, _, _, _, rfl, (hr2.mono HZ.out.2).store2 R2 _ _ _ _, below_store2 (((hbw.drew).step hb1 (Nat.le_refl _)).step hb2 (Nat.le_refl _)) (by omega) _ _⟩
    · have HC : Hid (0 ≤ cmpL 10 xs ys) := (cmpL_ge hd kd hn kn).2 hge
      have HE : Hid (sv na (val 10 xs - val 10 ys) = z) := by show _ = _; rw [← hz', hxe, hye, sv_diff _ _ _ _ hsg' hge]
      have hlen : ys.length ≤ xs.length := by
        rcases Nat.lt_or_ge xs.length ys.length with k | k
        · have := val_lt_of_length hd kn (by decide) k; omega
        · exact k
      have HLT : Hid (val 10 ys ≤ val 10 xs) := hge
      clear hxe hye h3 k3 h4 k4 hz' hge hsg
      go_enter Tryz.func57, Tryz.ntmps57
      go_wp2_with fail
      refine (rcmp_any ao bo xs.length ys.length cap cap' xs ys _ rfl rfl (by omega) (by omega) (hs.below hbw) (ks.below hbw) hd kd).mono ?_
      rintro e w0 ⟨rfl, hb0⟩
      have A9 := A0.stay hb0
      have B9 := B0.stay hb0
      have R9 := R0.stay hb0
      obtain ⟨ya0, ya1, _, _⟩ := A9.two
      obtain ⟨yb0, yb1, _, _⟩ := B9.two
      replace hbw := hbw.step hb0 (Nat.le_refl _)
      have hcc : decide (0 ≤ cmpL 10 xs ys) = true := decide_eq_true HC.out
      go_wp2
      go_region_held3 (fun w' => w'.cell? ⟨w.heap.size, 0, none⟩ = some (.bool na) ∧ w'.cell? ⟨w.heap.size, 1, none⟩ = some (.slice ao xs.length cap) ∧ w'.cell? ⟨w.heap.size + 1, 0, none⟩ = some (.bool nb) ∧ w'.cell? ⟨w.heap.size + 1, 1, none⟩ = some (.slice bo ys.length cap'))
        (simp [*, go_sem])
        (first
          | (go_at_call 98; refine (rless_any ao bo xs.length ys.length cap cap' xs ys _ rfl rfl (by omega) hlen (hs.below hbw.drew) (ks.below hbw.drew) hd kd HLT.out).mono ?_; rintro e w1 ⟨v1, rfl, zs, hown, hzd, hzv, hzl, hb1⟩; have A1 := Blk.stay A9.drew hb1; have B1 := Blk.stay B9.drew hb1; have R1 := Blk.stay R9.drew hb1; obtain ⟨ca0, ca1, _, _⟩ := A1.two; obtain ⟨cb0, cb1, _, _⟩ := B1.two; have HO : Hid2 (∃ ao cap, v1 = .slice ao zs.length cap ∧ zs.length ≤ cap ∧ cap ≤ maxLen ∧ Seg .i64 w1 ao zs) := ⟨own_seg hown⟩; have HZ : Hid (sv na (val 10 zs) = z ∧ zs.length ≤ L + M + 1) := ⟨by rw [hzv]; exact HE.out, by have := HLM.out; omega⟩; clear hown hzv hzl)
          | (go_at_call 95; refine (rtrim_seg _ v1 zs z _ HO.out (by have := HZ.out.2; omega) hzd HZ.out.1).mono ?_; rintro e w2 ⟨s2, a2, n2, c2, rfl, hr2, hb2⟩; obtain ⟨da0, da1, _, _⟩ := (A1.stay hb2).two; obtain ⟨db0, db1, _, _⟩ := (B1.stay hb2).two; have R2 := R1.stay hb2; obtain ⟨r0, r1, q0, q1⟩ := R2.two))
      go_wp2
      refine bodyPost_ret (v := .agg #[.bool s2, .slice a2 n2 c2]) (by simp [results, Tryz.results57, go_sem, r0, r1]) rfl ?_
      exact ⟨_, _, _, _, rfl, (hr2.mono HZ.out.2).store2 R2 _ _ _ _, below_store2 (((hbw.drew).step hb1 (Nat.le_refl _)).step hb2 (Nat.le_refl _)) (by omega) _ _⟩

end Go.Proofs.YteefniagebcagaaGreatDoor
/- Contract of suretyref01.Sum; it proves no statement of the seat. -/
namespace Go.Proofs.YteefniagebcagaaGreatDoor
open Go.RowKit

end Go.Proofs.YteefniagebcagaaGreatDoor
