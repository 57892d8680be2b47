/- Joined: RPow, RAdd, RSum, LinP: words and contracts; no statement of the seat is proved here. -/
import Derived.Test.YteefniagebcagaaGreatDoorJoin20Values
import Derived.Test.YteefniagebcagaaGreatDoorJoin19Values
import Derived.Test.YteefniagebcagaaGreatDoorJoin12Values
import Derived.Test.YteefniagebcagaaGreatDoorJoin13Values
/- Contracts of suretyref01's TooBig, Held and Pow by the numbers; they prove no statement of the seat. -/
namespace Go.Proofs.YteefniagebcagaaGreatDoor
open Go.RowKit

theorem RNum.short {w : World} {v : Value} {z : Int} {L : Nat} (h : RNum w v z L) (hz : z.natAbs < lim) : RNum w v z 400 := by
  obtain ⟨neg, ds, h1, h2, h3⟩ := h
  refine ⟨neg, ds, h1, h2, ?_⟩
  obtain ⟨_, _, _, _, _, _, _, hd, hn, _⟩ := h1
  rw [h2, sv_natAbs] at hz
  rcases Nat.lt_or_ge 309 ds.length with k | k
  · have := toobig_long hn k; omega
  · omega

theorem toobig_r (v : Value) (z : Int) (L : Nat) (b : Bool) (w : World) (hv : RNum w v z L) (hL : L ≤ 10000) (hb : decide (lim ≤ z.natAbs) = b) :
    Calls Tryz.prog 58 #[v] w fun e w' => e = .returned (.bool b) ∧ Below w.heap.size w w' := by
  subst hb
  obtain ⟨neg, ds, h1, h2, h3⟩ := hv
  rw [h2, sv_natAbs]
  exact toobig_any v neg ds w h1 (by omega)

end Go.Proofs.YteefniagebcagaaGreatDoor
/- Contracts of suretyref01's Add and Sub; they prove no statement of the seat. -/
namespace Go.Proofs.YteefniagebcagaaGreatDoor
open Go.RowKit

theorem own_seg {k : IntKind} {e : TypeId} {base : Nat} {w : World} {v : Value} {zs : List Nat} (h : Own k e base w v zs) : ∃ ao cap, v = .slice ao zs.length cap ∧ zs.length ≤ cap ∧ cap ≤ maxLen ∧ Seg k w ao zs := by
  obtain ⟨ao, cap, h1, h2, h3, h4, _⟩ := h.open
  exact ⟨ao, cap, h1, h2, h3, h4⟩
theorem cmpL_ge {xs ys : List Nat} (hx : Digs 10 xs) (hy : Digs 10 ys) (nx : Norm xs) (ny : Norm ys) : 0 ≤ cmpL 10 xs ys ↔ val 10 ys ≤ val 10 xs := by
  have := cmpL_neg (by decide) hx hy nx ny
  omega

set_option maxRecDepth 20000 in
set_option maxHeartbeats 8000000 in
theorem rAdd_any (va vb : Value) (x y z : Int) (L M : Nat) (w : World) (ha : RNum w va x L) (hb : RNum w vb y M) (hL : L + M ≤ 9000) (hz' : x + y = z) :
    Calls Tryz.prog 57 #[va, vb] w fun e w' => ∃ s a n c, e = .returned (.agg #[.bool s, .slice a n c]) ∧ RNum w' (.agg #[.bool s, .slice a n c]) z (L + M + 1) ∧ Below w.heap.size w w' := by
  obtain ⟨na, xs, hva, hxe, hxl⟩ := ha
  obtain ⟨nb, ys, hvb, hye, hyl⟩ := hb
  obtain ⟨ao, cap, rfl, h1, h2, h4, hs, hd, hn, h3, -⟩ := hva
  obtain ⟨bo, cap', rfl, k1, k2, k4, ks, kd, kn, k3, -⟩ := hvb
  have A0 := ((Blk.new w 39 #[.bool na, .slice ao xs.length cap]).alloc (.cells #[.bool nb, .slice bo ys.length cap'] 39 (0, 0))).alloc (.cells #[.bool false, .slice none 0 0] 39 (0, 0))
  have B0 := (Blk.new (w.alloc (.cells #[.bool na, .slice ao xs.length cap] 39 (0, 0))) 39 #[.bool nb, .slice bo ys.length cap']).alloc (.cells #[.bool false, .slice none 0 0] 39 (0, 0))
  have R0 := Blk.new ((w.alloc (.cells #[.bool na, .slice ao xs.length cap] 39 (0, 0))).alloc (.cells #[.bool nb, .slice bo ys.length cap'] 39 (0, 0))) 39 #[.bool false, .slice none 0 0]
  simp only [World.size_alloc] at B0 R0
  have hbw : Below w.heap.size w (((w.alloc (.cells #[.bool na, .slice ao xs.length cap] 39 (0, 0))).alloc (.cells #[.bool nb, .slice bo ys.length cap'] 39 (0, 0))).alloc (.cells #[.bool false, .slice none 0 0] 39 (0, 0))) := by go_grown
  have HLM : Hid (xs.length ≤ L ∧ ys.length ≤ M) := ⟨hxl, hyl⟩
  by_cases hsg : (na == nb) = true
  · have HE : Hid (sv na (val 10 xs + val 10 ys) = z) := by
      have e : na = nb := by simpa using hsg
      subst e
      show _ = _
      rw [← hz', hxe, hye, sv_add]
    clear hxe hye h3 k3 h4 k4 hz'
    go_enter Tryz.func57, Tryz.ntmps57
    go_wp2
    go_region_held3 (fun w' => w'.cell? ⟨w.heap.size, 0, none⟩ = some (.bool na) ∧ w'.cell? ⟨w.heap.size, 1, none⟩ = some (.slice ao xs.length cap) ∧ w'.cell? ⟨w.heap.size + 1, 0, none⟩ = some (.bool nb) ∧ w'.cell? ⟨w.heap.size + 1, 1, none⟩ = some (.slice bo ys.length cap'))
      (simp [*, go_sem])
      (first
        | (go_at_call 96; refine (rplus_any ao bo xs.length ys.length cap cap' xs ys _ rfl rfl (by omega) (by omega) (hs.below hbw.drew) (ks.below hbw.drew) hd kd).mono ?_; rintro e w1 ⟨v1, rfl, zs, hown, hzd, hzv, hzn, hzm, hzl, hb1⟩; have A1 := Blk.stay A0.drew hb1; have B1 := Blk.stay B0.drew hb1; have R1 := Blk.stay R0.drew hb1; obtain ⟨ca0, ca1, _, _⟩ := A1.two; obtain ⟨cb0, cb1, _, _⟩ := B1.two; have HO : Hid2 (∃ ao cap, v1 = .slice ao zs.length cap ∧ zs.length ≤ cap ∧ cap ≤ maxLen ∧ Seg .i64 w1 ao zs) := ⟨own_seg hown⟩; have HZ : Hid (sv na (val 10 zs) = z ∧ zs.length ≤ L + M + 1) := ⟨by rw [hzv]; exact HE.out, by have := HLM.out; omega⟩; clear hown hzv hzl hzn hzm)
        | (go_at_call 95; refine (rtrim_seg _ v1 zs z _ HO.out (by have := HZ.out.2; omega) hzd HZ.out.1).mono ?_; rintro e w2 ⟨s2, a2, n2, c2, rfl, hr2, hb2⟩; obtain ⟨da0, da1, _, _⟩ := (A1.stay hb2).two; obtain ⟨db0, db1, _, _⟩ := (B1.stay hb2).two; have R2 := R1.stay hb2; obtain ⟨r0, r1, q0, q1⟩ := R2.two))
    go_wp2
    refine bodyPost_ret (v := .agg #[.bool s2, .slice a2 n2 c2]) (by simp [results, Tryz.results57, go_sem, r0, r1]) rfl ?_
    exact ⟨_, _, _, _, rfl, (hr2.mono HZ.out.2).store2 R2 _ _ _ _, below_store2 (((hbw.drew).step hb1 (Nat.le_refl _)).step hb2 (Nat.le_refl _)) (by omega) _ _⟩
  · have hsg' : (na == nb) = false := by simpa using hsg
    rcases Nat.lt_or_ge (val 10 xs) (val 10 ys) with hlt | hge
    · have HC : Hid (¬ 0 ≤ cmpL 10 xs ys) := fun h => by have := (cmpL_ge hd kd hn kn).1 h; omega
      have HE : Hid (sv nb (val 10 ys - val 10 xs) = z) := by show _ = _; rw [← hz', hxe, hye, sv_diff' _ _ _ _ hsg' (by omega)]
      have hlen : xs.length ≤ ys.length := by
        rcases Nat.lt_or_ge ys.length xs.length with k | k
        · have := val_lt_of_length kd hn (by decide) k; omega
        · exact k
      have HLT : Hid (val 10 xs ≤ val 10 ys) := Nat.le_of_lt hlt
      clear hxe hye h3 k3 h4 k4 hz' hlt hsg
      go_enter Tryz.func57, Tryz.ntmps57
      go_wp2_with fail
      refine (rcmp_any ao bo xs.length ys.length cap cap' xs ys _ rfl rfl (by omega) (by omega) (hs.below hbw) (ks.below hbw) hd kd).mono ?_
      rintro e w0 ⟨rfl, hb0⟩
      have A9 := A0.stay hb0
      have B9 := B0.stay hb0
      have R9 := R0.stay hb0
      obtain ⟨ya0, ya1, _, _⟩ := A9.two
      obtain ⟨yb0, yb1, _, _⟩ := B9.two
      replace hbw := hbw.step hb0 (Nat.le_refl _)
      have hcc : decide (0 ≤ cmpL 10 xs ys) = false := decide_eq_false (by have := HC.out; omega)
      go_wp2
      go_region_held3 (fun w' => w'.cell? ⟨w.heap.size, 0, none⟩ = some (.bool na) ∧ w'.cell? ⟨w.heap.size, 1, none⟩ = some (.slice ao xs.length cap) ∧ w'.cell? ⟨w.heap.size + 1, 0, none⟩ = some (.bool nb) ∧ w'.cell? ⟨w.heap.size + 1, 1, none⟩ = some (.slice bo ys.length cap'))
        (simp [*, go_sem])
        (first
          | (go_at_call 98; refine (rless_any bo ao ys.length xs.length cap' cap ys xs _ rfl rfl (by omega) hlen (ks.below hbw.drew) (hs.below hbw.drew) kd hd HLT.out).mono ?_; rintro e w1 ⟨v1, rfl, zs, hown, hzd, hzv, hzl, hb1⟩; have A1 := Blk.stay A9.drew hb1; have B1 := Blk.stay B9.drew hb1; have R1 := Blk.stay R9.drew hb1; obtain ⟨ca0, ca1, _, _⟩ := A1.two; obtain ⟨cb0, cb1, _, _⟩ := B1.two; have HO : Hid2 (∃ ao cap, v1 = .slice ao zs.length cap ∧ zs.length ≤ cap ∧ cap ≤ maxLen ∧ Seg .i64 w1 ao zs) := ⟨own_seg hown⟩; have HZ : Hid (sv nb (val 10 zs) = z ∧ zs.length ≤ L + M + 1) := ⟨by rw [hzv]; exact HE.out, by have := HLM.out; omega⟩; clear hown hzv hzl)
          | (go_at_call 95; refine (rtrim_seg _ v1 zs z _ HO.out (by have := HZ.out.2; omega) hzd HZ.out.1).mono ?_; rintro e w2 ⟨s2, a2, n2, c2, rfl, hr2, hb2⟩; obtain ⟨da0, da1, _, _⟩ := (A1.stay hb2).two; obtain ⟨db0, db1, _, _⟩ := (B1.stay hb2).two; have R2 := R1.stay hb2; obtain ⟨r0, r1, q0, q1⟩ := R2.two))
      go_wp2
      refine bodyPost_ret (v := .agg #[.bool s2, .slice a2 n2 c2]) (by simp [results, Tryz.results57, go_sem, r0, r1]) rfl ?_
      exact ⟨_, _, _, _, rfl, (hr2.mono HZ.out.2).store2 R2 _ _ _ _, below_store2 (((hbw.drew).step hb1 (Nat.le_refl _)).step hb2 (Nat.le_refl _)) (by omega) _ _⟩
    · have HC : Hid (0 ≤ cmpL 10 xs ys) := (cmpL_ge hd kd hn kn).2 hge
      have HE : Hid (sv na (val 10 xs - val 10 ys) = z) := by show _ = _; rw [← hz', hxe, hye, sv_diff _ _ _ _ hsg' hge]
      have hlen : ys.length ≤ xs.length := by
        rcases Nat.lt_or_ge xs.length ys.length with k | k
        · have := val_lt_of_length hd kn (by decide) k; omega
        · exact k
      have HLT : Hid (val 10 ys ≤ val 10 xs) := hge
      clear hxe hye h3 k3 h4 k4 hz' hge hsg
      go_enter Tryz.func57, Tryz.ntmps57
      go_wp2_with fail
      refine (rcmp_any ao bo xs.length ys.length cap cap' xs ys _ rfl rfl (by omega) (by omega) (hs.below hbw) (ks.below hbw) hd kd).mono ?_
      rintro e w0 ⟨rfl, hb0⟩
      have A9 := A0.stay hb0
      have B9 := B0.stay hb0
      have R9 := R0.stay hb0
      obtain ⟨ya0, ya1, _, _⟩ := A9.two
      obtain ⟨yb0, yb1, _, _⟩ := B9.two
      replace hbw := hbw.step hb0 (Nat.le_refl _)
      have hcc : decide (0 ≤ cmpL 10 xs ys) = true := decide_eq_true HC.out
      go_wp2
      go_region_held3 (fun w' => w'.cell? ⟨w.heap.size, 0, none⟩ = some (.bool na) ∧ w'.cell? ⟨w.heap.size, 1, none⟩ = some (.slice ao xs.length cap) ∧ w'.cell? ⟨w.heap.size + 1, 0, none⟩ = some (.bool nb) ∧ w'.cell? ⟨w.heap.size + 1, 1, none⟩ = some (.slice bo ys.length cap'))
        (simp [*, go_sem])
        (first
          | (go_at_call 98; refine (rless_any ao bo xs.length ys.length cap cap' xs ys _ rfl rfl (by omega) hlen (hs.below hbw.drew) (ks.below hbw.drew) hd kd HLT.out).mono ?_; rintro e w1 ⟨v1, rfl, zs, hown, hzd, hzv, hzl, hb1⟩; have A1 := Blk.stay A9.drew hb1; have B1 := Blk.stay B9.drew hb1; have R1 := Blk.stay R9.drew hb1; obtain ⟨ca0, ca1, _, _⟩ := A1.two; obtain ⟨cb0, cb1, _, _⟩ := B1.two; have HO : Hid2 (∃ ao cap, v1 = .slice ao zs.length cap ∧ zs.length ≤ cap ∧ cap ≤ maxLen ∧ Seg .i64 w1 ao zs) := ⟨own_seg hown⟩; have HZ : Hid (sv na (val 10 zs) = z ∧ zs.length ≤ L + M + 1) := ⟨by rw [hzv]; exact HE.out, by have := HLM.out; omega⟩; clear hown hzv hzl)
          | (go_at_call 95; refine (rtrim_seg _ v1 zs z _ HO.out (by have := HZ.out.2; omega) hzd HZ.out.1).mono ?_; rintro e w2 ⟨s2, a2, n2, c2, rfl, hr2, hb2⟩; obtain ⟨da0, da1, _, _⟩ := (A1.stay hb2).two; obtain ⟨db0, db1, _, _⟩ := (B1.stay hb2).two; have R2 := R1.stay hb2; obtain ⟨r0, r1, q0, q1⟩ := R2.two))
      go_wp2
      refine bodyPost_ret (v := .agg #[.bool s2, .slice a2 n2 c2]) (by simp [results, Tryz.results57, go_sem, r0, r1]) rfl ?_
      exact ⟨_, _, _, _, rfl, (hr2.mono HZ.out.2).store2 R2 _ _ _ _, below_store2 (((hbw.drew).step hb1 (Nat.le_refl _)).step hb2 (Nat.le_refl _)) (by omega) _ _⟩

end Go.Proofs.YteefniagebcagaaGreatDoor
/- Contract of suretyref01.Sum; it proves no statement of the seat. -/
namespace Go.Proofs.YteefniagebcagaaGreatDoor
open Go.RowKit

/-- The cells from 'ao' on are suretyref01.Nums. -/
def ArrR (w : World) (ao : Option Addr) (zs : List Int) : Prop :=
  zs = [] ∨ ∃ g o, ao = some ⟨g, o, none⟩ ∧ ∀ i, i < zs.length → ∃ s a n c, w.cell? ⟨g, o + i * 2, none⟩ = some (.bool s) ∧ w.cell? ⟨g, o + i * 2 + 1, none⟩ = some (.slice a n c) ∧ RNum w (.agg #[.bool s, .slice a n c]) (zs.getD i 0) 400
theorem ArrR.below {w w' : World} {ao : Option Addr} {zs : List Int} (h : ArrR w ao zs) (hb : Below w.heap.size w w') : ArrR w' ao zs := by
  rcases h with h | ⟨g, o, rfl, hc⟩
  · exact Or.inl h
  · refine Or.inr ⟨g, o, rfl, fun i hi => ?_⟩
    obtain ⟨s, a, n, c, h1, h2, h3⟩ := hc i hi
    exact ⟨s, a, n, c, (hb.cell (p := ⟨g, o + i * 2, none⟩) (World.block_lt_of_cell? w _ h1)).trans h1, (hb.cell (p := ⟨g, o + i * 2 + 1, none⟩) (World.block_lt_of_cell? w _ h2)).trans h2, h3.below hb⟩
theorem ArrR.at {w : World} {ao : Option Addr} {zs : List Int} (h : ArrR w ao zs) (i : Nat) (hi : i < zs.length) : ∃ g o, ao = some ⟨g, o, none⟩ := by
  rcases h with h | ⟨g, o, rfl, hc⟩
  · subst h; simp at hi
  · exact ⟨g, o, rfl⟩

end Go.Proofs.YteefniagebcagaaGreatDoor
/- Contracts of linear's At and Common; they prove no statement of the seat. -/
namespace Go.Proofs.YteefniagebcagaaGreatDoor
open Go.RowKit
set_option linter.unusedVariables false

/-- A sum of products, from s on: none where a product or a sum on the way is too large. -/
def ats : Int → List (Nat × Int) → List Int → Option Int
  | s, [], _ => some s
  | s, p :: r, zs => if p.1 < zs.length then (if (p.2 * zs.getD p.1 0).natAbs < lim then (if (s + p.2 * zs.getD p.1 0).natAbs < lim then ats (s + p.2 * zs.getD p.1 0) r zs else none) else none) else some s
def atZ (a : List (Nat × Int)) (r : Int) (zs : List Int) : Int := (ats r a zs).getD 0
def atE (a : List (Nat × Int)) (r : Int) (zs : List Int) : Int := if (ats r a zs).isSome then 0 else 11
theorem ats_drop {a : List (Nat × Int)} {k : Nat} {pv : Nat} {pz : Int} (hk : k < a.length) (hp : a.getD k (0, 0) = (pv, pz)) (s : Int) (zs : List Int) :
    ats s (a.drop k) zs = if pv < zs.length then (if (pz * zs.getD pv 0).natAbs < lim then (if (s + pz * zs.getD pv 0).natAbs < lim then ats (s + pz * zs.getD pv 0) (a.drop (k + 1)) zs else none) else none) else some s := by
  have e : a[k] = (pv, pz) := by rw [List.getD_eq_getElem?_getD, List.getElem?_eq_getElem hk] at hp; exact hp
  rw [List.drop_eq_getElem_cons hk, e, ats]

set_option maxRecDepth 20000 in
set_option maxHeartbeats 8000000 in
theorem lat_any (vX : Value) (a : List (Nat × Int)) (r : Int) (vo : Option Addr) (k9 vc : Nat) (zs : List Int) (w : World) (hX : TermR w vX a r) (hvl : zs.length = k9) (hva : Arr w vo zs) (hk9 : k9 ≤ 1000) :
    Calls Tryz.prog 37 #[vX, .slice vo k9 vc] w fun e w' => ∃ x m n c, e = .returned (.tuple #[.agg #[.bool x, .slice m n c], .int .i64 (atE a r zs)]) ∧ AInt w' (.agg #[.bool x, .slice m n c]) (atZ a r zs) ∧ Below w.heap.size w w' := by
  obtain ⟨pX, qX, rX, xX, aX, nX, cX, rfl, hX⟩ := hX
  have ha0 := hX.arr
  have oX := ((Blk.new w 33 #[.slice pX qX rX, .bool xX, .slice aX nX cX]).alloc (.cells #[.bool false, .slice none 0 0] 31 (0, 0)))
  have oR := (Blk.new (w.alloc (.cells #[.slice pX qX rX, .bool xX, .slice aX nX cX] 33 (0, 0))) 31 #[.bool false, .slice none 0 0])
  simp only [World.size_alloc] at oR
  have hbw : Below w.heap.size w ((w.alloc (.cells #[.slice pX qX rX, .bool xX, .slice aX nX cX] 33 (0, 0))).alloc (.cells #[.bool false, .slice none 0 0] 31 (0, 0))) := by go_grown
  replace hX := hX.below hbw
  have ltX := oX.lt
  have lwX : w.heap.size ≤ w.heap.size := by omega
  have ltR := oR.lt
  have lwR : w.heap.size ≤ w.heap.size + 1 := by omega
  go_enter Tryz.func37, Tryz.ntmps37
  have HX : Hid (PArr w pX a) := ha0
  have HLN : Hid (a.length = qX) := hX.len
  have hlen := hX.n_le
  have HVL : Hid (zs.length = k9) := hvl
  have HVA : Hid (Arr w vo zs) := hva
  have hS := hX.rest
  clear ha0 hvl hva
  obtain ⟨Xc0, Xc1, Xc2⟩ := oX.three
  obtain ⟨Xk0, Xk1, Xk2⟩ := oX.frozen3
  have hn := below_new ((w.alloc (.cells #[.slice pX qX rX, .bool xX, .slice aX nX cX] 33 (0, 0))).alloc (.cells #[.bool false, .slice none 0 0] 31 (0, 0))) (.cells #[.bool xX, .slice aX nX cX] 31 (0, 0))
  have oS := Blk.new ((w.alloc (.cells #[.slice pX qX rX, .bool xX, .slice aX nX cX] 33 (0, 0))).alloc (.cells #[.bool false, .slice none 0 0] 31 (0, 0))) 31 #[.bool xX, .slice aX nX cX]
  simp only [World.size_alloc] at oS
  have neXS : w.heap.size ≠ w.heap.size + 1 + 1 := by have := ltX; (try simp at this); omega
  have neRS : w.heap.size + 1 ≠ w.heap.size + 1 + 1 := by have := ltR; (try simp at this); omega
  have lwS : w.heap.size ≤ w.heap.size + 1 + 1 := by have := hbw.size; (try simp at this); omega
  replace oX := oX.stay hn
  replace ltX := oX.lt
  replace oR := oR.stay hn
  replace ltR := oR.lt
  replace hX := hX.below hn
  replace hbw := hbw.step hn (Nat.le_refl _)
  clear hn
  have ltS := oS.lt
  go_wp2
  go_loopw [16] (fun i wl => ∃ (k : Nat) (s : Int) (xS : Bool) (aS : Option Addr) (nS cS : Nat), k ≤ qX ∧ i = .int .i64 k ∧ Blk 33 wl w.heap.size #[.slice pX qX rX, .bool xX, .slice aX nX cX] ∧ Blk 31 wl (w.heap.size + 1) #[.bool false, .slice none 0 0] ∧ Blk 31 wl (w.heap.size + 1 + 1) #[.bool xS, .slice aS nS cS] ∧ AInt wl (.agg #[.bool xS, .slice aS nS cS]) s ∧ Hid (ats r a zs = ats s (a.drop k) zs) ∧ Below w.heap.size w wl) (fun i _ => qX - (intOf i).toNat)
  case atStart => exact ⟨0, r, xX, aX, nX, cX, Nat.zero_le _, rfl, oX, oR, oS, hX.rest, rfl, hbw⟩
  case round =>
    rename World => wl
    clear oX oR oS hbw hX hS ltX ltR ltS Xc0 Xc1 Xc2 Xk0 Xk1 Xk2
    obtain ⟨k, s, xS, aS, nS, cS, hk, rfl, oX, oR, oS, hS, HI, hbw⟩ := hrel
    have ltX := oX.lt
    have ltR := oR.lt
    have ltS := oS.lt
    by_cases h0 : k < qX
    · obtain ⟨gE, oE, sE, aE, mE, cE, had, k1, k2, k3, k4⟩ := HX.out.at k (by rw [HLN.out]; exact h0)
      subst had
      obtain ⟨pv, hpv⟩ : ∃ x9, x9 = (a.getD k (0, 0)).1 := ⟨_, rfl⟩
      obtain ⟨pz, hpz⟩ : ∃ x9, x9 = (a.getD k (0, 0)).2 := ⟨_, rfl⟩
      rw [← hpv] at k1
      rw [← hpz] at k4
      have HPV : Hid (a.getD k (0, 0) = (pv, pz)) := by show _ = _; rw [hpv, hpz]
      clear hpv hpz
      have A0 := (hbw.cell (p := ⟨gE, oE + k * 3, none⟩) (World.block_lt_of_cell? w _ k1)).trans k1
      have A1 := (hbw.cell (p := ⟨gE, oE + k * 3 + 1, none⟩) (World.block_lt_of_cell? w _ k2)).trans k2
      have A2 := (hbw.cell (p := ⟨gE, oE + k * 3 + 2, none⟩) (World.block_lt_of_cell? w _ k3)).trans k3
      have hE0 := k4.below hbw
      clear k1 k2 k3 k4
      have HST : Hid (ats s (a.drop k) zs = if pv < zs.length then (if (pz * zs.getD pv 0).natAbs < lim then (if (s + pz * zs.getD pv 0).natAbs < lim then ats (s + pz * zs.getD pv 0) (a.drop (k + 1)) zs else none) else none) else some s) := ats_drop (by rw [HLN.out]; exact h0) HPV.out s zs
      by_cases hv : pv < k9
      · have hv1 : ¬ (k9 : Int) ≤ pv := by omega
        obtain ⟨gV, oV, hvo⟩ : ∃ g o, vo = some ⟨g, o, none⟩ := HVA.out.at pv (by rw [HVL.out]; exact hv)
        subst hvo
        have hva2 := HVA.out
        rcases hva2 with hnil | ⟨g2, o2, he2, hc2⟩
        · have := HVL.out; rw [hnil] at this; simp at this; omega
        cases he2
        obtain ⟨sV, aV, nV, cV, V0, V1, hV⟩ := hc2 pv (by rw [HVL.out]; exact hv)
        obtain ⟨z, hzd⟩ : ∃ z, z = zs.getD pv 0 := ⟨_, rfl⟩
        rw [← hzd] at hV HST
        clear hc2
        have HZD : Hid (z = zs.getD pv 0) := hzd
        clear hzd
        obtain ⟨Xc0, Xc1, Xc2⟩ := oX.three
        obtain ⟨Xk0, Xk1, Xk2⟩ := oX.frozen3
        go_wp2
        clear Xc0 Xc1 Xc2 Xk0 Xk1 Xk2
        have hn := below_new wl (.cells #[.int .i64 (pv : Nat), .bool sE, .slice aE mE cE] 116 (0, 0))
        have oP := Blk.new wl 116 #[.int .i64 (pv : Nat), .bool sE, .slice aE mE cE]
        have neXP : w.heap.size ≠ wl.heap.size := by have := ltX; (try simp at this); omega
        have neRP : w.heap.size + 1 ≠ wl.heap.size := by have := ltR; (try simp at this); omega
        have neSP : w.heap.size + 1 + 1 ≠ wl.heap.size := by have := ltS; (try simp at this); omega
        have lwP : w.heap.size ≤ wl.heap.size := by have := hbw.size; (try simp at this); omega
        replace oX := oX.stay hn
        replace ltX := oX.lt
        replace oR := oR.stay hn
        replace ltR := oR.lt
        replace oS := oS.stay hn
        replace ltS := oS.lt
        replace hS := hS.below hn
        replace hE0 := hE0.below hn
        replace hbw := hbw.step hn (Nat.le_refl _)
        clear hn
        have ltP := oP.lt
        clear A0 A1 A2
        by_cases hm : (pz * z).natAbs < lim
        · have E0 : ec (pz * z) = 0 := if_pos hm
          have HM : Hid ((pz * z).natAbs < lim) := hm
          clear hm
          generalize (wl.alloc (.cells #[.int .i64 (pv : Nat), .bool sE, .slice aE mE cE] 116 (0, 0))) = W0 at hbw oX oR oS oP ltX ltR ltS ltP hS hE0 ⊢
          have hbW := hbw
          refine wp_region_M (by kernel_rfl) [9, 10, 25, 26, 27, 28, 29, 30, 31, 32, 33, 34, 35] [none, none, none, none, none, none, none, none, none, some 9, some 10, none, none, none, none, none, none, none, none, none, none, none, none, none, none, some 25, some 26, some 27, some 28, some 29, some 30, some 31, some 32, some 33, some 34, some 35] (fun U => by kernel_rfl) (fun L U wr => Below w.heap.size w wr ∧ KeepP W0 wr ∧ W0.heap.size ≤ wr.heap.size ∧ Blk 33 wr (w.heap.size) #[.slice (some ⟨gE, oE, none⟩) qX rX, .bool xX, .slice aX nX cX] ∧ Blk 31 wr (w.heap.size + 1) #[.bool false, .slice none 0 0] ∧ Blk 31 wr (w.heap.size + 1 + 1) #[.bool xS, .slice aS nS cS] ∧ Blk 116 wr (wl.heap.size) #[.int .i64 (pv : Nat), .bool sE, .slice aE mE cE] ∧ (L 0 = true → IS (.pointer (some ⟨wl.heap.size, 1, none⟩)) (U 26) wr) ∧ (L 1 = true → IS (.agg #[.bool sE, .slice aE mE cE]) (U 27) wr) ∧ (L 2 = true → IS (.slice (some ⟨gV, oV, none⟩) k9 vc) (U 28) wr) ∧ (L 3 = true → IS (.pointer (some ⟨wl.heap.size, 0, none⟩)) (U 29) wr) ∧ (L 4 = true → IS (.int .i64 (pv : Nat)) (U 30) wr) ∧ (L 5 = true → IS (.pointer (some ⟨gV, oV + pv * 2, none⟩)) (U 31) wr) ∧ (L 6 = true → IS (.agg #[.bool sV, .slice aV nV cV]) (U 32) wr) ∧ (L 7 = true → T2 (INT (hz (pz * z))) (IS (.int .i64 0)) (U 33) wr) ∧ (L 8 = true → T2 (INT (hz (pz * z))) (IS (.int .i64 0)) (U 25) wr) ∧ (L 9 = true → INT (hz (pz * z)) (U 34) wr) ∧ (L 10 = true → IS (.int .i64 0) (U 35) wr) ∧ (L 11 = true → NEWU 31 W0.heap.size wr (U 9) (bif L 12 then U 34 else .agg #[.bool false, .slice none 0 0])) ∧ (L 13 = true → IS (.int .i64 0) (U 10) wr) ∧ (L 12 = true → L 9 = true) ∧ (L 12 = true → L 11 = true)) (by kernel_rfl) ?_ ?_ ?_
          · exact fun U => ⟨hbw.drew, KeepP.below (Below.refl _ _).drew, Nat.le_refl _, oX.drew, oR.drew, oS.drew, oP.drew, (fun h => by cases h), (fun h => by cases h), (fun h => by cases h), (fun h => by cases h), (fun h => by cases h), (fun h => by cases h), (fun h => by cases h), (fun h => by cases h), (fun h => by cases h), (fun h => by cases h), (fun h => by cases h), (fun h => by cases h), (fun h => by cases h), (fun h => by cases h), (fun h => by cases h)⟩
          · refine StepsU.run rfl ?_ ?_
            · intro L U wr hF hlk haf A K hA hK
              have HA : Hid (A = putAll _ _ U) := hA
              clear hA
              simp [Aft, Region.binds] at haf
              obtain ⟨fb, fk, fs, oX, oR, oS, oP, f0, f1, f2, f3, f4, f5, f6, f7, f8, f9, f10, f11, f13, s12, m11⟩ := hF
              have e8 : A.tmps[8]? = some (.pointer (some ⟨wl.heap.size, 0, none⟩)) := by rw [HA.out]; kernel_rfl
              refine ⟨?_⟩
              go_simp
              refine hK (upd U 26 (.pointer (some ⟨wl.heap.size, 1, none⟩))) _ _ ?_ ?_
              · rw [HA.out]; kernel_rfl
              · exact ⟨fb, fk, fs, oX, oR, oS, oP, (fun _ => rfl), f1, f2, f3, f4, f5, f6, f7, f8, f9, f10, f11, f13, s12, m11⟩
            refine StepsU.run rfl ?_ ?_
            · intro L U wr hF hlk haf A K hA hK
              have HA : Hid (A = putAll _ _ U) := hA
              clear hA
              simp [Aft, Region.binds] at haf
              obtain ⟨fb, fk, fs, oX, oR, oS, oP, f0, f1, f2, f3, f4, f5, f6, f7, f8, f9, f10, f11, f13, s12, m11⟩ := hF
              have g0 := f0 (by simp [haf])
              have e26 := rd HA.out 26 (by kernel_rfl) g0
              have c1 := oP.cell 1
              have c2 := oP.cell 2
              simp at c1
              simp at c2
              refine ⟨?_⟩
              go_simp
              refine hK (upd U 27 (.agg #[.bool sE, .slice aE mE cE])) _ _ ?_ ?_
              · rw [HA.out]; kernel_rfl
              · exact ⟨fb, fk, fs, oX, oR, oS, oP, f0, (fun _ => rfl), f2, f3, f4, f5, f6, f7, f8, f9, f10, f11, f13, s12, m11⟩
            refine StepsU.run rfl ?_ ?_
            · intro L U wr hF hlk haf A K hA hK
              have HA : Hid (A = putAll _ _ U) := hA
              clear hA
              simp [Aft, Region.binds] at haf
              obtain ⟨fb, fk, fs, oX, oR, oS, oP, f0, f1, f2, f3, f4, f5, f6, f7, f8, f9, f10, f11, f13, s12, m11⟩ := hF
              have e1 : A.tmps[1]? = some (.slice (some ⟨gV, oV, none⟩) k9 vc) := by rw [HA.out]; kernel_rfl
              refine ⟨?_⟩
              go_simp
              refine hK (upd U 28 (.slice (some ⟨gV, oV, none⟩) k9 vc)) _ _ ?_ ?_
              · rw [HA.out]; kernel_rfl
              · exact ⟨fb, fk, fs, oX, oR, oS, oP, f0, f1, (fun _ => rfl), f3, f4, f5, f6, f7, f8, f9, f10, f11, f13, s12, m11⟩
            refine StepsU.run rfl ?_ ?_
            · intro L U wr hF hlk haf A K hA hK
              have HA : Hid (A = putAll _ _ U) := hA
              clear hA
              simp [Aft, Region.binds] at haf
              obtain ⟨fb, fk, fs, oX, oR, oS, oP, f0, f1, f2, f3, f4, f5, f6, f7, f8, f9, f10, f11, f13, s12, m11⟩ := hF
              have e8 : A.tmps[8]? = some (.pointer (some ⟨wl.heap.size, 0, none⟩)) := by rw [HA.out]; kernel_rfl
              refine ⟨?_⟩
              go_simp
              refine hK (upd U 29 (.pointer (some ⟨wl.heap.size, 0, none⟩))) _ _ ?_ ?_
              · rw [HA.out]; kernel_rfl
              · exact ⟨fb, fk, fs, oX, oR, oS, oP, f0, f1, f2, (fun _ => rfl), f4, f5, f6, f7, f8, f9, f10, f11, f13, s12, m11⟩
            refine StepsU.run rfl ?_ ?_
            · intro L U wr hF hlk haf A K hA hK
              have HA : Hid (A = putAll _ _ U) := hA
              clear hA
              simp [Aft, Region.binds] at haf
              obtain ⟨fb, fk, fs, oX, oR, oS, oP, f0, f1, f2, f3, f4, f5, f6, f7, f8, f9, f10, f11, f13, s12, m11⟩ := hF
              have g3 := f3 (by simp [haf])
              have e29 := rd HA.out 29 (by kernel_rfl) g3
              have c0 := oP.cell 0
              simp at c0
              refine ⟨?_⟩
              go_simp
              refine hK (upd U 30 (.int .i64 (pv : Nat))) _ _ ?_ ?_
              · rw [HA.out]; kernel_rfl
              · exact ⟨fb, fk, fs, oX, oR, oS, oP, f0, f1, f2, f3, (fun _ => rfl), f5, f6, f7, f8, f9, f10, f11, f13, s12, m11⟩
            refine StepsU.run rfl ?_ ?_
            · intro L U wr hF hlk haf A K hA hK
              have HA : Hid (A = putAll _ _ U) := hA
              clear hA
              simp [Aft, Region.binds] at haf
              obtain ⟨fb, fk, fs, oX, oR, oS, oP, f0, f1, f2, f3, f4, f5, f6, f7, f8, f9, f10, f11, f13, s12, m11⟩ := hF
              have g2 := f2 (by simp [haf])
              have g4 := f4 (by simp [haf])
              have e28 := rd HA.out 28 (by kernel_rfl) g2
              have e30 := rd HA.out 30 (by kernel_rfl) g4
              refine ⟨?_⟩
              go_simp
              refine hK (upd U 31 (.pointer (some ⟨gV, oV + pv * 2, none⟩))) _ _ ?_ ?_
              · rw [HA.out]; kernel_rfl
              · exact ⟨fb, fk, fs, oX, oR, oS, oP, f0, f1, f2, f3, f4, (fun _ => rfl), f6, f7, f8, f9, f10, f11, f13, s12, m11⟩
            refine StepsU.run rfl ?_ ?_
            · intro L U wr hF hlk haf A K hA hK
              have HA : Hid (A = putAll _ _ U) := hA
              clear hA
              simp [Aft, Region.binds] at haf
              obtain ⟨fb, fk, fs, oX, oR, oS, oP, f0, f1, f2, f3, f4, f5, f6, f7, f8, f9, f10, f11, f13, s12, m11⟩ := hF
              have g5 := f5 (by simp [haf])
              have kV0 := (fb.cell (p := ⟨gV, oV + pv * 2, none⟩) (World.block_lt_of_cell? w _ V0)).trans V0
              have kV1 := (fb.cell (p := ⟨gV, oV + pv * 2 + 1, none⟩) (World.block_lt_of_cell? w _ V1)).trans V1
              have e31 := rd HA.out 31 (by kernel_rfl) g5
              refine ⟨?_⟩
              go_simp
              refine hK (upd U 32 (.agg #[.bool sV, .slice aV nV cV])) _ _ ?_ ?_
              · rw [HA.out]; kernel_rfl
              · exact ⟨fb, fk, fs, oX, oR, oS, oP, f0, f1, f2, f3, f4, f5, (fun _ => rfl), f7, f8, f9, f10, f11, f13, s12, m11⟩
            refine StepsU.run rfl ?_ ?_
            · intro L U wr hF hlk haf A K hA hK
              have HA : Hid (A = putAll _ _ U) := hA
              clear hA
              simp [Aft, Region.binds] at haf
              obtain ⟨fb, fk, fs, oX, oR, oS, oP, f0, f1, f2, f3, f4, f5, f6, f7, f8, f9, f10, f11, f13, s12, m11⟩ := hF
              have g1 := f1 (by simp [haf])
              have e27 := rd HA.out 27 (by kernel_rfl) g1
              have g6 := f6 (by simp [haf])
              have e32 := rd HA.out 32 (by kernel_rfl) g6
              refine ⟨?_⟩
              go_simp
              refine (mul_h _ _ pz z _ (hE0.keepP fk) (hV.below fb)).mono ?_
              rintro e w1 ⟨u1, u2, u3, u4, rfl, hr, hb⟩
              go_simp
              refine hK (upd U 33 (.tuple #[.agg #[.bool u1, .slice u2 u3 u4], .int .i64 0])) _ _ ?_ ?_
              · rw [HA.out]; kernel_rfl
              · exact ⟨(fb.step hb (Nat.le_refl _)), (fk.trans (KeepP.below hb)), (Nat.le_trans fs hb.size), (oX.stay hb), (oR.stay hb), (oS.stay hb), (oP.stay hb), (mvP mp_is (KeepP.below hb) f0), (mvP mp_is (KeepP.below hb) f1), (mvP mp_is (KeepP.below hb) f2), (mvP mp_is (KeepP.below hb) f3), (mvP mp_is (KeepP.below hb) f4), (mvP mp_is (KeepP.below hb) f5), (mvP mp_is (KeepP.below hb) f6), (fun _ => ⟨_, _, rfl, hr, rfl⟩), (mvP (mp_t2 mp_int mp_is) (KeepP.below hb) f8), (mvP mp_int (KeepP.below hb) f9), (mvP mp_is (KeepP.below hb) f10), (fun h => (f11 h).below hb), (mvP mp_is (KeepP.below hb) f13), s12, m11⟩
            refine StepsU.run rfl ?_ ?_
            · intro L U wr hF hlk haf A K hA hK
              have HA : Hid (A = putAll _ _ U) := hA
              clear hA
              simp [Aft, Region.binds] at haf
              obtain ⟨fb, fk, fs, oX, oR, oS, oP, f0, f1, f2, f3, f4, f5, f6, f7, f8, f9, f10, f11, f13, s12, m11⟩ := hF
              have g7 := f7 (by simp [haf])
              have e33 := rd HA.out 33 (by kernel_rfl) rfl
              refine ⟨?_⟩
              go_simp
              refine hK (upd U 25 (U 33)) _ _ ?_ ?_
              · rw [HA.out]; kernel_rfl
              · exact ⟨fb, fk, fs, oX, oR, oS, oP, f0, f1, f2, f3, f4, f5, f6, f7, (fun _ => g7), f9, f10, f11, f13, s12, m11⟩
            refine StepsU.run rfl ?_ ?_
            · intro L U wr hF hlk haf A K hA hK
              have HA : Hid (A = putAll _ _ U) := hA
              clear hA
              simp [Aft, Region.binds] at haf
              obtain ⟨fb, fk, fs, oX, oR, oS, oP, f0, f1, f2, f3, f4, f5, f6, f7, f8, f9, f10, f11, f13, s12, m11⟩ := hF
              have g8 := f8 (by simp [haf])
              obtain ⟨t0, t1, hT, k0, k1⟩ := g8
              have e25 := rd HA.out 25 (by kernel_rfl) hT
              refine ⟨?_⟩
              go_simp
              have hs12 : L 12 = false := by cases h : L 12 with | false => rfl | true => rw [s12 h] at hlk; cases hlk
              refine hK (upd U 34 t0) _ _ ?_ ?_
              · rw [HA.out]; kernel_rfl
              · exact ⟨fb, fk, fs, oX, oR, oS, oP, f0, f1, f2, f3, f4, f5, f6, f7, f8, (fun _ => k0), f10, (fun h => flip_v (P := fun v => NEWU _ _ _ _ v) hs12 (f11 h)), f13, (fun _ => rfl), m11⟩
            refine StepsU.run rfl ?_ ?_
            · intro L U wr hF hlk haf A K hA hK
              have HA : Hid (A = putAll _ _ U) := hA
              clear hA
              simp [Aft, Region.binds] at haf
              obtain ⟨fb, fk, fs, oX, oR, oS, oP, f0, f1, f2, f3, f4, f5, f6, f7, f8, f9, f10, f11, f13, s12, m11⟩ := hF
              have g8 := f8 (by simp [haf])
              obtain ⟨t0, t1, hT, k0, k1⟩ := g8
              have e25 := rd HA.out 25 (by kernel_rfl) hT
              refine ⟨?_⟩
              go_simp
              refine hK (upd U 35 t1) _ _ ?_ ?_
              · rw [HA.out]; kernel_rfl
              · exact ⟨fb, fk, fs, oX, oR, oS, oP, f0, f1, f2, f3, f4, f5, f6, f7, f8, f9, (fun _ => k1), f11, f13, s12, m11⟩
            refine StepsU.run rfl ?_ ?_
            · intro L U wr hF hlk haf A K hA hK
              have HA : Hid (A = putAll _ _ U) := hA
              clear hA
              simp [Aft, Region.binds] at haf
              obtain ⟨fb, fk, fs, oX, oR, oS, oP, f0, f1, f2, f3, f4, f5, f6, f7, f8, f9, f10, f11, f13, s12, m11⟩ := hF
              have hst : L 12 = false := by cases h : L 12 with | false => rfl | true => rw [m11 h] at hlk; cases hlk
              refine ⟨?_⟩
              go_simp
              have hb := below_new wr (.cells #[.bool false, .slice none 0 0] 31 (0, 0))
              refine hK (upd U 9 (.pointer (some ⟨wr.heap.size, 0, none⟩))) _ _ ?_ ?_
              · rw [HA.out]; kernel_rfl
              · exact ⟨(fb.step hb (Nat.le_refl _)), (fk.trans (KeepP.below hb)), (Nat.le_trans fs hb.size), (oX.stay hb), (oR.stay hb), (oS.stay hb), (oP.stay hb), (mvP mp_is (KeepP.below hb) f0), (mvP mp_is (KeepP.below hb) f1), (mvP mp_is (KeepP.below hb) f2), (mvP mp_is (KeepP.below hb) f3), (mvP mp_is (KeepP.below hb) f4), (mvP mp_is (KeepP.below hb) f5), (mvP mp_is (KeepP.below hb) f6), (mvP (mp_t2 mp_int mp_is) (KeepP.below hb) f7), (mvP (mp_t2 mp_int mp_is) (KeepP.below hb) f8), (mvP mp_int (KeepP.below hb) f9), (mvP mp_is (KeepP.below hb) f10), (fun _ => newU_zero (by simp [hst]) (NEWU.mk fs (nuI _ _ _ _))), (mvP mp_is (KeepP.below hb) f13), s12, (fun _ => rfl)⟩
            refine StepsU.run rfl ?_ ?_
            · intro L U wr hF hlk haf A K hA hK
              have HA : Hid (A = putAll _ _ U) := hA
              clear hA
              simp [Aft, Region.binds] at haf
              obtain ⟨fb, fk, fs, oX, oR, oS, oP, f0, f1, f2, f3, f4, f5, f6, f7, f8, f9, f10, f11, f13, s12, m11⟩ := hF
              have g9 := f9 (by simp [haf])
              obtain ⟨yx, ya, yn, yc, hsrc⟩ := AInt.shape g9
              have e34 := rd HA.out 34 (by kernel_rfl) hsrc
              have g11 := f11 (by simp [haf])
              rw [hlk, cond_false] at g11
              obtain ⟨b, cs, hp, hBb, hcs, hblk, hN⟩ := g11
              injection hcs with hcs
              subst hcs
              have e9 := rd HA.out 9 (by kernel_rfl) hp
              have q0 := hblk.frozen 0
              have q1 := hblk.frozen 1
              have c0 := hblk.cell 0
              have c1 := hblk.cell 1
              simp at c0
              simp at c1
              have hlt := hblk.lt
              refine ⟨?_⟩
              go_simp
              refine hK U _ _ ?_ ?_
              · exact HA.out
              · exact ⟨(below_stores (Nat.le_trans (by exact hbW.size) hBb) [.bool yx, .slice ya yn yc] 0 fb), (fk.trans (keepP_stores (by decide) (by decide) [.bool yx, .slice ya yn yc] 0 hblk (nuI _ _ _ _) (nuI _ _ _ _))), (by simp; exact fs), (oX.otherS (Nat.ne_of_gt (Nat.lt_of_lt_of_le ltX hBb)) 0 [.bool yx, .slice ya yn yc]), (oR.otherS (Nat.ne_of_gt (Nat.lt_of_lt_of_le ltR hBb)) 0 [.bool yx, .slice ya yn yc]), (oS.otherS (Nat.ne_of_gt (Nat.lt_of_lt_of_le ltS hBb)) 0 [.bool yx, .slice ya yn yc]), (oP.otherS (Nat.ne_of_gt (Nat.lt_of_lt_of_le ltP hBb)) 0 [.bool yx, .slice ya yn yc]), (mvP mp_is (keepP_stores (by decide) (by decide) [.bool yx, .slice ya yn yc] 0 hblk (nuI _ _ _ _) (nuI _ _ _ _)) f0), (mvP mp_is (keepP_stores (by decide) (by decide) [.bool yx, .slice ya yn yc] 0 hblk (nuI _ _ _ _) (nuI _ _ _ _)) f1), (mvP mp_is (keepP_stores (by decide) (by decide) [.bool yx, .slice ya yn yc] 0 hblk (nuI _ _ _ _) (nuI _ _ _ _)) f2), (mvP mp_is (keepP_stores (by decide) (by decide) [.bool yx, .slice ya yn yc] 0 hblk (nuI _ _ _ _) (nuI _ _ _ _)) f3), (mvP mp_is (keepP_stores (by decide) (by decide) [.bool yx, .slice ya yn yc] 0 hblk (nuI _ _ _ _) (nuI _ _ _ _)) f4), (mvP mp_is (keepP_stores (by decide) (by decide) [.bool yx, .slice ya yn yc] 0 hblk (nuI _ _ _ _) (nuI _ _ _ _)) f5), (mvP mp_is (keepP_stores (by decide) (by decide) [.bool yx, .slice ya yn yc] 0 hblk (nuI _ _ _ _) (nuI _ _ _ _)) f6), (mvP (mp_t2 mp_int mp_is) (keepP_stores (by decide) (by decide) [.bool yx, .slice ya yn yc] 0 hblk (nuI _ _ _ _) (nuI _ _ _ _)) f7), (mvP (mp_t2 mp_int mp_is) (keepP_stores (by decide) (by decide) [.bool yx, .slice ya yn yc] 0 hblk (nuI _ _ _ _) (nuI _ _ _ _)) f8), (mvP mp_int (keepP_stores (by decide) (by decide) [.bool yx, .slice ya yn yc] 0 hblk (nuI _ _ _ _) (nuI _ _ _ _)) f9), (mvP mp_is (keepP_stores (by decide) (by decide) [.bool yx, .slice ya yn yc] 0 hblk (nuI _ _ _ _) (nuI _ _ _ _)) f10), (fun _ => by simp only [cond_true, Bool.true_or, beq_self_eq_true]; exact storedU_new hp hsrc (NEWU.overS hBb hblk [.bool yx, .slice ya yn yc] rfl (nuI _ _ _ _))), (mvP mp_is (keepP_stores (by decide) (by decide) [.bool yx, .slice ya yn yc] 0 hblk (nuI _ _ _ _) (nuI _ _ _ _)) f13), (fun _ => by simp [haf]), (fun _ => by simp [haf])⟩
            refine StepsU.run rfl ?_ StepsU.nil
            · intro L U wr hF hlk haf A K hA hK
              have HA : Hid (A = putAll _ _ U) := hA
              clear hA
              simp [Aft, Region.binds] at haf
              obtain ⟨fb, fk, fs, oX, oR, oS, oP, f0, f1, f2, f3, f4, f5, f6, f7, f8, f9, f10, f11, f13, s12, m11⟩ := hF
              have g10 := f10 (by simp [haf])
              have e35 := rd HA.out 35 (by kernel_rfl) rfl
              refine ⟨?_⟩
              go_simp
              refine hK (upd U 10 (U 35)) _ _ ?_ ?_
              · rw [HA.out]; kernel_rfl
              · exact ⟨fb, fk, fs, oX, oR, oS, oP, f0, f1, f2, f3, f4, f5, f6, f7, f8, f9, f10, f11, (fun _ => g10), s12, m11⟩
          clear hbw oX oR oS oP
          intro L U1 V1 hall hF
          obtain ⟨hbw, fk, fs, oX, oR, oS, oP, f0, f1, f2, f3, f4, f5, f6, f7, f8, f9, f10, f11, f13, s12, m11⟩ := hF
          clear s12 m11
          have g0 := f0 (hall 0 (by decide))
          have g1 := f1 (hall 1 (by decide))
          have g2 := f2 (hall 2 (by decide))
          have g3 := f3 (hall 3 (by decide))
          have g4 := f4 (hall 4 (by decide))
          have g5 := f5 (hall 5 (by decide))
          have g6 := f6 (hall 6 (by decide))
          have g7 := f7 (hall 7 (by decide))
          have g8 := f8 (hall 8 (by decide))
          have g9 := f9 (hall 9 (by decide))
          have g10 := f10 (hall 10 (by decide))
          have g11 := f11 (hall 11 (by decide))
          rw [hall 12 (by decide), cond_true] at g11
          have g13 := f13 (hall 13 (by decide))
          clear hall f0 f1 f2 f3 f4 f5 f6 f7 f8 f9 f10 f11 f13
          replace hS := hS.keepP fk
          replace hE0 := hE0.keepP fk
          obtain ⟨bT, csT, hpT, lbT, hcsT, oT, -⟩ := g11
          obtain ⟨xT, aT, nT, cT, hvT⟩ := AInt.shape g9
          have hT : AInt _ _ _ := g9
          rw [hvT] at hT hcsT
          injection hcsT with hcsT
          subst hcsT
          clear hvT
          have ltT := oT.lt
          have neXT : w.heap.size ≠ bT := Nat.ne_of_lt (Nat.lt_of_lt_of_le ltX lbT)
          have neRT : w.heap.size + 1 ≠ bT := Nat.ne_of_lt (Nat.lt_of_lt_of_le ltR lbT)
          have neST : w.heap.size + 1 + 1 ≠ bT := Nat.ne_of_lt (Nat.lt_of_lt_of_le ltS lbT)
          have nePT : wl.heap.size ≠ bT := Nat.ne_of_lt (Nat.lt_of_lt_of_le ltP lbT)
          have lwT : w.heap.size ≤ bT := Nat.le_trans hbW.size lbT
          replace ltX := oX.lt
          replace ltR := oR.lt
          replace ltS := oS.lt
          replace ltP := oP.lt
          clear lbT
          try clear g0
          try clear g1
          try clear g2
          try clear g3
          try clear g4
          try clear g5
          try clear g6
          try clear g7
          try clear g8
          try clear g9
          try clear g10
          clear hbW
          simp only [setM_some, setM_none, setM_nil]
          rw [hpT]
          clear hpT
          clear fk fs
          have e10 : U1 10 = _ := g13
          rw [e10]
          rw [hz_of HM.out] at hT
          clear g13 e10
          by_cases hs : (s + pz * z).natAbs < lim
          · have E1 : ec (s + pz * z) = 0 := if_pos hs
            have HS : Hid ((s + pz * z).natAbs < lim) := hs
            clear hs
            obtain ⟨Sc0, Sc1, Sk0, Sk1⟩ := oS.two
            obtain ⟨Tc0, Tc1, Tk0, Tk1⟩ := oT.two
            go_wp2_with fail
            refine (add_h _ _ s (pz * z) _ hS hT).mono ?_
            rintro e w2 ⟨xQ, aQ, nQ, cQ, rfl, hQ, hb⟩
            clear Sc0 Sc1 Sk0 Sk1
            clear Tc0 Tc1 Tk0 Tk1
            replace oX := oX.stay hb
            replace ltX := oX.lt
            replace oR := oR.stay hb
            replace ltR := oR.lt
            replace oS := oS.stay hb
            replace ltS := oS.lt
            replace oP := oP.stay hb
            replace ltP := oP.lt
            replace oT := oT.stay hb
            replace ltT := oT.lt
            replace hS := hS.below hb
            replace hE0 := hE0.below hb
            replace hT := hT.below hb
            replace hbw := hbw.step hb (Nat.le_refl _)
            clear hb
            rw [hz_of HS.out] at hQ
            obtain ⟨Sc0, Sc1, Sk0, Sk1⟩ := oS.two
            go_wp2
            obtain ⟨hK, hB, hO⟩ := resI (by decide) (by decide) oS hbw lwS xQ aQ nQ cQ
            go_roundw
            case rel =>
              refine ⟨k + 1, s + pz * z, xQ, aQ, nQ, cQ, by omega, by go_num, oX.otherS (by omega) 0 [.bool xQ, .slice aQ nQ cQ], oR.otherS (by omega) 0 [.bool xQ, .slice aQ nQ cQ], hO, hQ.keepP hK, ?_, hB⟩
              show _ = _
              rw [HI.out, HST.out, if_pos (by rw [HVL.out]; exact hv), if_pos HM.out, if_pos HS.out]
            case measure => simp [intOf]; omega
          · have E1 : ec (s + pz * z) = 11 := if_neg hs
            have HS : Hid (¬ (s + pz * z).natAbs < lim) := hs
            clear hs
            have HN : Hid (ats r a zs = none) := by show _ = _; rw [HI.out, HST.out, if_pos (by rw [HVL.out]; exact hv), if_pos HM.out, if_neg HS.out]
            obtain ⟨Sc0, Sc1, Sk0, Sk1⟩ := oS.two
            obtain ⟨Tc0, Tc1, Tk0, Tk1⟩ := oT.two
            go_wp2_with fail
            refine (add_h _ _ s (pz * z) _ hS hT).mono ?_
            rintro e w2 ⟨xQ, aQ, nQ, cQ, rfl, hQ, hb⟩
            clear Sc0 Sc1 Sk0 Sk1
            clear Tc0 Tc1 Tk0 Tk1
            replace oX := oX.stay hb
            replace ltX := oX.lt
            replace oR := oR.stay hb
            replace ltR := oR.lt
            replace oS := oS.stay hb
            replace ltS := oS.lt
            replace oP := oP.stay hb
            replace ltP := oP.lt
            replace oT := oT.stay hb
            replace ltT := oT.lt
            replace hS := hS.below hb
            replace hE0 := hE0.below hb
            replace hT := hT.below hb
            replace hbw := hbw.step hb (Nat.le_refl _)
            clear hb
            obtain ⟨hK, hB, hO⟩ := resI (by decide) (by decide) oS hbw lwS xQ aQ nQ cQ
            replace oR := oR.otherS (show w.heap.size + 1 + 1 ≠ w.heap.size + 1 by omega) 0 [.bool xQ, .slice aQ nQ cQ]
            obtain ⟨Sc0, Sc1, Sk0, Sk1⟩ := oS.two
            obtain ⟨Rz0, Rz1, Rf0, Rf1⟩ := Blk.two (show Blk _ ((w2.setCell ⟨w.heap.size + 1 + 1, 0, none⟩ (.bool xQ)).setCell ⟨w.heap.size + 1 + 1, 1, none⟩ (.slice aQ nQ cQ)) _ _ from oR)
            try simp only []
            try go_at_K
            repeat (first | go_values | go_skip | go_guarded | go_step | go_upon)
            refine bodyPost_ret (v := .tuple #[.agg #[.bool false, .slice none 0 0], .int .i64 11]) (by simp [results, Tryz.results37, go_sem, Rz0, Rz1, E1]) rfl ?_
            obtain ⟨K1, B1, _⟩ := resI (by decide) (by decide) oR hB lwR false none 0 0
            refine ⟨false, none, 0, 0, ?_, ?_, B1⟩
            · unfold atE; rw [HN.out]; rfl
            · unfold atZ; rw [HN.out]; exact AInt.zero _
        · have E0 : ec (pz * z) = 11 := if_neg hm
          have HM : Hid (¬ (pz * z).natAbs < lim) := hm
          clear hm
          have HN : Hid (ats r a zs = none) := by show _ = _; rw [HI.out, HST.out, if_pos (by rw [HVL.out]; exact hv), if_neg HM.out]
          generalize (wl.alloc (.cells #[.int .i64 (pv : Nat), .bool sE, .slice aE mE cE] 116 (0, 0))) = W0 at hbw oX oR oS oP ltX ltR ltS ltP hS hE0 ⊢
          have hbW := hbw
          refine wp_region_M (by kernel_rfl) [9, 10, 25, 26, 27, 28, 29, 30, 31, 32, 33, 34, 35] [none, none, none, none, none, none, none, none, none, some 9, some 10, none, none, none, none, none, none, none, none, none, none, none, none, none, none, some 25, some 26, some 27, some 28, some 29, some 30, some 31, some 32, some 33, some 34, some 35] (fun U => by kernel_rfl) (fun L U wr => Below w.heap.size w wr ∧ KeepP W0 wr ∧ W0.heap.size ≤ wr.heap.size ∧ Blk 33 wr (w.heap.size) #[.slice (some ⟨gE, oE, none⟩) qX rX, .bool xX, .slice aX nX cX] ∧ Blk 31 wr (w.heap.size + 1) #[.bool false, .slice none 0 0] ∧ Blk 31 wr (w.heap.size + 1 + 1) #[.bool xS, .slice aS nS cS] ∧ Blk 116 wr (wl.heap.size) #[.int .i64 (pv : Nat), .bool sE, .slice aE mE cE] ∧ (L 0 = true → IS (.pointer (some ⟨wl.heap.size, 1, none⟩)) (U 26) wr) ∧ (L 1 = true → IS (.agg #[.bool sE, .slice aE mE cE]) (U 27) wr) ∧ (L 2 = true → IS (.slice (some ⟨gV, oV, none⟩) k9 vc) (U 28) wr) ∧ (L 3 = true → IS (.pointer (some ⟨wl.heap.size, 0, none⟩)) (U 29) wr) ∧ (L 4 = true → IS (.int .i64 (pv : Nat)) (U 30) wr) ∧ (L 5 = true → IS (.pointer (some ⟨gV, oV + pv * 2, none⟩)) (U 31) wr) ∧ (L 6 = true → IS (.agg #[.bool sV, .slice aV nV cV]) (U 32) wr) ∧ (L 7 = true → T2 (INT (hz (pz * z))) (IS (.int .i64 11)) (U 33) wr) ∧ (L 8 = true → T2 (INT (hz (pz * z))) (IS (.int .i64 11)) (U 25) wr) ∧ (L 9 = true → INT (hz (pz * z)) (U 34) wr) ∧ (L 10 = true → IS (.int .i64 11) (U 35) wr) ∧ (L 11 = true → NEWU 31 W0.heap.size wr (U 9) (bif L 12 then U 34 else .agg #[.bool false, .slice none 0 0])) ∧ (L 13 = true → IS (.int .i64 11) (U 10) wr) ∧ (L 12 = true → L 9 = true) ∧ (L 12 = true → L 11 = true)) (by kernel_rfl) ?_ ?_ ?_
          · exact fun U => ⟨hbw.drew, KeepP.below (Below.refl _ _).drew, Nat.le_refl _, oX.drew, oR.drew, oS.drew, oP.drew, (fun h => by cases h), (fun h => by cases h), (fun h => by cases h), (fun h => by cases h), (fun h => by cases h), (fun h => by cases h), (fun h => by cases h), (fun h => by cases h), (fun h => by cases h), (fun h => by cases h), (fun h => by cases h), (fun h => by cases h), (fun h => by cases h), (fun h => by cases h), (fun h => by cases h)⟩
          · refine StepsU.run rfl ?_ ?_
            · intro L U wr hF hlk haf A K hA hK
              have HA : Hid (A = putAll _ _ U) := hA
              clear hA
              simp [Aft, Region.binds] at haf
              obtain ⟨fb, fk, fs, oX, oR, oS, oP, f0, f1, f2, f3, f4, f5, f6, f7, f8, f9, f10, f11, f13, s12, m11⟩ := hF
              have e8 : A.tmps[8]? = some (.pointer (some ⟨wl.heap.size, 0, none⟩)) := by rw [HA.out]; kernel_rfl
              refine ⟨?_⟩
              go_simp
              refine hK (upd U 26 (.pointer (some ⟨wl.heap.size, 1, none⟩))) _ _ ?_ ?_
              · rw [HA.out]; kernel_rfl
              · exact ⟨fb, fk, fs, oX, oR, oS, oP, (fun _ => rfl), f1, f2, f3, f4, f5, f6, f7, f8, f9, f10, f11, f13, s12, m11⟩
            refine StepsU.run rfl ?_ ?_
            · intro L U wr hF hlk haf A K hA hK
              have HA : Hid (A = putAll _ _ U) := hA
              clear hA
              simp [Aft, Region.binds] at haf
              obtain ⟨fb, fk, fs, oX, oR, oS, oP, f0, f1, f2, f3, f4, f5, f6, f7, f8, f9, f10, f11, f13, s12, m11⟩ := hF
              have g0 := f0 (by simp [haf])
              have e26 := rd HA.out 26 (by kernel_rfl) g0
              have c1 := oP.cell 1
              have c2 := oP.cell 2
              simp at c1
              simp at c2
              refine ⟨?_⟩
              go_simp
              refine hK (upd U 27 (.agg #[.bool sE, .slice aE mE cE])) _ _ ?_ ?_
              · rw [HA.out]; kernel_rfl
              · exact ⟨fb, fk, fs, oX, oR, oS, oP, f0, (fun _ => rfl), f2, f3, f4, f5, f6, f7, f8, f9, f10, f11, f13, s12, m11⟩
            refine StepsU.run rfl ?_ ?_
            · intro L U wr hF hlk haf A K hA hK
              have HA : Hid (A = putAll _ _ U) := hA
              clear hA
              simp [Aft, Region.binds] at haf
              obtain ⟨fb, fk, fs, oX, oR, oS, oP, f0, f1, f2, f3, f4, f5, f6, f7, f8, f9, f10, f11, f13, s12, m11⟩ := hF
              have e1 : A.tmps[1]? = some (.slice (some ⟨gV, oV, none⟩) k9 vc) := by rw [HA.out]; kernel_rfl
              refine ⟨?_⟩
              go_simp
              refine hK (upd U 28 (.slice (some ⟨gV, oV, none⟩) k9 vc)) _ _ ?_ ?_
              · rw [HA.out]; kernel_rfl
              · exact ⟨fb, fk, fs, oX, oR, oS, oP, f0, f1, (fun _ => rfl), f3, f4, f5, f6, f7, f8, f9, f10, f11, f13, s12, m11⟩
            refine StepsU.run rfl ?_ ?_
            · intro L U wr hF hlk haf A K hA hK
              have HA : Hid (A = putAll _ _ U) := hA
              clear hA
              simp [Aft, Region.binds] at haf
              obtain ⟨fb, fk, fs, oX, oR, oS, oP, f0, f1, f2, f3, f4, f5, f6, f7, f8, f9, f10, f11, f13, s12, m11⟩ := hF
              have e8 : A.tmps[8]? = some (.pointer (some ⟨wl.heap.size, 0, none⟩)) := by rw [HA.out]; kernel_rfl
              refine ⟨?_⟩
              go_simp
              refine hK (upd U 29 (.pointer (some ⟨wl.heap.size, 0, none⟩))) _ _ ?_ ?_
              · rw [HA.out]; kernel_rfl
              · exact ⟨fb, fk, fs, oX, oR, oS, oP, f0, f1, f2, (fun _ => rfl), f4, f5, f6, f7, f8, f9, f10, f11, f13, s12, m11⟩
            refine StepsU.run rfl ?_ ?_
            · intro L U wr hF hlk haf A K hA hK
              have HA : Hid (A = putAll _ _ U) := hA
              clear hA
              simp [Aft, Region.binds] at haf
              obtain ⟨fb, fk, fs, oX, oR, oS, oP, f0, f1, f2, f3, f4, f5, f6, f7, f8, f9, f10, f11, f13, s12, m11⟩ := hF
              have g3 := f3 (by simp [haf])
              have e29 := rd HA.out 29 (by kernel_rfl) g3
              have c0 := oP.cell 0
              simp at c0
              refine ⟨?_⟩
              go_simp
              refine hK (upd U 30 (.int .i64 (pv : Nat))) _ _ ?_ ?_
              · rw [HA.out]; kernel_rfl
              · exact ⟨fb, fk, fs, oX, oR, oS, oP, f0, f1, f2, f3, (fun _ => rfl), f5, f6, f7, f8, f9, f10, f11, f13, s12, m11⟩
            refine StepsU.run rfl ?_ ?_
            · intro L U wr hF hlk haf A K hA hK
              have HA : Hid (A = putAll _ _ U) := hA
              clear hA
              simp [Aft, Region.binds] at haf
              obtain ⟨fb, fk, fs, oX, oR, oS, oP, f0, f1, f2, f3, f4, f5, f6, f7, f8, f9, f10, f11, f13, s12, m11⟩ := hF
              have g2 := f2 (by simp [haf])
              have g4 := f4 (by simp [haf])
              have e28 := rd HA.out 28 (by kernel_rfl) g2
              have e30 := rd HA.out 30 (by kernel_rfl) g4
              refine ⟨?_⟩
              go_simp
              refine hK (upd U 31 (.pointer (some ⟨gV, oV + pv * 2, none⟩))) _ _ ?_ ?_
              · rw [HA.out]; kernel_rfl
              · exact ⟨fb, fk, fs, oX, oR, oS, oP, f0, f1, f2, f3, f4, (fun _ => rfl), f6, f7, f8, f9, f10, f11, f13, s12, m11⟩
            refine StepsU.run rfl ?_ ?_
            · intro L U wr hF hlk haf A K hA hK
              have HA : Hid (A = putAll _ _ U) := hA
              clear hA
              simp [Aft, Region.binds] at haf
              obtain ⟨fb, fk, fs, oX, oR, oS, oP, f0, f1, f2, f3, f4, f5, f6, f7, f8, f9, f10, f11, f13, s12, m11⟩ := hF
              have g5 := f5 (by simp [haf])
              have kV0 := (fb.cell (p := ⟨gV, oV + pv * 2, none⟩) (World.block_lt_of_cell? w _ V0)).trans V0
              have kV1 := (fb.cell (p := ⟨gV, oV + pv * 2 + 1, none⟩) (World.block_lt_of_cell? w _ V1)).trans V1
              have e31 := rd HA.out 31 (by kernel_rfl) g5
              refine ⟨?_⟩
              go_simp
              refine hK (upd U 32 (.agg #[.bool sV, .slice aV nV cV])) _ _ ?_ ?_
              · rw [HA.out]; kernel_rfl
              · exact ⟨fb, fk, fs, oX, oR, oS, oP, f0, f1, f2, f3, f4, f5, (fun _ => rfl), f7, f8, f9, f10, f11, f13, s12, m11⟩
            refine StepsU.run rfl ?_ ?_
            · intro L U wr hF hlk haf A K hA hK
              have HA : Hid (A = putAll _ _ U) := hA
              clear hA
              simp [Aft, Region.binds] at haf
              obtain ⟨fb, fk, fs, oX, oR, oS, oP, f0, f1, f2, f3, f4, f5, f6, f7, f8, f9, f10, f11, f13, s12, m11⟩ := hF
              have g1 := f1 (by simp [haf])
              have e27 := rd HA.out 27 (by kernel_rfl) g1
              have g6 := f6 (by simp [haf])
              have e32 := rd HA.out 32 (by kernel_rfl) g6
              refine ⟨?_⟩
              go_simp
              refine (mul_h _ _ pz z _ (hE0.keepP fk) (hV.below fb)).mono ?_
              rintro e w1 ⟨u1, u2, u3, u4, rfl, hr, hb⟩
              go_simp
              refine hK (upd U 33 (.tuple #[.agg #[.bool u1, .slice u2 u3 u4], .int .i64 11])) _ _ ?_ ?_
              · rw [HA.out]; kernel_rfl
              · exact ⟨(fb.step hb (Nat.le_refl _)), (fk.trans (KeepP.below hb)), (Nat.le_trans fs hb.size), (oX.stay hb), (oR.stay hb), (oS.stay hb), (oP.stay hb), (mvP mp_is (KeepP.below hb) f0), (mvP mp_is (KeepP.below hb) f1), (mvP mp_is (KeepP.below hb) f2), (mvP mp_is (KeepP.below hb) f3), (mvP mp_is (KeepP.below hb) f4), (mvP mp_is (KeepP.below hb) f5), (mvP mp_is (KeepP.below hb) f6), (fun _ => ⟨_, _, rfl, hr, rfl⟩), (mvP (mp_t2 mp_int mp_is) (KeepP.below hb) f8), (mvP mp_int (KeepP.below hb) f9), (mvP mp_is (KeepP.below hb) f10), (fun h => (f11 h).below hb), (mvP mp_is (KeepP.below hb) f13), s12, m11⟩
            refine StepsU.run rfl ?_ ?_
            · intro L U wr hF hlk haf A K hA hK
              have HA : Hid (A = putAll _ _ U) := hA
              clear hA
              simp [Aft, Region.binds] at haf
              obtain ⟨fb, fk, fs, oX, oR, oS, oP, f0, f1, f2, f3, f4, f5, f6, f7, f8, f9, f10, f11, f13, s12, m11⟩ := hF
              have g7 := f7 (by simp [haf])
              have e33 := rd HA.out 33 (by kernel_rfl) rfl
              refine ⟨?_⟩
              go_simp
              refine hK (upd U 25 (U 33)) _ _ ?_ ?_
              · rw [HA.out]; kernel_rfl
              · exact ⟨fb, fk, fs, oX, oR, oS, oP, f0, f1, f2, f3, f4, f5, f6, f7, (fun _ => g7), f9, f10, f11, f13, s12, m11⟩
            refine StepsU.run rfl ?_ ?_
            · intro L U wr hF hlk haf A K hA hK
              have HA : Hid (A = putAll _ _ U) := hA
              clear hA
              simp [Aft, Region.binds] at haf
              obtain ⟨fb, fk, fs, oX, oR, oS, oP, f0, f1, f2, f3, f4, f5, f6, f7, f8, f9, f10, f11, f13, s12, m11⟩ := hF
              have g8 := f8 (by simp [haf])
              obtain ⟨t0, t1, hT, k0, k1⟩ := g8
              have e25 := rd HA.out 25 (by kernel_rfl) hT
              refine ⟨?_⟩
              go_simp
              have hs12 : L 12 = false := by cases h : L 12 with | false => rfl | true => rw [s12 h] at hlk; cases hlk
              refine hK (upd U 34 t0) _ _ ?_ ?_
              · rw [HA.out]; kernel_rfl
              · exact ⟨fb, fk, fs, oX, oR, oS, oP, f0, f1, f2, f3, f4, f5, f6, f7, f8, (fun _ => k0), f10, (fun h => flip_v (P := fun v => NEWU _ _ _ _ v) hs12 (f11 h)), f13, (fun _ => rfl), m11⟩
            refine StepsU.run rfl ?_ ?_
            · intro L U wr hF hlk haf A K hA hK
              have HA : Hid (A = putAll _ _ U) := hA
              clear hA
              simp [Aft, Region.binds] at haf
              obtain ⟨fb, fk, fs, oX, oR, oS, oP, f0, f1, f2, f3, f4, f5, f6, f7, f8, f9, f10, f11, f13, s12, m11⟩ := hF
              have g8 := f8 (by simp [haf])
              obtain ⟨t0, t1, hT, k0, k1⟩ := g8
              have e25 := rd HA.out 25 (by kernel_rfl) hT
              refine ⟨?_⟩
              go_simp
              refine hK (upd U 35 t1) _ _ ?_ ?_
              · rw [HA.out]; kernel_rfl
              · exact ⟨fb, fk, fs, oX, oR, oS, oP, f0, f1, f2, f3, f4, f5, f6, f7, f8, f9, (fun _ => k1), f11, f13, s12, m11⟩
            refine StepsU.run rfl ?_ ?_
            · intro L U wr hF hlk haf A K hA hK
              have HA : Hid (A = putAll _ _ U) := hA
              clear hA
              simp [Aft, Region.binds] at haf
              obtain ⟨fb, fk, fs, oX, oR, oS, oP, f0, f1, f2, f3, f4, f5, f6, f7, f8, f9, f10, f11, f13, s12, m11⟩ := hF
              have hst : L 12 = false := by cases h : L 12 with | false => rfl | true => rw [m11 h] at hlk; cases hlk
              refine ⟨?_⟩
              go_simp
              have hb := below_new wr (.cells #[.bool false, .slice none 0 0] 31 (0, 0))
              refine hK (upd U 9 (.pointer (some ⟨wr.heap.size, 0, none⟩))) _ _ ?_ ?_
              · rw [HA.out]; kernel_rfl
              · exact ⟨(fb.step hb (Nat.le_refl _)), (fk.trans (KeepP.below hb)), (Nat.le_trans fs hb.size), (oX.stay hb), (oR.stay hb), (oS.stay hb), (oP.stay hb), (mvP mp_is (KeepP.below hb) f0), (mvP mp_is (KeepP.below hb) f1), (mvP mp_is (KeepP.below hb) f2), (mvP mp_is (KeepP.below hb) f3), (mvP mp_is (KeepP.below hb) f4), (mvP mp_is (KeepP.below hb) f5), (mvP mp_is (KeepP.below hb) f6), (mvP (mp_t2 mp_int mp_is) (KeepP.below hb) f7), (mvP (mp_t2 mp_int mp_is) (KeepP.below hb) f8), (mvP mp_int (KeepP.below hb) f9), (mvP mp_is (KeepP.below hb) f10), (fun _ => newU_zero (by simp [hst]) (NEWU.mk fs (nuI _ _ _ _))), (mvP mp_is (KeepP.below hb) f13), s12, (fun _ => rfl)⟩
            refine StepsU.run rfl ?_ ?_
            · intro L U wr hF hlk haf A K hA hK
              have HA : Hid (A = putAll _ _ U) := hA
              clear hA
              simp [Aft, Region.binds] at haf
              obtain ⟨fb, fk, fs, oX, oR, oS, oP, f0, f1, f2, f3, f4, f5, f6, f7, f8, f9, f10, f11, f13, s12, m11⟩ := hF
              have g9 := f9 (by simp [haf])
              obtain ⟨yx, ya, yn, yc, hsrc⟩ := AInt.shape g9
              have e34 := rd HA.out 34 (by kernel_rfl) hsrc
              have g11 := f11 (by simp [haf])
              rw [hlk, cond_false] at g11
              obtain ⟨b, cs, hp, hBb, hcs, hblk, hN⟩ := g11
              injection hcs with hcs
              subst hcs
              have e9 := rd HA.out 9 (by kernel_rfl) hp
              have q0 := hblk.frozen 0
              have q1 := hblk.frozen 1
              have c0 := hblk.cell 0
              have c1 := hblk.cell 1
              simp at c0
              simp at c1
              have hlt := hblk.lt
              refine ⟨?_⟩
              go_simp
              refine hK U _ _ ?_ ?_
              · exact HA.out
              · exact ⟨(below_stores (Nat.le_trans (by exact hbW.size) hBb) [.bool yx, .slice ya yn yc] 0 fb), (fk.trans (keepP_stores (by decide) (by decide) [.bool yx, .slice ya yn yc] 0 hblk (nuI _ _ _ _) (nuI _ _ _ _))), (by simp; exact fs), (oX.otherS (Nat.ne_of_gt (Nat.lt_of_lt_of_le ltX hBb)) 0 [.bool yx, .slice ya yn yc]), (oR.otherS (Nat.ne_of_gt (Nat.lt_of_lt_of_le ltR hBb)) 0 [.bool yx, .slice ya yn yc]), (oS.otherS (Nat.ne_of_gt (Nat.lt_of_lt_of_le ltS hBb)) 0 [.bool yx, .slice ya yn yc]), (oP.otherS (Nat.ne_of_gt (Nat.lt_of_lt_of_le ltP hBb)) 0 [.bool yx, .slice ya yn yc]), (mvP mp_is (keepP_stores (by decide) (by decide) [.bool yx, .slice ya yn yc] 0 hblk (nuI _ _ _ _) (nuI _ _ _ _)) f0), (mvP mp_is (keepP_stores (by decide) (by decide) [.bool yx, .slice ya yn yc] 0 hblk (nuI _ _ _ _) (nuI _ _ _ _)) f1), (mvP mp_is (keepP_stores (by decide) (by decide) [.bool yx, .slice ya yn yc] 0 hblk (nuI _ _ _ _) (nuI _ _ _ _)) f2), (mvP mp_is (keepP_stores (by decide) (by decide) [.bool yx, .slice ya yn yc] 0 hblk (nuI _ _ _ _) (nuI _ _ _ _)) f3), (mvP mp_is (keepP_stores (by decide) (by decide) [.bool yx, .slice ya yn yc] 0 hblk (nuI _ _ _ _) (nuI _ _ _ _)) f4), (mvP mp_is (keepP_stores (by decide) (by decide) [.bool yx, .slice ya yn yc] 0 hblk (nuI _ _ _ _) (nuI _ _ _ _)) f5), (mvP mp_is (keepP_stores (by decide) (by decide) [.bool yx, .slice ya yn yc] 0 hblk (nuI _ _ _ _) (nuI _ _ _ _)) f6), (mvP (mp_t2 mp_int mp_is) (keepP_stores (by decide) (by decide) [.bool yx, .slice ya yn yc] 0 hblk (nuI _ _ _ _) (nuI _ _ _ _)) f7), (mvP (mp_t2 mp_int mp_is) (keepP_stores (by decide) (by decide) [.bool yx, .slice ya yn yc] 0 hblk (nuI _ _ _ _) (nuI _ _ _ _)) f8), (mvP mp_int (keepP_stores (by decide) (by decide) [.bool yx, .slice ya yn yc] 0 hblk (nuI _ _ _ _) (nuI _ _ _ _)) f9), (mvP mp_is (keepP_stores (by decide) (by decide) [.bool yx, .slice ya yn yc] 0 hblk (nuI _ _ _ _) (nuI _ _ _ _)) f10), (fun _ => by simp only [cond_true, Bool.true_or, beq_self_eq_true]; exact storedU_new hp hsrc (NEWU.overS hBb hblk [.bool yx, .slice ya yn yc] rfl (nuI _ _ _ _))), (mvP mp_is (keepP_stores (by decide) (by decide) [.bool yx, .slice ya yn yc] 0 hblk (nuI _ _ _ _) (nuI _ _ _ _)) f13), (fun _ => by simp [haf]), (fun _ => by simp [haf])⟩
            refine StepsU.run rfl ?_ StepsU.nil
            · intro L U wr hF hlk haf A K hA hK
              have HA : Hid (A = putAll _ _ U) := hA
              clear hA
              simp [Aft, Region.binds] at haf
              obtain ⟨fb, fk, fs, oX, oR, oS, oP, f0, f1, f2, f3, f4, f5, f6, f7, f8, f9, f10, f11, f13, s12, m11⟩ := hF
              have g10 := f10 (by simp [haf])
              have e35 := rd HA.out 35 (by kernel_rfl) rfl
              refine ⟨?_⟩
              go_simp
              refine hK (upd U 10 (U 35)) _ _ ?_ ?_
              · rw [HA.out]; kernel_rfl
              · exact ⟨fb, fk, fs, oX, oR, oS, oP, f0, f1, f2, f3, f4, f5, f6, f7, f8, f9, f10, f11, (fun _ => g10), s12, m11⟩
          clear hbw oX oR oS oP
          intro L U1 V1 hall hF
          obtain ⟨hbw, fk, fs, oX, oR, oS, oP, f0, f1, f2, f3, f4, f5, f6, f7, f8, f9, f10, f11, f13, s12, m11⟩ := hF
          clear s12 m11
          have g0 := f0 (hall 0 (by decide))
          have g1 := f1 (hall 1 (by decide))
          have g2 := f2 (hall 2 (by decide))
          have g3 := f3 (hall 3 (by decide))
          have g4 := f4 (hall 4 (by decide))
          have g5 := f5 (hall 5 (by decide))
          have g6 := f6 (hall 6 (by decide))
          have g7 := f7 (hall 7 (by decide))
          have g8 := f8 (hall 8 (by decide))
          have g9 := f9 (hall 9 (by decide))
          have g10 := f10 (hall 10 (by decide))
          have g11 := f11 (hall 11 (by decide))
          rw [hall 12 (by decide), cond_true] at g11
          have g13 := f13 (hall 13 (by decide))
          clear hall f0 f1 f2 f3 f4 f5 f6 f7 f8 f9 f10 f11 f13
          replace hS := hS.keepP fk
          replace hE0 := hE0.keepP fk
          obtain ⟨bT, csT, hpT, lbT, hcsT, oT, -⟩ := g11
          obtain ⟨xT, aT, nT, cT, hvT⟩ := AInt.shape g9
          have hT : AInt _ _ _ := g9
          rw [hvT] at hT hcsT
          injection hcsT with hcsT
          subst hcsT
          clear hvT
          have ltT := oT.lt
          have neXT : w.heap.size ≠ bT := Nat.ne_of_lt (Nat.lt_of_lt_of_le ltX lbT)
          have neRT : w.heap.size + 1 ≠ bT := Nat.ne_of_lt (Nat.lt_of_lt_of_le ltR lbT)
          have neST : w.heap.size + 1 + 1 ≠ bT := Nat.ne_of_lt (Nat.lt_of_lt_of_le ltS lbT)
          have nePT : wl.heap.size ≠ bT := Nat.ne_of_lt (Nat.lt_of_lt_of_le ltP lbT)
          have lwT : w.heap.size ≤ bT := Nat.le_trans hbW.size lbT
          replace ltX := oX.lt
          replace ltR := oR.lt
          replace ltS := oS.lt
          replace ltP := oP.lt
          clear lbT
          try clear g0
          try clear g1
          try clear g2
          try clear g3
          try clear g4
          try clear g5
          try clear g6
          try clear g7
          try clear g8
          try clear g9
          try clear g10
          clear hbW
          simp only [setM_some, setM_none, setM_nil]
          rw [hpT]
          clear hpT
          clear fk fs
          have e10 : U1 10 = _ := g13
          rw [e10]
          clear g13 e10
          obtain ⟨Rc0, Rc1, Rk0, Rk1⟩ := oR.two
          try simp only []
          try go_at_K
          repeat (first | go_values | go_skip | go_guarded | go_step | go_upon)
          refine bodyPost_ret (v := .tuple #[.agg #[.bool false, .slice none 0 0], .int .i64 11]) (by simp [results, Tryz.results37, go_sem, Rc0, Rc1]) rfl ?_
          obtain ⟨K1, B1, _⟩ := resI (by decide) (by decide) oR hbw lwR false none 0 0
          refine ⟨false, none, 0, 0, ?_, ?_, B1⟩
          · unfold atE; rw [HN.out]; rfl
          · unfold atZ; rw [HN.out]; exact AInt.zero _
      · have hv1 : (k9 : Int) ≤ pv := by omega
        have HN : Hid (ats r a zs = some s) := by show _ = _; rw [HI.out, HST.out, if_neg (by rw [HVL.out]; exact hv)]
        obtain ⟨Xc0, Xc1, Xc2⟩ := oX.three
        obtain ⟨Xk0, Xk1, Xk2⟩ := oX.frozen3
        obtain ⟨Rc0, Rc1, Rk0, Rk1⟩ := oR.two
        obtain ⟨Sc0, Sc1, Sk0, Sk1⟩ := oS.two
        try simp only []
        try go_at_K
        repeat (first | go_values | go_skip | go_guarded | go_step | go_upon)
        refine bodyPost_ret (v := .tuple #[.agg #[.bool xS, .slice aS nS cS], .int .i64 0]) (by simp [results, Tryz.results37, go_sem, Rc0, Rc1, ltR]) rfl ?_
        obtain ⟨K1, B1, _⟩ := resI (by decide) (by decide) oR hbw lwR xS aS nS cS
        refine ⟨xS, aS, nS, cS, ?_, ?_, B1.step (below_new _ _) (Nat.le_refl _)⟩
        · unfold atE; rw [HN.out]; rfl
        · unfold atZ; rw [HN.out]; exact (hS.keepP K1).below (below_new _ _)
    · have HN : Hid (ats r a zs = some s) := by show _ = _; rw [HI.out, List.drop_eq_nil_of_le (by rw [HLN.out]; omega)]; rfl
      obtain ⟨Rc0, Rc1, Rk0, Rk1⟩ := oR.two
      obtain ⟨Sc0, Sc1, Sk0, Sk1⟩ := oS.two
      try simp only []
      try go_at_K
      repeat (first | go_values | go_skip | go_guarded | go_step | go_upon)
      refine bodyPost_ret (v := .tuple #[.agg #[.bool xS, .slice aS nS cS], .int .i64 0]) (by simp [results, Tryz.results37, go_sem, Rc0, Rc1]) rfl ?_
      obtain ⟨K1, B1, _⟩ := resI (by decide) (by decide) oR hbw lwR xS aS nS cS
      refine ⟨xS, aS, nS, cS, ?_, ?_, B1⟩
      · unfold atE; rw [HN.out]; rfl
      · unfold atZ; rw [HN.out]; exact hS.keepP K1

end Go.Proofs.YteefniagebcagaaGreatDoor
