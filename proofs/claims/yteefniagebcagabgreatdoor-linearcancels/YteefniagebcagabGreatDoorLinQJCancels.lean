/- Contracts of linear's Common, Holds, Not, roundedDown; they prove no statement of the seat. -/
import Derived.Test.YteefniagebcagabGreatDoorLinPJCancels
import Derived.Test.YteefniagebcagabGreatDoorJoin12Cancels
import Derived.Test.YteefniagebcagabGreatDoorJoin16Cancels
namespace Go.Proofs.YteefniagebcagabGreatDoor
open Go.RowKit
set_option linter.unusedVariables false

/-- The coefficients' greatest common divisor. -/
def cm (l : List (Nat × Int)) : Int := l.foldl (fun g p => ((Int.gcd g p.2 : Nat) : Int)) 0
theorem cm_snoc (l : List (Nat × Int)) (p : Nat × Int) : cm (l ++ [p]) = ((Int.gcd (cm l) p.2 : Nat) : Int) := by unfold cm; rw [List.foldl_append]; rfl
theorem cm_take {l : List (Nat × Int)} {k pv : Nat} {pz : Int} (h : k < l.length) (hp : l.getD k (0, 0) = (pv, pz)) : ((Int.gcd (cm (l.take k)) pz : Nat) : Int) = cm (l.take (k + 1)) := by
  rw [List.take_succ_eq_append_getElem h, cm_snoc]
  rw [List.getD_eq_getElem?_getD, List.getElem?_eq_getElem h] at hp
  simp at hp
  rw [hp]
/-- The value v is the row: its sum's number is 0. -/
def RowR (w : World) (v : Value) (ps : List (Nat × Int)) (m : Int) : Prop := ∃ p q r x a n c y d l f, v = .agg #[.slice p q r, .bool x, .slice a n c, .bool y, .slice d l f] ∧ TP w p q r x a n c ps 0 ∧ AInt w (.agg #[.bool y, .slice d l f]) m
theorem RowR.shape {w : World} {v : Value} {ps : List (Nat × Int)} {m : Int} (h : RowR w v ps m) : ∃ p q r x a n c y d l f, v = .agg #[.slice p q r, .bool x, .slice a n c, .bool y, .slice d l f] := by
  obtain ⟨p, q, r, x, a, n, c, y, d, l, f, rfl, _⟩ := h
  exact ⟨p, q, r, x, a, n, c, y, d, l, f, rfl⟩
theorem RowR.keepP {w w' : World} {v : Value} {ps : List (Nat × Int)} {m : Int} (h : RowR w v ps m) (hk : KeepP w w') : RowR w' v ps m := by
  obtain ⟨p, q, r, x, a, n, c, y, d, l, f, rfl, h1, h2⟩ := h
  exact ⟨p, q, r, x, a, n, c, y, d, l, f, rfl, h1.keepP hk, h2.keepP hk⟩
theorem RowR.below {w w' : World} {v : Value} {ps : List (Nat × Int)} {m : Int} (h : RowR w v ps m) (hb : Below w.heap.size w w') : RowR w' v ps m := h.keepP (KeepP.below hb)
def ROW (ps : List (Nat × Int)) (m : Int) : Value → World → Prop := fun u w => RowR w u ps m
theorem mp_row {ps : List (Nat × Int)} {m : Int} : MonoP (ROW ps m) := fun _ _ _ hk h => RowR.keepP h hk
theorem RowR.zero (w : World) : RowR w (.agg #[.slice none 0 0, .bool false, .slice none 0 0, .bool false, .slice none 0 0]) [] 0 := ⟨_, _, _, _, _, _, _, _, _, _, _, rfl, TP.zero w, AInt.zero w⟩

set_option maxRecDepth 20000 in
set_option maxHeartbeats 8000000 in
theorem common_any (vX : Value) (a : List (Nat × Int)) (r : Int) (w : World) (hX : TermR w vX a r) :
    Calls Tryz.prog 28 #[vX] w fun e w' => ∃ x m n c, e = .returned (.agg #[.bool x, .slice m n c]) ∧ AInt w' (.agg #[.bool x, .slice m n c]) (cm a) ∧ Below w.heap.size w w' := by
  obtain ⟨pX, qX, rX, xX, aX, nX, cX, rfl, hX⟩ := hX
  have ha0 := hX.arr
  have oX := (((Blk.new w 30 #[.slice pX qX rX, .bool xX, .slice aX nX cX]).alloc (.cells #[.bool false, .slice none 0 0] 28 (0, 0))).alloc (.cells #[.bool false, .slice none 0 0] 28 (0, 0)))
  have oR := ((Blk.new (w.alloc (.cells #[.slice pX qX rX, .bool xX, .slice aX nX cX] 30 (0, 0))) 28 #[.bool false, .slice none 0 0]).alloc (.cells #[.bool false, .slice none 0 0] 28 (0, 0)))
  have oG := (Blk.new ((w.alloc (.cells #[.slice pX qX rX, .bool xX, .slice aX nX cX] 30 (0, 0))).alloc (.cells #[.bool false, .slice none 0 0] 28 (0, 0))) 28 #[.bool false, .slice none 0 0])
  simp only [World.size_alloc] at oR oG
  have hbw : Below w.heap.size w (((w.alloc (.cells #[.slice pX qX rX, .bool xX, .slice aX nX cX] 30 (0, 0))).alloc (.cells #[.bool false, .slice none 0 0] 28 (0, 0))).alloc (.cells #[.bool false, .slice none 0 0] 28 (0, 0))) := by go_grown
  replace hX := hX.below hbw
  have ltX := oX.lt
  have lwX : w.heap.size ≤ w.heap.size := by omega
  have ltR := oR.lt
  have lwR : w.heap.size ≤ w.heap.size + 1 := by omega
  have ltG := oG.lt
  have lwG : w.heap.size ≤ w.heap.size + 1 + 1 := by omega
  go_enter Tryz.func28, Tryz.ntmps28
  have HX : Hid (PArr w pX a) := ha0
  have HLN : Hid (a.length = qX) := hX.len
  have hlen := hX.n_le
  clear ha0
  obtain ⟨Xc0, Xc1, Xc2⟩ := oX.three
  obtain ⟨Xk0, Xk1, Xk2⟩ := oX.frozen3
  go_wp2
  go_loopw [9] (fun i wl => ∃ (k : Nat) (xG : Bool) (aG : Option Addr) (nG cG : Nat), k ≤ qX ∧ i = .int .i64 k ∧ Blk 30 wl w.heap.size #[.slice pX qX rX, .bool xX, .slice aX nX cX] ∧ Blk 28 wl (w.heap.size + 1) #[.bool false, .slice none 0 0] ∧ Blk 28 wl (w.heap.size + 1 + 1) #[.bool xG, .slice aG nG cG] ∧ AInt wl (.agg #[.bool xG, .slice aG nG cG]) (cm (a.take k)) ∧ Below w.heap.size w wl) (fun i _ => qX - (intOf i).toNat)
  case atStart => exact ⟨0, false, none, 0, 0, Nat.zero_le _, rfl, oX, oR, oG, AInt.zero _, hbw⟩
  case round =>
    rename World => wl
    clear oX oR oG hbw hX ltX ltR ltG Xc0 Xc1 Xc2 Xk0 Xk1 Xk2
    obtain ⟨k, xG, aG, nG, cG, hk, rfl, oX, oR, oG, hG, hbw⟩ := hrel
    have ltX := oX.lt
    have ltR := oR.lt
    have ltG := oG.lt
    by_cases h0 : k < qX
    · obtain ⟨gE, oE, sE, aE, mE, cE, had, k1, k2, k3, k4⟩ := HX.out.at k (by rw [HLN.out]; exact h0)
      subst had
      obtain ⟨pv, hpv⟩ : ∃ x9, x9 = (a.getD k (0, 0)).1 := ⟨_, rfl⟩
      obtain ⟨pz, hpz⟩ : ∃ x9, x9 = (a.getD k (0, 0)).2 := ⟨_, rfl⟩
      rw [← hpv] at k1
      rw [← hpz] at k4
      have HPV : Hid (a.getD k (0, 0) = (pv, pz)) := by show _ = _; rw [hpv, hpz]
      clear hpv hpz
      have A0 := (hbw.cell (p := ⟨gE, oE + k * 3, none⟩) (World.block_lt_of_cell? w _ k1)).trans k1
      have A1 := (hbw.cell (p := ⟨gE, oE + k * 3 + 1, none⟩) (World.block_lt_of_cell? w _ k2)).trans k2
      have A2 := (hbw.cell (p := ⟨gE, oE + k * 3 + 2, none⟩) (World.block_lt_of_cell? w _ k3)).trans k3
      have hE0 := k4.below hbw
      clear k1 k2 k3 k4
      have HCM : Hid (((Int.gcd (cm (a.take k)) pz : Nat) : Int) = cm (a.take (k + 1))) := cm_take (by rw [HLN.out]; exact h0) HPV.out
      have hn := below_new wl (.cells #[.int .i64 (pv : Nat), .bool sE, .slice aE mE cE] 78 (0, 0))
      obtain ⟨Xc0, Xc1, Xc2⟩ := oX.three
      obtain ⟨Xk0, Xk1, Xk2⟩ := oX.frozen3
      obtain ⟨Gc0, Gc1, Gk0, Gk1⟩ := oG.two
      go_wp2_with fail
      refine (gcd_h _ _ _ pz _ _ (hG.below hn) (hE0.below hn) HCM.out).mono ?_
      rintro e w2 ⟨xQ, aQ, nQ, cQ, rfl, hQ, hb2⟩
      have hb := hn.step hb2 (Nat.le_refl _)
      clear A0 A1 A2 hn hb2
      clear Xc0 Xc1 Xc2 Xk0 Xk1 Xk2
      clear Gc0 Gc1 Gk0 Gk1
      replace oX := oX.stay hb
      replace ltX := oX.lt
      replace oR := oR.stay hb
      replace ltR := oR.lt
      replace oG := oG.stay hb
      replace ltG := oG.lt
      replace hG := hG.below hb
      replace hbw := hbw.step hb (Nat.le_refl _)
      clear hb
      obtain ⟨Gc0, Gc1, Gk0, Gk1⟩ := oG.two
      go_wp2
      obtain ⟨hK, hB, hO⟩ := resI (by decide) (by decide) oG hbw (show w.heap.size ≤ w.heap.size + 1 + 1 by omega) xQ aQ nQ cQ
      go_roundw
      case rel => exact ⟨k + 1, xQ, aQ, nQ, cQ, by omega, by go_num, oX.otherS (by omega) 0 [.bool xQ, .slice aQ nQ cQ], oR.otherS (by omega) 0 [.bool xQ, .slice aQ nQ cQ], hO, hQ.keepP hK, hB⟩
      case measure => simp [intOf]; omega
    · have HN : Hid (a.take k = a) := List.take_of_length_le (by rw [HLN.out]; omega)
      obtain ⟨Rc0, Rc1, Rk0, Rk1⟩ := oR.two
      obtain ⟨Gc0, Gc1, Gk0, Gk1⟩ := oG.two
      try simp only []
      try go_at_K
      repeat (first | go_values | go_skip | go_guarded | go_step | go_upon)
      refine bodyPost_ret (v := .agg #[.bool xG, .slice aG nG cG]) (by simp [results, Tryz.results28, go_sem, Rc0, Rc1]) rfl ?_
      obtain ⟨K1, B1, _⟩ := resI (by decide) (by decide) oR hbw lwR xG aG nG cG
      rw [HN.out] at hG
      exact ⟨_, _, _, _, rfl, hG.keepP K1, B1⟩

/-- Does a row hold, by its sum's code and value? -/
def hBit (e z m : Int) : Bool := e == 0 && decide (z ≤ m)

set_option maxRecDepth 20000 in
set_option maxHeartbeats 8000000 in
theorem holds_any (vX : Value) (a : List (Nat × Int)) (m : Int) (vo : Option Addr) (k9 vc : Nat) (zs : List Int) (w : World) (hX : RowR w vX a m) (hvl : zs.length = k9) (hva : Arr w vo zs) (hk9 : k9 ≤ 1000) :
    Calls Tryz.prog 13 #[vX, .slice vo k9 vc] w fun e w' => e = .returned (.tuple #[.bool (hBit (atE a 0 zs) (atZ a 0 zs) m), .int .i64 (atE a 0 zs)]) ∧ Below w.heap.size w w' := by
  obtain ⟨pX, qX, rX, xX, aX, nX, cX, yX, dX, lX, fX, rfl, hX, hM⟩ := hX
  have oX := (Blk.new w 42 #[.slice pX qX rX, .bool xX, .slice aX nX cX, .bool yX, .slice dX lX fX])
  have hbw : Below w.heap.size w (w.alloc (.cells #[.slice pX qX rX, .bool xX, .slice aX nX cX, .bool yX, .slice dX lX fX] 42 (0, 0))) := by go_grown
  replace hX := hX.below hbw
  have ltX := oX.lt
  have lwX : w.heap.size ≤ w.heap.size := by omega
  go_enter Tryz.func13, Tryz.ntmps13
  replace hM := hM.below hbw
  have HVL : Hid (zs.length = k9) := hvl
  have hva2 := hva.below hbw
  clear hvl hva
  obtain ⟨Xc0, Xc1, Xc2, Xc3, Xc4⟩ := oX.five
  obtain ⟨Xk0, Xk1, Xk2, Xk3, Xk4⟩ := oX.frozen5
  go_wp2_with fail
  refine (lat_any _ a 0 vo k9 vc zs _ hX.val HVL.out hva2 hk9).mono ?_
  rintro e w1 ⟨xS, aS, nS, cS, rfl, hS, hb⟩
  clear Xc0 Xc1 Xc2 Xc3 Xc4 Xk0 Xk1 Xk2 Xk3 Xk4
  replace oX := oX.stay hb
  replace ltX := oX.lt
  replace hX := hX.below hb
  replace hM := hM.below hb
  replace hva2 := hva2.below hb
  replace hbw := hbw.step hb (Nat.le_refl _)
  clear hb
  by_cases hE : atE a 0 zs = 0
  · have hn := below_new w1 (.cells #[.bool xS, .slice aS nS cS] 28 (0, 0))
    have oS := Blk.new w1 28 #[.bool xS, .slice aS nS cS]
    have neXS : w.heap.size ≠ w1.heap.size := by have := ltX; (try simp at this); omega
    have lwS : w.heap.size ≤ w1.heap.size := by have := hbw.size; (try simp at this); omega
    replace oX := oX.stay hn
    replace ltX := oX.lt
    replace hX := hX.below hn
    replace hM := hM.below hn
    replace hva2 := hva2.below hn
    replace hS := hS.below hn
    replace hbw := hbw.step hn (Nat.le_refl _)
    clear hn
    have ltS := oS.lt
    have HE : Hid (atE a 0 zs = 0) := hE
    obtain ⟨Sc0, Sc1, Sk0, Sk1⟩ := oS.two
    obtain ⟨Xc0, Xc1, Xc2, Xc3, Xc4⟩ := oX.five
    obtain ⟨Xk0, Xk1, Xk2, Xk3, Xk4⟩ := oX.frozen5
    go_wp2_with fail
    refine (cmp_h _ _ (atZ a 0 zs) m _ _ hS hM rfl).mono ?_
    rintro e w2 ⟨rfl, hb⟩
    clear Sc0 Sc1 Sk0 Sk1
    clear Xc0 Xc1 Xc2 Xc3 Xc4 Xk0 Xk1 Xk2 Xk3 Xk4
    replace oX := oX.stay hb
    replace ltX := oX.lt
    replace oS := oS.stay hb
    replace ltS := oS.lt
    replace hX := hX.below hb
    replace hM := hM.below hb
    replace hva2 := hva2.below hb
    replace hS := hS.below hb
    replace hbw := hbw.step hb (Nat.le_refl _)
    clear hb
    go_wp2
    go_ret2
    have hb1 : hBit (atE a 0 zs) (atZ a 0 zs) m = decide (atZ a 0 zs - m ≤ 0) := by
      unfold hBit; rw [HE.out]
      rw [show ((0 : Int) == 0) = true from rfl, Bool.true_and]
      exact decide_eq_decide.2 (by omega)
    rw [hb1, HE.out]
    exact ⟨rfl, hbw⟩
  · have hE2 : (atE a 0 zs != 0) = true := by rw [bne_iff_ne]; exact hE
    have HE : Hid (atE a 0 zs ≠ 0) := hE
    clear hE
    go_wp2
    go_ret2
    have hb1 : hBit (atE a 0 zs) (atZ a 0 zs) m = false := by unfold hBit; rw [show (atE a 0 zs == 0) = false from beq_eq_false_iff_ne.2 HE.out]; rfl
    rw [hb1]
    exact ⟨rfl, hbw.step (below_new _ _) (Nat.le_refl _)⟩

set_option maxRecDepth 20000 in
set_option maxHeartbeats 8000000 in
theorem rounded_any (vA vB : Value) (x y q : Int) (w : World) (hA : AInt w vA x) (hB : AInt w vB y) (hy : y ≠ 0) (hq : x.fdiv y = q) :
    Calls Tryz.prog 52 #[vA, vB] w fun e w' => ∃ x m n c, e = .returned (.agg #[.bool x, .slice m n c]) ∧ AInt w' (.agg #[.bool x, .slice m n c]) q ∧ Below w.heap.size w w' := by
  obtain ⟨xA, aA, nA, cA, rfl⟩ := hA.shape
  obtain ⟨xB, aB, nB, cB, rfl⟩ := hB.shape
  have HY : Hid (y ≠ 0) := hy
  have HQ : Hid (x.fdiv y = q) := hq
  clear hy hq
  have oA := (((Blk.new w 28 #[.bool xA, .slice aA nA cA]).alloc (.cells #[.bool xB, .slice aB nB cB] 28 (0, 0))).alloc (.cells #[.bool false, .slice none 0 0] 28 (0, 0)))
  have oB := ((Blk.new (w.alloc (.cells #[.bool xA, .slice aA nA cA] 28 (0, 0))) 28 #[.bool xB, .slice aB nB cB]).alloc (.cells #[.bool false, .slice none 0 0] 28 (0, 0)))
  have oR := (Blk.new ((w.alloc (.cells #[.bool xA, .slice aA nA cA] 28 (0, 0))).alloc (.cells #[.bool xB, .slice aB nB cB] 28 (0, 0))) 28 #[.bool false, .slice none 0 0])
  simp only [World.size_alloc] at oB oR
  have hbw : Below w.heap.size w (((w.alloc (.cells #[.bool xA, .slice aA nA cA] 28 (0, 0))).alloc (.cells #[.bool xB, .slice aB nB cB] 28 (0, 0))).alloc (.cells #[.bool false, .slice none 0 0] 28 (0, 0))) := by go_grown
  replace hA := hA.below hbw
  replace hB := hB.below hbw
  have ltA := oA.lt
  have lwA : w.heap.size ≤ w.heap.size := by omega
  have ltB := oB.lt
  have lwB : w.heap.size ≤ w.heap.size + 1 := by omega
  have ltR := oR.lt
  have lwR : w.heap.size ≤ w.heap.size + 1 + 1 := by omega
  go_enter Tryz.func52, Tryz.ntmps52
  obtain ⟨Ac0, Ac1, Ak0, Ak1⟩ := oA.two
  obtain ⟨Bc0, Bc1, Bk0, Bk1⟩ := oB.two
  go_wp2_with fail
  refine (div_h _ _ x y q _ _ hA hB HY.out HQ.out rfl).mono ?_
  rintro e w1 ⟨xQ, aQ, nQ, cQ, xM, aM, nM, cM, rfl, hQ, hM, hb⟩
  clear Ac0 Ac1 Ak0 Ak1
  clear Bc0 Bc1 Bk0 Bk1
  replace oA := oA.stay hb
  replace ltA := oA.lt
  replace oB := oB.stay hb
  replace ltB := oB.lt
  replace oR := oR.stay hb
  replace ltR := oR.lt
  replace hA := hA.below hb
  replace hB := hB.below hb
  replace hbw := hbw.step hb (Nat.le_refl _)
  clear hb
  obtain ⟨Rc0, Rc1, Rk0, Rk1⟩ := oR.two
  try simp only []
  try go_at_K
  repeat (first | go_values | go_skip | go_guarded | go_step | go_upon)
  obtain ⟨K1, B1, O1⟩ := resI (by decide) (by decide) oR hbw lwR xQ aQ nQ cQ
  have oF := (O1.alloc (.cells #[.bool xQ, .slice aQ nQ cQ] 28 (0, 0))).alloc (.cells #[.bool xM, .slice aM nM cM] 28 (0, 0))
  obtain ⟨F0, F1, -, -⟩ := oF.two
  refine bodyPost_ret (v := .agg #[.bool xQ, .slice aQ nQ cQ]) (by simp [results, Tryz.results52, go_sem, F0, F1]) rfl ?_
  exact ⟨_, _, _, _, rfl, ((hQ.keepP K1).below (below_new _ _)).below (below_new _ _), (B1.step (below_new _ _) (Nat.le_refl _)).step (below_new _ _) (Nat.le_refl _)⟩

/-- What a call that can be refused tells: the row, or nothing and the code. -/
def RRes (ok : Prop) (ps : List (Nat × Int)) (m : Int) (v : Value) (c : Int) (w : World) : Prop := (ok ∧ c = 0 ∧ RowR w v ps m) ∨ (¬ ok ∧ c = 11 ∧ RowR w v [] 0)

set_option maxRecDepth 20000 in
set_option maxHeartbeats 8000000 in
theorem lnot_any (vX : Value) (a : List (Nat × Int)) (m : Int) (w : World) (hX : RowR w vX a m) :
    Calls Tryz.prog 21 #[vX] w fun e w' => ∃ v c, e = .returned (.tuple #[v, .int .i64 c]) ∧ RRes ((m + 1).natAbs < lim) (mulP a (-1)) (-(m + 1)) v c w' ∧ Below w.heap.size w w' := by
  obtain ⟨pX, qX, rX, xX, aX, nX, cX, yX, dX, lX, fX, rfl, hX, hM⟩ := hX
  have oX := ((Blk.new w 42 #[.slice pX qX rX, .bool xX, .slice aX nX cX, .bool yX, .slice dX lX fX]).alloc (.cells #[.slice none 0 0, .bool false, .slice none 0 0, .bool false, .slice none 0 0] 42 (0, 0)))
  have oR := (Blk.new (w.alloc (.cells #[.slice pX qX rX, .bool xX, .slice aX nX cX, .bool yX, .slice dX lX fX] 42 (0, 0))) 42 #[.slice none 0 0, .bool false, .slice none 0 0, .bool false, .slice none 0 0])
  simp only [World.size_alloc] at oR
  have hbw : Below w.heap.size w ((w.alloc (.cells #[.slice pX qX rX, .bool xX, .slice aX nX cX, .bool yX, .slice dX lX fX] 42 (0, 0))).alloc (.cells #[.slice none 0 0, .bool false, .slice none 0 0, .bool false, .slice none 0 0] 42 (0, 0))) := by go_grown
  replace hX := hX.below hbw
  have ltX := oX.lt
  have lwX : w.heap.size ≤ w.heap.size := by omega
  have ltR := oR.lt
  have lwR : w.heap.size ≤ w.heap.size + 1 := by omega
  go_enter Tryz.func21, Tryz.ntmps21
  replace hM := hM.below hbw
  go_wp2
  by_cases hr : (m + 1).natAbs < lim
  · have E0 : ec (m + 1) = 0 := if_pos hr
    have HR : Hid ((m + 1).natAbs < lim) := hr
    clear hr
    generalize ((w.alloc (.cells #[.slice pX qX rX, .bool xX, .slice aX nX cX, .bool yX, .slice dX lX fX] 42 (0, 0))).alloc (.cells #[.slice none 0 0, .bool false, .slice none 0 0, .bool false, .slice none 0 0] 42 (0, 0))) = W0 at hbw oX oR ltX ltR hX hM ⊢
    have hbW := hbw
    refine wp_region_M (by kernel_rfl) [4, 5, 6, 7, 8, 9, 10, 11, 12] [none, none, none, none, some 4, some 5, some 6, some 7, some 8, some 9, some 10, some 11, some 12] (fun U => by kernel_rfl) (fun L U wr => Below w.heap.size w wr ∧ KeepP W0 wr ∧ W0.heap.size ≤ wr.heap.size ∧ Blk 42 wr (w.heap.size) #[.slice pX qX rX, .bool xX, .slice aX nX cX, .bool yX, .slice dX lX fX] ∧ Blk 42 wr (w.heap.size + 1) #[.slice none 0 0, .bool false, .slice none 0 0, .bool false, .slice none 0 0] ∧ (L 0 = true → IS (.pointer (some ⟨w.heap.size, 3, none⟩)) (U 7) wr) ∧ (L 1 = true → IS (.agg #[.bool yX, .slice dX lX fX]) (U 8) wr) ∧ (L 2 = true → INT 1 (U 9) wr) ∧ (L 3 = true → T2 (INT (hz (m + 1))) (IS (.int .i64 0)) (U 10) wr) ∧ (L 4 = true → T2 (INT (hz (m + 1))) (IS (.int .i64 0)) (U 6) wr) ∧ (L 5 = true → INT (hz (m + 1)) (U 11) wr) ∧ (L 6 = true → IS (.int .i64 0) (U 12) wr) ∧ (L 7 = true → NEWU 28 W0.heap.size wr (U 4) (bif L 8 then U 11 else .agg #[.bool false, .slice none 0 0])) ∧ (L 9 = true → IS (.int .i64 0) (U 5) wr) ∧ (L 8 = true → L 5 = true) ∧ (L 8 = true → L 7 = true)) (by kernel_rfl) ?_ ?_ ?_
    · exact fun U => ⟨hbw.drew, KeepP.below (Below.refl _ _).drew, Nat.le_refl _, oX.drew, oR.drew, (fun h => by cases h), (fun h => by cases h), (fun h => by cases h), (fun h => by cases h), (fun h => by cases h), (fun h => by cases h), (fun h => by cases h), (fun h => by cases h), (fun h => by cases h), (fun h => by cases h), (fun h => by cases h)⟩
    · refine StepsU.run rfl ?_ ?_
      · intro L U wr hF hlk haf A K hA hK
        have HA : Hid (A = putAll _ _ U) := hA
        clear hA
        simp [Aft, Region.binds] at haf
        obtain ⟨fb, fk, fs, oX, oR, f0, f1, f2, f3, f4, f5, f6, f7, f9, s8, m7⟩ := hF
        have e1 : A.tmps[1]? = some (.pointer (some ⟨w.heap.size, 0, none⟩)) := by rw [HA.out]; kernel_rfl
        refine ⟨?_⟩
        go_simp
        refine hK (upd U 7 (.pointer (some ⟨w.heap.size, 3, none⟩))) _ _ ?_ ?_
        · rw [HA.out]; kernel_rfl
        · exact ⟨fb, fk, fs, oX, oR, (fun _ => rfl), f1, f2, f3, f4, f5, f6, f7, f9, s8, m7⟩
      refine StepsU.run rfl ?_ ?_
      · intro L U wr hF hlk haf A K hA hK
        have HA : Hid (A = putAll _ _ U) := hA
        clear hA
        simp [Aft, Region.binds] at haf
        obtain ⟨fb, fk, fs, oX, oR, f0, f1, f2, f3, f4, f5, f6, f7, f9, s8, m7⟩ := hF
        have g0 := f0 (by simp [haf])
        have e7 := rd HA.out 7 (by kernel_rfl) g0
        have c3 := oX.cell 3
        have c4 := oX.cell 4
        simp at c3
        simp at c4
        refine ⟨?_⟩
        go_simp
        refine hK (upd U 8 (.agg #[.bool yX, .slice dX lX fX])) _ _ ?_ ?_
        · rw [HA.out]; kernel_rfl
        · exact ⟨fb, fk, fs, oX, oR, f0, (fun _ => rfl), f2, f3, f4, f5, f6, f7, f9, s8, m7⟩
      refine StepsU.run rfl ?_ ?_
      · intro L U wr hF hlk haf A K hA hK
        have HA : Hid (A = putAll _ _ U) := hA
        clear hA
        simp [Aft, Region.binds] at haf
        obtain ⟨fb, fk, fs, oX, oR, f0, f1, f2, f3, f4, f5, f6, f7, f9, s8, m7⟩ := hF
        refine ⟨?_⟩
        go_simp
        refine (from_h 1 _ (by decide) (by decide)).mono ?_
        rintro e w1 ⟨u1, u2, u3, u4, rfl, hr, hb⟩
        go_simp
        refine hK (upd U 9 (.agg #[.bool u1, .slice u2 u3 u4])) _ _ ?_ ?_
        · rw [HA.out]; kernel_rfl
        · exact ⟨(fb.step hb (Nat.le_refl _)), (fk.trans (KeepP.below hb)), (Nat.le_trans fs hb.size), (oX.stay hb), (oR.stay hb), (mvP mp_is (KeepP.below hb) f0), (mvP mp_is (KeepP.below hb) f1), (fun _ => hr), (mvP (mp_t2 mp_int mp_is) (KeepP.below hb) f3), (mvP (mp_t2 mp_int mp_is) (KeepP.below hb) f4), (mvP mp_int (KeepP.below hb) f5), (mvP mp_is (KeepP.below hb) f6), (fun h => (f7 h).below hb), (mvP mp_is (KeepP.below hb) f9), s8, m7⟩
      refine StepsU.run rfl ?_ ?_
      · intro L U wr hF hlk haf A K hA hK
        have HA : Hid (A = putAll _ _ U) := hA
        clear hA
        simp [Aft, Region.binds] at haf
        obtain ⟨fb, fk, fs, oX, oR, f0, f1, f2, f3, f4, f5, f6, f7, f9, s8, m7⟩ := hF
        have g1 := f1 (by simp [haf])
        have e8 := rd HA.out 8 (by kernel_rfl) g1
        have g2 := f2 (by simp [haf])
        have e9 := rd HA.out 9 (by kernel_rfl) rfl
        refine ⟨?_⟩
        go_simp
        refine (add_h _ _ m 1 _ (hM.keepP fk) g2).mono ?_
        rintro e w1 ⟨u1, u2, u3, u4, rfl, hr, hb⟩
        go_simp
        refine hK (upd U 10 (.tuple #[.agg #[.bool u1, .slice u2 u3 u4], .int .i64 0])) _ _ ?_ ?_
        · rw [HA.out]; kernel_rfl
        · exact ⟨(fb.step hb (Nat.le_refl _)), (fk.trans (KeepP.below hb)), (Nat.le_trans fs hb.size), (oX.stay hb), (oR.stay hb), (mvP mp_is (KeepP.below hb) f0), (mvP mp_is (KeepP.below hb) f1), (mvP mp_int (KeepP.below hb) f2), (fun _ => ⟨_, _, rfl, hr, rfl⟩), (mvP (mp_t2 mp_int mp_is) (KeepP.below hb) f4), (mvP mp_int (KeepP.below hb) f5), (mvP mp_is (KeepP.below hb) f6), (fun h => (f7 h).below hb), (mvP mp_is (KeepP.below hb) f9), s8, m7⟩
      refine StepsU.run rfl ?_ ?_
      · intro L U wr hF hlk haf A K hA hK
        have HA : Hid (A = putAll _ _ U) := hA
        clear hA
        simp [Aft, Region.binds] at haf
        obtain ⟨fb, fk, fs, oX, oR, f0, f1, f2, f3, f4, f5, f6, f7, f9, s8, m7⟩ := hF
        have g3 := f3 (by simp [haf])
        have e10 := rd HA.out 10 (by kernel_rfl) rfl
        refine ⟨?_⟩
        go_simp
        refine hK (upd U 6 (U 10)) _ _ ?_ ?_
        · rw [HA.out]; kernel_rfl
        · exact ⟨fb, fk, fs, oX, oR, f0, f1, f2, f3, (fun _ => g3), f5, f6, f7, f9, s8, m7⟩
      refine StepsU.run rfl ?_ ?_
      · intro L U wr hF hlk haf A K hA hK
        have HA : Hid (A = putAll _ _ U) := hA
        clear hA
        simp [Aft, Region.binds] at haf
        obtain ⟨fb, fk, fs, oX, oR, f0, f1, f2, f3, f4, f5, f6, f7, f9, s8, m7⟩ := hF
        have g4 := f4 (by simp [haf])
        obtain ⟨t0, t1, hT, k0, k1⟩ := g4
        have e6 := rd HA.out 6 (by kernel_rfl) hT
        refine ⟨?_⟩
        go_simp
        have hs8 : L 8 = false := by cases h : L 8 with | false => rfl | true => rw [s8 h] at hlk; cases hlk
        refine hK (upd U 11 t0) _ _ ?_ ?_
        · rw [HA.out]; kernel_rfl
        · exact ⟨fb, fk, fs, oX, oR, f0, f1, f2, f3, f4, (fun _ => k0), f6, (fun h => flip_v (P := fun v => NEWU _ _ _ _ v) hs8 (f7 h)), f9, (fun _ => rfl), m7⟩
      refine StepsU.run rfl ?_ ?_
      · intro L U wr hF hlk haf A K hA hK
        have HA : Hid (A = putAll _ _ U) := hA
        clear hA
        simp [Aft, Region.binds] at haf
        obtain ⟨fb, fk, fs, oX, oR, f0, f1, f2, f3, f4, f5, f6, f7, f9, s8, m7⟩ := hF
        have g4 := f4 (by simp [haf])
        obtain ⟨t0, t1, hT, k0, k1⟩ := g4
        have e6 := rd HA.out 6 (by kernel_rfl) hT
        refine ⟨?_⟩
        go_simp
        refine hK (upd U 12 t1) _ _ ?_ ?_
        · rw [HA.out]; kernel_rfl
        · exact ⟨fb, fk, fs, oX, oR, f0, f1, f2, f3, f4, f5, (fun _ => k1), f7, f9, s8, m7⟩
      refine StepsU.run rfl ?_ ?_
      · intro L U wr hF hlk haf A K hA hK
        have HA : Hid (A = putAll _ _ U) := hA
        clear hA
        simp [Aft, Region.binds] at haf
        obtain ⟨fb, fk, fs, oX, oR, f0, f1, f2, f3, f4, f5, f6, f7, f9, s8, m7⟩ := hF
        have hst : L 8 = false := by cases h : L 8 with | false => rfl | true => rw [m7 h] at hlk; cases hlk
        refine ⟨?_⟩
        go_simp
        have hb := below_new wr (.cells #[.bool false, .slice none 0 0] 28 (0, 0))
        refine hK (upd U 4 (.pointer (some ⟨wr.heap.size, 0, none⟩))) _ _ ?_ ?_
        · rw [HA.out]; kernel_rfl
        · exact ⟨(fb.step hb (Nat.le_refl _)), (fk.trans (KeepP.below hb)), (Nat.le_trans fs hb.size), (oX.stay hb), (oR.stay hb), (mvP mp_is (KeepP.below hb) f0), (mvP mp_is (KeepP.below hb) f1), (mvP mp_int (KeepP.below hb) f2), (mvP (mp_t2 mp_int mp_is) (KeepP.below hb) f3), (mvP (mp_t2 mp_int mp_is) (KeepP.below hb) f4), (mvP mp_int (KeepP.below hb) f5), (mvP mp_is (KeepP.below hb) f6), (fun _ => newU_zero (by simp [hst]) (NEWU.mk fs (nuI _ _ _ _))), (mvP mp_is (KeepP.below hb) f9), s8, (fun _ => rfl)⟩
      refine StepsU.run rfl ?_ ?_
      · intro L U wr hF hlk haf A K hA hK
        have HA : Hid (A = putAll _ _ U) := hA
        clear hA
        simp [Aft, Region.binds] at haf
        obtain ⟨fb, fk, fs, oX, oR, f0, f1, f2, f3, f4, f5, f6, f7, f9, s8, m7⟩ := hF
        have g5 := f5 (by simp [haf])
        obtain ⟨yx, ya, yn, yc, hsrc⟩ := AInt.shape g5
        have e11 := rd HA.out 11 (by kernel_rfl) hsrc
        have g7 := f7 (by simp [haf])
        rw [hlk, cond_false] at g7
        obtain ⟨b, cs, hp, hBb, hcs, hblk, hN⟩ := g7
        injection hcs with hcs
        subst hcs
        have e4 := rd HA.out 4 (by kernel_rfl) hp
        have q0 := hblk.frozen 0
        have q1 := hblk.frozen 1
        have c0 := hblk.cell 0
        have c1 := hblk.cell 1
        simp at c0
        simp at c1
        have hlt := hblk.lt
        refine ⟨?_⟩
        go_simp
        refine hK U _ _ ?_ ?_
        · exact HA.out
        · exact ⟨(below_stores (Nat.le_trans (by exact hbW.size) hBb) [.bool yx, .slice ya yn yc] 0 fb), (fk.trans (keepP_stores (by decide) (by decide) [.bool yx, .slice ya yn yc] 0 hblk (nuI _ _ _ _) (nuI _ _ _ _))), (by simp; exact fs), (oX.otherS (Nat.ne_of_gt (Nat.lt_of_lt_of_le ltX hBb)) 0 [.bool yx, .slice ya yn yc]), (oR.otherS (Nat.ne_of_gt (Nat.lt_of_lt_of_le ltR hBb)) 0 [.bool yx, .slice ya yn yc]), (mvP mp_is (keepP_stores (by decide) (by decide) [.bool yx, .slice ya yn yc] 0 hblk (nuI _ _ _ _) (nuI _ _ _ _)) f0), (mvP mp_is (keepP_stores (by decide) (by decide) [.bool yx, .slice ya yn yc] 0 hblk (nuI _ _ _ _) (nuI _ _ _ _)) f1), (mvP mp_int (keepP_stores (by decide) (by decide) [.bool yx, .slice ya yn yc] 0 hblk (nuI _ _ _ _) (nuI _ _ _ _)) f2), (mvP (mp_t2 mp_int mp_is) (keepP_stores (by decide) (by decide) [.bool yx, .slice ya yn yc] 0 hblk (nuI _ _ _ _) (nuI _ _ _ _)) f3), (mvP (mp_t2 mp_int mp_is) (keepP_stores (by decide) (by decide) [.bool yx, .slice ya yn yc] 0 hblk (nuI _ _ _ _) (nuI _ _ _ _)) f4), (mvP mp_int (keepP_stores (by decide) (by decide) [.bool yx, .slice ya yn yc] 0 hblk (nuI _ _ _ _) (nuI _ _ _ _)) f5), (mvP mp_is (keepP_stores (by decide) (by decide) [.bool yx, .slice ya yn yc] 0 hblk (nuI _ _ _ _) (nuI _ _ _ _)) f6), (fun _ => by simp only [cond_true, Bool.true_or, beq_self_eq_true]; exact storedU_new hp hsrc (NEWU.overS hBb hblk [.bool yx, .slice ya yn yc] rfl (nuI _ _ _ _))), (mvP mp_is (keepP_stores (by decide) (by decide) [.bool yx, .slice ya yn yc] 0 hblk (nuI _ _ _ _) (nuI _ _ _ _)) f9), (fun _ => by simp [haf]), (fun _ => by simp [haf])⟩
      refine StepsU.run rfl ?_ StepsU.nil
      · intro L U wr hF hlk haf A K hA hK
        have HA : Hid (A = putAll _ _ U) := hA
        clear hA
        simp [Aft, Region.binds] at haf
        obtain ⟨fb, fk, fs, oX, oR, f0, f1, f2, f3, f4, f5, f6, f7, f9, s8, m7⟩ := hF
        have g6 := f6 (by simp [haf])
        have e12 := rd HA.out 12 (by kernel_rfl) rfl
        refine ⟨?_⟩
        go_simp
        refine hK (upd U 5 (U 12)) _ _ ?_ ?_
        · rw [HA.out]; kernel_rfl
        · exact ⟨fb, fk, fs, oX, oR, f0, f1, f2, f3, f4, f5, f6, f7, (fun _ => g6), s8, m7⟩
    clear hbw oX oR
    intro L U1 V1 hall hF
    obtain ⟨hbw, fk, fs, oX, oR, f0, f1, f2, f3, f4, f5, f6, f7, f9, s8, m7⟩ := hF
    clear s8 m7
    have g0 := f0 (hall 0 (by decide))
    have g1 := f1 (hall 1 (by decide))
    have g2 := f2 (hall 2 (by decide))
    have g3 := f3 (hall 3 (by decide))
    have g4 := f4 (hall 4 (by decide))
    have g5 := f5 (hall 5 (by decide))
    have g6 := f6 (hall 6 (by decide))
    have g7 := f7 (hall 7 (by decide))
    rw [hall 8 (by decide), cond_true] at g7
    have g9 := f9 (hall 9 (by decide))
    clear hall f0 f1 f2 f3 f4 f5 f6 f7 f9
    replace hX := hX.keepP fk
    replace hM := hM.keepP fk
    obtain ⟨bT, csT, hpT, lbT, hcsT, oT, -⟩ := g7
    obtain ⟨xT, aT, nT, cT, hvT⟩ := AInt.shape g5
    have hT : AInt _ _ _ := g5
    rw [hvT] at hT hcsT
    injection hcsT with hcsT
    subst hcsT
    clear hvT
    have ltT := oT.lt
    have neXT : w.heap.size ≠ bT := Nat.ne_of_lt (Nat.lt_of_lt_of_le ltX lbT)
    have neRT : w.heap.size + 1 ≠ bT := Nat.ne_of_lt (Nat.lt_of_lt_of_le ltR lbT)
    have lwT : w.heap.size ≤ bT := Nat.le_trans hbW.size lbT
    replace ltX := oX.lt
    replace ltR := oR.lt
    clear lbT
    try clear g0
    try clear g1
    try clear g2
    try clear g3
    try clear g4
    try clear g5
    try clear g6
    clear hbW
    simp only [setM_some, setM_none, setM_nil]
    rw [hpT]
    clear hpT
    clear fk fs
    have e5 : U1 5 = _ := g9
    rw [e5]
    clear g9 e5
    rw [hz_of HR.out] at hT
    go_wp2
    have geR : w.heap.size ≤ w.heap.size + 1 := lwR
    have neRX : w.heap.size + 1 ≠ w.heap.size := by omega
    have hbW := hbw
    refine wp_region_M (by kernel_rfl) [3, 17, 18, 19, 20, 21, 22] [none, none, none, some 3, none, none, none, none, none, none, none, none, none, none, none, none, none, some 17, some 18, some 19, some 20, some 21, some 22] (fun U => by kernel_rfl) (fun L U wr => Below w.heap.size w wr ∧ KeepP V1 wr ∧ V1.heap.size ≤ wr.heap.size ∧ Blk 42 wr (w.heap.size) #[.slice pX qX rX, .bool xX, .slice aX nX cX, .bool yX, .slice dX lX fX] ∧ Blk 28 wr (bT) #[.bool xT, .slice aT nT cT] ∧ BlkV 42 wr (w.heap.size + 1) (bif L 6 then U 22 else .agg #[.slice none 0 0, .bool false, .slice none 0 0, .bool false, .slice none 0 0]) ∧ (L 0 = true → IS (.pointer (some ⟨w.heap.size, 0, none⟩)) (U 17) wr) ∧ (L 1 = true → IS (.agg #[.slice pX qX rX, .bool xX, .slice aX nX cX]) (U 18) wr) ∧ (L 2 = true → TRM (mulP a (-1)) (-0) (U 19) wr) ∧ (L 3 = true → IS (.agg #[.bool xT, .slice aT nT cT]) (U 20) wr) ∧ (L 4 = true → INT (-(m + 1)) (U 21) wr) ∧ (L 5 = true → ROW (mulP a (-1)) (-(m + 1)) (U 22) wr) ∧ (L 7 = true → IS (.int .i64 0) (U 3) wr) ∧ (L 6 = true → L 5 = true)) (by kernel_rfl) ?_ ?_ ?_
    · exact fun U => ⟨hbw.drew, KeepP.below (Below.refl _ _).drew, Nat.le_refl _, oX.drew, oT.drew, ⟨_, rfl, oR.drew⟩, (fun h => by cases h), (fun h => by cases h), (fun h => by cases h), (fun h => by cases h), (fun h => by cases h), (fun h => by cases h), (fun h => by cases h), (fun h => by cases h)⟩
    · refine StepsU.run rfl ?_ ?_
      · intro L U wr hF hlk haf A K hA hK
        have HA : Hid (A = putAll _ _ U) := hA
        clear hA
        simp [Aft, Region.binds] at haf
        obtain ⟨fb, fk, fs, oX, oT, rR, f0, f1, f2, f3, f4, f5, f7, s6⟩ := hF
        have e1 : A.tmps[1]? = some (.pointer (some ⟨w.heap.size, 0, none⟩)) := by rw [HA.out]; kernel_rfl
        refine ⟨?_⟩
        go_simp
        refine hK (upd U 17 (.pointer (some ⟨w.heap.size, 0, none⟩))) _ _ ?_ ?_
        · rw [HA.out]; kernel_rfl
        · exact ⟨fb, fk, fs, oX, oT, rR, (fun _ => rfl), f1, f2, f3, f4, f5, f7, s6⟩
      refine StepsU.run rfl ?_ ?_
      · intro L U wr hF hlk haf A K hA hK
        have HA : Hid (A = putAll _ _ U) := hA
        clear hA
        simp [Aft, Region.binds] at haf
        obtain ⟨fb, fk, fs, oX, oT, rR, f0, f1, f2, f3, f4, f5, f7, s6⟩ := hF
        have g0 := f0 (by simp [haf])
        have e17 := rd HA.out 17 (by kernel_rfl) g0
        have c0 := oX.cell 0
        have c1 := oX.cell 1
        have c2 := oX.cell 2
        simp at c0
        simp at c1
        simp at c2
        refine ⟨?_⟩
        go_simp
        refine hK (upd U 18 (.agg #[.slice pX qX rX, .bool xX, .slice aX nX cX])) _ _ ?_ ?_
        · rw [HA.out]; kernel_rfl
        · exact ⟨fb, fk, fs, oX, oT, rR, f0, (fun _ => rfl), f2, f3, f4, f5, f7, s6⟩
      refine StepsU.run rfl ?_ ?_
      · intro L U wr hF hlk haf A K hA hK
        have HA : Hid (A = putAll _ _ U) := hA
        clear hA
        simp [Aft, Region.binds] at haf
        obtain ⟨fb, fk, fs, oX, oT, rR, f0, f1, f2, f3, f4, f5, f7, s6⟩ := hF
        have g1 := f1 (by simp [haf])
        have e18 := rd HA.out 18 (by kernel_rfl) g1
        refine ⟨?_⟩
        go_simp
        refine (lneg_any _ a 0 _ (hX.keepP fk).val).mono ?_
        rintro e w1 ⟨v, rfl, hr, hb⟩
        go_simp
        refine hK (upd U 19 v) _ _ ?_ ?_
        · rw [HA.out]; kernel_rfl
        · exact ⟨(fb.step hb (Nat.le_refl _)), (fk.trans (KeepP.below hb)), (Nat.le_trans fs hb.size), (oX.stay hb), (oT.stay hb), (rR.stay hb), (mvP mp_is (KeepP.below hb) f0), (mvP mp_is (KeepP.below hb) f1), (fun _ => hr), (mvP mp_is (KeepP.below hb) f3), (mvP mp_int (KeepP.below hb) f4), (mvP mp_row (KeepP.below hb) f5), (mvP mp_is (KeepP.below hb) f7), s6⟩
      refine StepsU.run rfl ?_ ?_
      · intro L U wr hF hlk haf A K hA hK
        have HA : Hid (A = putAll _ _ U) := hA
        clear hA
        simp [Aft, Region.binds] at haf
        obtain ⟨fb, fk, fs, oX, oT, rR, f0, f1, f2, f3, f4, f5, f7, s6⟩ := hF
        have e4 : A.tmps[4]? = some (.pointer (some ⟨bT, 0, none⟩)) := by rw [HA.out]; kernel_rfl
        have c0 := oT.cell 0
        have c1 := oT.cell 1
        simp at c0
        simp at c1
        refine ⟨?_⟩
        go_simp
        refine hK (upd U 20 (.agg #[.bool xT, .slice aT nT cT])) _ _ ?_ ?_
        · rw [HA.out]; kernel_rfl
        · exact ⟨fb, fk, fs, oX, oT, rR, f0, f1, f2, (fun _ => rfl), f4, f5, f7, s6⟩
      refine StepsU.run rfl ?_ ?_
      · intro L U wr hF hlk haf A K hA hK
        have HA : Hid (A = putAll _ _ U) := hA
        clear hA
        simp [Aft, Region.binds] at haf
        obtain ⟨fb, fk, fs, oX, oT, rR, f0, f1, f2, f3, f4, f5, f7, s6⟩ := hF
        have g3 := f3 (by simp [haf])
        have e20 := rd HA.out 20 (by kernel_rfl) g3
        refine ⟨?_⟩
        go_simp
        refine (neg_h _ (m + 1) _ (hT.keepP fk)).mono ?_
        rintro e w1 ⟨u1, u2, u3, u4, rfl, hr, hb⟩
        go_simp
        refine hK (upd U 21 (.agg #[.bool u1, .slice u2 u3 u4])) _ _ ?_ ?_
        · rw [HA.out]; kernel_rfl
        · exact ⟨(fb.step hb (Nat.le_refl _)), (fk.trans (KeepP.below hb)), (Nat.le_trans fs hb.size), (oX.stay hb), (oT.stay hb), (rR.stay hb), (mvP mp_is (KeepP.below hb) f0), (mvP mp_is (KeepP.below hb) f1), (mvP mp_trm (KeepP.below hb) f2), (mvP mp_is (KeepP.below hb) f3), (fun _ => hr), (mvP mp_row (KeepP.below hb) f5), (mvP mp_is (KeepP.below hb) f7), s6⟩
      refine StepsU.run rfl ?_ ?_
      · intro L U wr hF hlk haf A K hA hK
        have HA : Hid (A = putAll _ _ U) := hA
        clear hA
        simp [Aft, Region.binds] at haf
        obtain ⟨fb, fk, fs, oX, oT, rR, f0, f1, f2, f3, f4, f5, f7, s6⟩ := hF
        have g2 := f2 (by simp [haf])
        have g4 := f4 (by simp [haf])
        obtain ⟨y1, y2, y3, y4, y5, y6, y7, hv, hT1⟩ := g2
        obtain ⟨y8, y9, ya, yb, hv2⟩ := AInt.shape g4
        have hT2 : AInt _ _ _ := g4
        rw [hv2] at hT2
        have e19 := rd HA.out 19 (by kernel_rfl) hv
        have e21 := rd HA.out 21 (by kernel_rfl) hv2
        refine ⟨?_⟩
        go_simp
        have hs6 : L 6 = false := by cases h : L 6 with | false => rfl | true => rw [s6 h] at hlk; cases hlk
        refine hK (upd U 22 (.agg #[.slice y1 y2 y3, .bool y4, .slice y5 y6 y7, .bool y8, .slice y9 ya yb])) _ _ ?_ ?_
        · rw [HA.out]; kernel_rfl
        · exact ⟨fb, fk, fs, oX, oT, (flip_v (P := fun v => BlkV _ _ _ v) hs6 rR), f0, f1, f2, f3, f4, (fun _ => ⟨_, _, _, _, _, _, _, _, _, _, _, rfl, hT1, hT2⟩), f7, (fun _ => rfl)⟩
      refine StepsU.run rfl ?_ ?_
      · intro L U wr hF hlk haf A K hA hK
        have HA : Hid (A = putAll _ _ U) := hA
        clear hA
        simp [Aft, Region.binds] at haf
        obtain ⟨fb, fk, fs, oX, oT, rR, f0, f1, f2, f3, f4, f5, f7, s6⟩ := hF
        have g5 := f5 (by simp [haf])
        obtain ⟨yp, yq, yr, yx, ya, yn, yc, yy, yd, yl, yf, hsrc⟩ := RowR.shape g5
        have e22 := rd HA.out 22 (by kernel_rfl) hsrc
        have e2 : A.tmps[2]? = some (.pointer (some ⟨w.heap.size + 1, 0, none⟩)) := by rw [HA.out]; kernel_rfl
        have rV := rR
        rw [hlk, cond_false] at rV
        obtain ⟨cs, hcs, hblk⟩ := rV
        injection hcs with hcs
        subst hcs
        have q0 := hblk.frozen 0
        have q1 := hblk.frozen 1
        have q2 := hblk.frozen 2
        have q3 := hblk.frozen 3
        have q4 := hblk.frozen 4
        have c0 := hblk.cell 0
        have c1 := hblk.cell 1
        have c2 := hblk.cell 2
        have c3 := hblk.cell 3
        have c4 := hblk.cell 4
        simp at c0
        simp at c1
        simp at c2
        simp at c3
        simp at c4
        have hlt := hblk.lt
        refine ⟨?_⟩
        go_simp
        refine hK U _ _ ?_ ?_
        · exact HA.out
        · exact ⟨(below_stores geR [.slice yp yq yr, .bool yx, .slice ya yn yc, .bool yy, .slice yd yl yf] 0 fb), (fk.trans (keepP_stores (by decide) (by decide) [.slice yp yq yr, .bool yx, .slice ya yn yc, .bool yy, .slice yd yl yf] 0 hblk (nuR _ _ _ _ _ _ _ _ _ _ _) (nuR _ _ _ _ _ _ _ _ _ _ _))), (by simp; exact fs), (oX.otherS neRX 0 [.slice yp yq yr, .bool yx, .slice ya yn yc, .bool yy, .slice yd yl yf]), (oT.otherS neRT 0 [.slice yp yq yr, .bool yx, .slice ya yn yc, .bool yy, .slice yd yl yf]), (by simp only [cond_true, Bool.true_or, beq_self_eq_true]; exact ⟨_, hsrc, hblk.overS [.slice yp yq yr, .bool yx, .slice ya yn yc, .bool yy, .slice yd yl yf] 0 rfl⟩), (mvP mp_is (keepP_stores (by decide) (by decide) [.slice yp yq yr, .bool yx, .slice ya yn yc, .bool yy, .slice yd yl yf] 0 hblk (nuR _ _ _ _ _ _ _ _ _ _ _) (nuR _ _ _ _ _ _ _ _ _ _ _)) f0), (mvP mp_is (keepP_stores (by decide) (by decide) [.slice yp yq yr, .bool yx, .slice ya yn yc, .bool yy, .slice yd yl yf] 0 hblk (nuR _ _ _ _ _ _ _ _ _ _ _) (nuR _ _ _ _ _ _ _ _ _ _ _)) f1), (mvP mp_trm (keepP_stores (by decide) (by decide) [.slice yp yq yr, .bool yx, .slice ya yn yc, .bool yy, .slice yd yl yf] 0 hblk (nuR _ _ _ _ _ _ _ _ _ _ _) (nuR _ _ _ _ _ _ _ _ _ _ _)) f2), (mvP mp_is (keepP_stores (by decide) (by decide) [.slice yp yq yr, .bool yx, .slice ya yn yc, .bool yy, .slice yd yl yf] 0 hblk (nuR _ _ _ _ _ _ _ _ _ _ _) (nuR _ _ _ _ _ _ _ _ _ _ _)) f3), (mvP mp_int (keepP_stores (by decide) (by decide) [.slice yp yq yr, .bool yx, .slice ya yn yc, .bool yy, .slice yd yl yf] 0 hblk (nuR _ _ _ _ _ _ _ _ _ _ _) (nuR _ _ _ _ _ _ _ _ _ _ _)) f4), (mvP mp_row (keepP_stores (by decide) (by decide) [.slice yp yq yr, .bool yx, .slice ya yn yc, .bool yy, .slice yd yl yf] 0 hblk (nuR _ _ _ _ _ _ _ _ _ _ _) (nuR _ _ _ _ _ _ _ _ _ _ _)) f5), (mvP mp_is (keepP_stores (by decide) (by decide) [.slice yp yq yr, .bool yx, .slice ya yn yc, .bool yy, .slice yd yl yf] 0 hblk (nuR _ _ _ _ _ _ _ _ _ _ _) (nuR _ _ _ _ _ _ _ _ _ _ _)) f7), (fun _ => by simp [haf])⟩
      refine StepsU.run rfl ?_ StepsU.nil
      · intro L U wr hF hlk haf A K hA hK
        have HA : Hid (A = putAll _ _ U) := hA
        clear hA
        simp [Aft, Region.binds] at haf
        obtain ⟨fb, fk, fs, oX, oT, rR, f0, f1, f2, f3, f4, f5, f7, s6⟩ := hF
        refine ⟨?_⟩
        go_simp
        refine hK (upd U 3 (.int .i64 0)) _ _ ?_ ?_
        · rw [HA.out]; kernel_rfl
        · exact ⟨fb, fk, fs, oX, oT, rR, f0, f1, f2, f3, f4, f5, (fun _ => rfl), s6⟩
    clear hbw oX oT oR
    intro L U2 V2 hall hF
    obtain ⟨hbw, fk, fs, oX, oT, rR, f0, f1, f2, f3, f4, f5, f7, s6⟩ := hF
    clear s6
    have g0 := f0 (hall 0 (by decide))
    have g1 := f1 (hall 1 (by decide))
    have g2 := f2 (hall 2 (by decide))
    have g3 := f3 (hall 3 (by decide))
    have g4 := f4 (hall 4 (by decide))
    have g5 := f5 (hall 5 (by decide))
    have g7 := f7 (hall 7 (by decide))
    rw [hall 6 (by decide), cond_true] at rR
    clear hall f0 f1 f2 f3 f4 f5 f7
    replace hX := hX.keepP fk
    replace hM := hM.keepP fk
    replace hT := hT.keepP fk
    obtain ⟨csR, hcsR, oR⟩ := rR
    obtain ⟨pR, qR, rR, xR, aR, nR, cR, yR, dR, lR, fR, hvR⟩ := RowR.shape g5
    have hR : RowR _ _ _ _ := g5
    rw [hvR] at hR hcsR
    injection hcsR with hcsR
    subst hcsR
    clear hvR
    replace ltR := oR.lt
    replace ltX := oX.lt
    replace ltT := oT.lt
    try clear g0
    try clear g1
    try clear g2
    try clear g3
    try clear g4
    try clear g5
    clear hbW
    simp only [setM_some, setM_none, setM_nil]
    clear fk fs
    have e3 : U2 3 = _ := g7
    obtain ⟨Rc0, Rc1, Rc2, Rc3, Rc4⟩ := oR.five
    obtain ⟨Rk0, Rk1, Rk2, Rk3, Rk4⟩ := oR.frozen5
    try simp only []
    try go_at_K
    repeat (first | go_values | go_skip | go_guarded | go_step | go_upon)
    refine bodyPost_ret (v := .tuple #[.agg #[.slice pR qR rR, .bool xR, .slice aR nR cR, .bool yR, .slice dR lR fR], .int .i64 0]) (by simp [results, Tryz.results21, go_sem, Rc0, Rc1, Rc2, Rc3, Rc4, e3]) rfl ?_
    exact ⟨_, _, rfl, Or.inl ⟨HR.out, rfl, hR⟩, hbw⟩
  · have E0 : ec (m + 1) = 11 := if_neg hr
    have HR : Hid (¬ (m + 1).natAbs < lim) := hr
    clear hr
    generalize ((w.alloc (.cells #[.slice pX qX rX, .bool xX, .slice aX nX cX, .bool yX, .slice dX lX fX] 42 (0, 0))).alloc (.cells #[.slice none 0 0, .bool false, .slice none 0 0, .bool false, .slice none 0 0] 42 (0, 0))) = W0 at hbw oX oR ltX ltR hX hM ⊢
    have hbW := hbw
    refine wp_region_M (by kernel_rfl) [4, 5, 6, 7, 8, 9, 10, 11, 12] [none, none, none, none, some 4, some 5, some 6, some 7, some 8, some 9, some 10, some 11, some 12] (fun U => by kernel_rfl) (fun L U wr => Below w.heap.size w wr ∧ KeepP W0 wr ∧ W0.heap.size ≤ wr.heap.size ∧ Blk 42 wr (w.heap.size) #[.slice pX qX rX, .bool xX, .slice aX nX cX, .bool yX, .slice dX lX fX] ∧ Blk 42 wr (w.heap.size + 1) #[.slice none 0 0, .bool false, .slice none 0 0, .bool false, .slice none 0 0] ∧ (L 0 = true → IS (.pointer (some ⟨w.heap.size, 3, none⟩)) (U 7) wr) ∧ (L 1 = true → IS (.agg #[.bool yX, .slice dX lX fX]) (U 8) wr) ∧ (L 2 = true → INT 1 (U 9) wr) ∧ (L 3 = true → T2 (INT (hz (m + 1))) (IS (.int .i64 11)) (U 10) wr) ∧ (L 4 = true → T2 (INT (hz (m + 1))) (IS (.int .i64 11)) (U 6) wr) ∧ (L 5 = true → INT (hz (m + 1)) (U 11) wr) ∧ (L 6 = true → IS (.int .i64 11) (U 12) wr) ∧ (L 7 = true → NEWU 28 W0.heap.size wr (U 4) (bif L 8 then U 11 else .agg #[.bool false, .slice none 0 0])) ∧ (L 9 = true → IS (.int .i64 11) (U 5) wr) ∧ (L 8 = true → L 5 = true) ∧ (L 8 = true → L 7 = true)) (by kernel_rfl) ?_ ?_ ?_
    · exact fun U => ⟨hbw.drew, KeepP.below (Below.refl _ _).drew, Nat.le_refl _, oX.drew, oR.drew, (fun h => by cases h), (fun h => by cases h), (fun h => by cases h), (fun h => by cases h), (fun h => by cases h), (fun h => by cases h), (fun h => by cases h), (fun h => by cases h), (fun h => by cases h), (fun h => by cases h), (fun h => by cases h)⟩
    · refine StepsU.run rfl ?_ ?_
      · intro L U wr hF hlk haf A K hA hK
        have HA : Hid (A = putAll _ _ U) := hA
        clear hA
        simp [Aft, Region.binds] at haf
        obtain ⟨fb, fk, fs, oX, oR, f0, f1, f2, f3, f4, f5, f6, f7, f9, s8, m7⟩ := hF
        have e1 : A.tmps[1]? = some (.pointer (some ⟨w.heap.size, 0, none⟩)) := by rw [HA.out]; kernel_rfl
        refine ⟨?_⟩
        go_simp
        refine hK (upd U 7 (.pointer (some ⟨w.heap.size, 3, none⟩))) _ _ ?_ ?_
        · rw [HA.out]; kernel_rfl
        · exact ⟨fb, fk, fs, oX, oR, (fun _ => rfl), f1, f2, f3, f4, f5, f6, f7, f9, s8, m7⟩
      refine StepsU.run rfl ?_ ?_
      · intro L U wr hF hlk haf A K hA hK
        have HA : Hid (A = putAll _ _ U) := hA
        clear hA
        simp [Aft, Region.binds] at haf
        obtain ⟨fb, fk, fs, oX, oR, f0, f1, f2, f3, f4, f5, f6, f7, f9, s8, m7⟩ := hF
        have g0 := f0 (by simp [haf])
        have e7 := rd HA.out 7 (by kernel_rfl) g0
        have c3 := oX.cell 3
        have c4 := oX.cell 4
        simp at c3
        simp at c4
        refine ⟨?_⟩
        go_simp
        refine hK (upd U 8 (.agg #[.bool yX, .slice dX lX fX])) _ _ ?_ ?_
        · rw [HA.out]; kernel_rfl
        · exact ⟨fb, fk, fs, oX, oR, f0, (fun _ => rfl), f2, f3, f4, f5, f6, f7, f9, s8, m7⟩
      refine StepsU.run rfl ?_ ?_
      · intro L U wr hF hlk haf A K hA hK
        have HA : Hid (A = putAll _ _ U) := hA
        clear hA
        simp [Aft, Region.binds] at haf
        obtain ⟨fb, fk, fs, oX, oR, f0, f1, f2, f3, f4, f5, f6, f7, f9, s8, m7⟩ := hF
        refine ⟨?_⟩
        go_simp
        refine (from_h 1 _ (by decide) (by decide)).mono ?_
        rintro e w1 ⟨u1, u2, u3, u4, rfl, hr, hb⟩
        go_simp
        refine hK (upd U 9 (.agg #[.bool u1, .slice u2 u3 u4])) _ _ ?_ ?_
        · rw [HA.out]; kernel_rfl
        · exact ⟨(fb.step hb (Nat.le_refl _)), (fk.trans (KeepP.below hb)), (Nat.le_trans fs hb.size), (oX.stay hb), (oR.stay hb), (mvP mp_is (KeepP.below hb) f0), (mvP mp_is (KeepP.below hb) f1), (fun _ => hr), (mvP (mp_t2 mp_int mp_is) (KeepP.below hb) f3), (mvP (mp_t2 mp_int mp_is) (KeepP.below hb) f4), (mvP mp_int (KeepP.below hb) f5), (mvP mp_is (KeepP.below hb) f6), (fun h => (f7 h).below hb), (mvP mp_is (KeepP.below hb) f9), s8, m7⟩
      refine StepsU.run rfl ?_ ?_
      · intro L U wr hF hlk haf A K hA hK
        have HA : Hid (A = putAll _ _ U) := hA
        clear hA
        simp [Aft, Region.binds] at haf
        obtain ⟨fb, fk, fs, oX, oR, f0, f1, f2, f3, f4, f5, f6, f7, f9, s8, m7⟩ := hF
        have g1 := f1 (by simp [haf])
        have e8 := rd HA.out 8 (by kernel_rfl) g1
        have g2 := f2 (by simp [haf])
        have e9 := rd HA.out 9 (by kernel_rfl) rfl
        refine ⟨?_⟩
        go_simp
        refine (add_h _ _ m 1 _ (hM.keepP fk) g2).mono ?_
        rintro e w1 ⟨u1, u2, u3, u4, rfl, hr, hb⟩
        go_simp
        refine hK (upd U 10 (.tuple #[.agg #[.bool u1, .slice u2 u3 u4], .int .i64 11])) _ _ ?_ ?_
        · rw [HA.out]; kernel_rfl
        · exact ⟨(fb.step hb (Nat.le_refl _)), (fk.trans (KeepP.below hb)), (Nat.le_trans fs hb.size), (oX.stay hb), (oR.stay hb), (mvP mp_is (KeepP.below hb) f0), (mvP mp_is (KeepP.below hb) f1), (mvP mp_int (KeepP.below hb) f2), (fun _ => ⟨_, _, rfl, hr, rfl⟩), (mvP (mp_t2 mp_int mp_is) (KeepP.below hb) f4), (mvP mp_int (KeepP.below hb) f5), (mvP mp_is (KeepP.below hb) f6), (fun h => (f7 h).below hb), (mvP mp_is (KeepP.below hb) f9), s8, m7⟩
      refine StepsU.run rfl ?_ ?_
      · intro L U wr hF hlk haf A K hA hK
        have HA : Hid (A = putAll _ _ U) := hA
        clear hA
        simp [Aft, Region.binds] at haf
        obtain ⟨fb, fk, fs, oX, oR, f0, f1, f2, f3, f4, f5, f6, f7, f9, s8, m7⟩ := hF
        have g3 := f3 (by simp [haf])
        have e10 := rd HA.out 10 (by kernel_rfl) rfl
        refine ⟨?_⟩
        go_simp
        refine hK (upd U 6 (U 10)) _ _ ?_ ?_
        · rw [HA.out]; kernel_rfl
        · exact ⟨fb, fk, fs, oX, oR, f0, f1, f2, f3, (fun _ => g3), f5, f6, f7, f9, s8, m7⟩
      refine StepsU.run rfl ?_ ?_
      · intro L U wr hF hlk haf A K hA hK
        have HA : Hid (A = putAll _ _ U) := hA
        clear hA
        simp [Aft, Region.binds] at haf
        obtain ⟨fb, fk, fs, oX, oR, f0, f1, f2, f3, f4, f5, f6, f7, f9, s8, m7⟩ := hF
        have g4 := f4 (by simp [haf])
        obtain ⟨t0, t1, hT, k0, k1⟩ := g4
        have e6 := rd HA.out 6 (by kernel_rfl) hT
        refine ⟨?_⟩
        go_simp
        have hs8 : L 8 = false := by cases h : L 8 with | false => rfl | true => rw [s8 h] at hlk; cases hlk
        refine hK (upd U 11 t0) _ _ ?_ ?_
        · rw [HA.out]; kernel_rfl
        · exact ⟨fb, fk, fs, oX, oR, f0, f1, f2, f3, f4, (fun _ => k0), f6, (fun h => flip_v (P := fun v => NEWU _ _ _ _ v) hs8 (f7 h)), f9, (fun _ => rfl), m7⟩
      refine StepsU.run rfl ?_ ?_
      · intro L U wr hF hlk haf A K hA hK
        have HA : Hid (A = putAll _ _ U) := hA
        clear hA
        simp [Aft, Region.binds] at haf
        obtain ⟨fb, fk, fs, oX, oR, f0, f1, f2, f3, f4, f5, f6, f7, f9, s8, m7⟩ := hF
        have g4 := f4 (by simp [haf])
        obtain ⟨t0, t1, hT, k0, k1⟩ := g4
        have e6 := rd HA.out 6 (by kernel_rfl) hT
        refine ⟨?_⟩
        go_simp
        refine hK (upd U 12 t1) _ _ ?_ ?_
        · rw [HA.out]; kernel_rfl
        · exact ⟨fb, fk, fs, oX, oR, f0, f1, f2, f3, f4, f5, (fun _ => k1), f7, f9, s8, m7⟩
      refine StepsU.run rfl ?_ ?_
      · intro L U wr hF hlk haf A K hA hK
        have HA : Hid (A = putAll _ _ U) := hA
        clear hA
        simp [Aft, Region.binds] at haf
        obtain ⟨fb, fk, fs, oX, oR, f0, f1, f2, f3, f4, f5, f6, f7, f9, s8, m7⟩ := hF
        have hst : L 8 = false := by cases h : L 8 with | false => rfl | true => rw [m7 h] at hlk; cases hlk
        refine ⟨?_⟩
        go_simp
        have hb := below_new wr (.cells #[.bool false, .slice none 0 0] 28 (0, 0))
        refine hK (upd U 4 (.pointer (some ⟨wr.heap.size, 0, none⟩))) _ _ ?_ ?_
        · rw [HA.out]; kernel_rfl
        · exact ⟨(fb.step hb (Nat.le_refl _)), (fk.trans (KeepP.below hb)), (Nat.le_trans fs hb.size), (oX.stay hb), (oR.stay hb), (mvP mp_is (KeepP.below hb) f0), (mvP mp_is (KeepP.below hb) f1), (mvP mp_int (KeepP.below hb) f2), (mvP (mp_t2 mp_int mp_is) (KeepP.below hb) f3), (mvP (mp_t2 mp_int mp_is) (KeepP.below hb) f4), (mvP mp_int (KeepP.below hb) f5), (mvP mp_is (KeepP.below hb) f6), (fun _ => newU_zero (by simp [hst]) (NEWU.mk fs (nuI _ _ _ _))), (mvP mp_is (KeepP.below hb) f9), s8, (fun _ => rfl)⟩
      refine StepsU.run rfl ?_ ?_
      · intro L U wr hF hlk haf A K hA hK
        have HA : Hid (A = putAll _ _ U) := hA
        clear hA
        simp [Aft, Region.binds] at haf
        obtain ⟨fb, fk, fs, oX, oR, f0, f1, f2, f3, f4, f5, f6, f7, f9, s8, m7⟩ := hF
        have g5 := f5 (by simp [haf])
        obtain ⟨yx, ya, yn, yc, hsrc⟩ := AInt.shape g5
        have e11 := rd HA.out 11 (by kernel_rfl) hsrc
        have g7 := f7 (by simp [haf])
        rw [hlk, cond_false] at g7
        obtain ⟨b, cs, hp, hBb, hcs, hblk, hN⟩ := g7
        injection hcs with hcs
        subst hcs
        have e4 := rd HA.out 4 (by kernel_rfl) hp
        have q0 := hblk.frozen 0
        have q1 := hblk.frozen 1
        have c0 := hblk.cell 0
        have c1 := hblk.cell 1
        simp at c0
        simp at c1
        have hlt := hblk.lt
        refine ⟨?_⟩
        go_simp
        refine hK U _ _ ?_ ?_
        · exact HA.out
        · exact ⟨(below_stores (Nat.le_trans (by exact hbW.size) hBb) [.bool yx, .slice ya yn yc] 0 fb), (fk.trans (keepP_stores (by decide) (by decide) [.bool yx, .slice ya yn yc] 0 hblk (nuI _ _ _ _) (nuI _ _ _ _))), (by simp; exact fs), (oX.otherS (Nat.ne_of_gt (Nat.lt_of_lt_of_le ltX hBb)) 0 [.bool yx, .slice ya yn yc]), (oR.otherS (Nat.ne_of_gt (Nat.lt_of_lt_of_le ltR hBb)) 0 [.bool yx, .slice ya yn yc]), (mvP mp_is (keepP_stores (by decide) (by decide) [.bool yx, .slice ya yn yc] 0 hblk (nuI _ _ _ _) (nuI _ _ _ _)) f0), (mvP mp_is (keepP_stores (by decide) (by decide) [.bool yx, .slice ya yn yc] 0 hblk (nuI _ _ _ _) (nuI _ _ _ _)) f1), (mvP mp_int (keepP_stores (by decide) (by decide) [.bool yx, .slice ya yn yc] 0 hblk (nuI _ _ _ _) (nuI _ _ _ _)) f2), (mvP (mp_t2 mp_int mp_is) (keepP_stores (by decide) (by decide) [.bool yx, .slice ya yn yc] 0 hblk (nuI _ _ _ _) (nuI _ _ _ _)) f3), (mvP (mp_t2 mp_int mp_is) (keepP_stores (by decide) (by decide) [.bool yx, .slice ya yn yc] 0 hblk (nuI _ _ _ _) (nuI _ _ _ _)) f4), (mvP mp_int (keepP_stores (by decide) (by decide) [.bool yx, .slice ya yn yc] 0 hblk (nuI _ _ _ _) (nuI _ _ _ _)) f5), (mvP mp_is (keepP_stores (by decide) (by decide) [.bool yx, .slice ya yn yc] 0 hblk (nuI _ _ _ _) (nuI _ _ _ _)) f6), (fun _ => by simp only [cond_true, Bool.true_or, beq_self_eq_true]; exact storedU_new hp hsrc (NEWU.overS hBb hblk [.bool yx, .slice ya yn yc] rfl (nuI _ _ _ _))), (mvP mp_is (keepP_stores (by decide) (by decide) [.bool yx, .slice ya yn yc] 0 hblk (nuI _ _ _ _) (nuI _ _ _ _)) f9), (fun _ => by simp [haf]), (fun _ => by simp [haf])⟩
      refine StepsU.run rfl ?_ StepsU.nil
      · intro L U wr hF hlk haf A K hA hK
        have HA : Hid (A = putAll _ _ U) := hA
        clear hA
        simp [Aft, Region.binds] at haf
        obtain ⟨fb, fk, fs, oX, oR, f0, f1, f2, f3, f4, f5, f6, f7, f9, s8, m7⟩ := hF
        have g6 := f6 (by simp [haf])
        have e12 := rd HA.out 12 (by kernel_rfl) rfl
        refine ⟨?_⟩
        go_simp
        refine hK (upd U 5 (U 12)) _ _ ?_ ?_
        · rw [HA.out]; kernel_rfl
        · exact ⟨fb, fk, fs, oX, oR, f0, f1, f2, f3, f4, f5, f6, f7, (fun _ => g6), s8, m7⟩
    clear hbw oX oR
    intro L U1 V1 hall hF
    obtain ⟨hbw, fk, fs, oX, oR, f0, f1, f2, f3, f4, f5, f6, f7, f9, s8, m7⟩ := hF
    clear s8 m7
    have g0 := f0 (hall 0 (by decide))
    have g1 := f1 (hall 1 (by decide))
    have g2 := f2 (hall 2 (by decide))
    have g3 := f3 (hall 3 (by decide))
    have g4 := f4 (hall 4 (by decide))
    have g5 := f5 (hall 5 (by decide))
    have g6 := f6 (hall 6 (by decide))
    have g7 := f7 (hall 7 (by decide))
    rw [hall 8 (by decide), cond_true] at g7
    have g9 := f9 (hall 9 (by decide))
    clear hall f0 f1 f2 f3 f4 f5 f6 f7 f9
    replace hX := hX.keepP fk
    replace hM := hM.keepP fk
    obtain ⟨bT, csT, hpT, lbT, hcsT, oT, -⟩ := g7
    obtain ⟨xT, aT, nT, cT, hvT⟩ := AInt.shape g5
    have hT : AInt _ _ _ := g5
    rw [hvT] at hT hcsT
    injection hcsT with hcsT
    subst hcsT
    clear hvT
    have ltT := oT.lt
    have neXT : w.heap.size ≠ bT := Nat.ne_of_lt (Nat.lt_of_lt_of_le ltX lbT)
    have neRT : w.heap.size + 1 ≠ bT := Nat.ne_of_lt (Nat.lt_of_lt_of_le ltR lbT)
    have lwT : w.heap.size ≤ bT := Nat.le_trans hbW.size lbT
    replace ltX := oX.lt
    replace ltR := oR.lt
    clear lbT
    try clear g0
    try clear g1
    try clear g2
    try clear g3
    try clear g4
    try clear g5
    try clear g6
    clear hbW
    simp only [setM_some, setM_none, setM_nil]
    rw [hpT]
    clear hpT
    clear fk fs
    have e5 : U1 5 = _ := g9
    rw [e5]
    clear g9 e5
    obtain ⟨Rc0, Rc1, Rc2, Rc3, Rc4⟩ := oR.five
    obtain ⟨Rk0, Rk1, Rk2, Rk3, Rk4⟩ := oR.frozen5
    try simp only []
    try go_at_K
    repeat (first | go_values | go_skip | go_guarded | go_step | go_upon)
    refine bodyPost_ret (v := .tuple #[.agg #[.slice none 0 0, .bool false, .slice none 0 0, .bool false, .slice none 0 0], .int .i64 11]) (by simp [results, Tryz.results21, go_sem, Rc0, Rc1, Rc2, Rc3, Rc4]) rfl ?_
    obtain ⟨K1, B1, _⟩ := resR (by decide) (by decide) oR hbw lwR none 0 0 false none 0 0 false none 0 0
    exact ⟨_, _, rfl, Or.inr ⟨HR.out, rfl, RowR.zero _⟩, B1⟩

end Go.Proofs.YteefniagebcagabGreatDoor
