/- Contracts of ratio's asked, Fold and Sum, with Add for the step; they prove no statement of the seat. -/
import Derived.Test.YtidpbdhhbeaijaaQ4JSums
import Derived.Defers
import Derived.Recover
namespace Go.Proofs.Ytidpbdhhbeaijaa
open Go.RowKit

/-- Cells that hold limbs hold them still. -/
def KeepU (w w' : World) : Prop := ∀ p x, w.cell? p = some (.int .u32 x) → w'.cell? p = some (.int .u32 x)
theorem Seg.keepU {w w' : World} {ao : Option Addr} {xs : List Nat} (h : Seg .u32 w ao xs) (hk : KeepU w w') : Seg .u32 w' ao xs := by
  rcases h with h | ⟨b, off, rfl, hc⟩
  · exact Or.inl h
  · exact Or.inr ⟨b, off, rfl, fun i hi => hk _ _ (hc i hi)⟩
theorem AInt.keepU {w w' : World} {v : Value} {z : Int} (h : AInt w v z) (hk : KeepU w w') : AInt w' v z := by
  obtain ⟨neg, xs, ⟨ao, cap, h1, h2, h3, h4, h5⟩, h6⟩ := h
  exact ⟨neg, xs, ⟨ao, cap, h1, h2, h3, h4.keepU hk, h5⟩, h6⟩
theorem QP.keepU {w w' : World} {x : Bool} {a : Option Addr} {n c : Nat} {y : Bool} {e : Option Addr} {m f : Nat} {q : Rat} (h : QP w x a n c y e m f q) (hk : KeepU w w') : QP w' x a n c y e m f q := ⟨h.1.keepU hk, h.2.keepU hk⟩
theorem KeepI.u {w w' : World} (h : KeepI w w') : KeepU w w' := fun p x hp => h p _ x hp
theorem KeepU.trans {a b c : World} (h : KeepU a b) (k : KeepU b c) : KeepU a c := fun p x hp => k p x (h p x hp)
theorem keepU_set {t : TypeId} {w : World} {b : Nat} {c : Int} (h : Blk t w b #[.int .i64 c]) (v : Value) : KeepU w (w.setCell ⟨b, 0, none⟩ v) := by
  intro p x hp
  by_cases hb : p.block = b
  · exfalso
    obtain ⟨pb, po, pm⟩ := p
    simp only at hb
    subst hb
    have h1 : pm = none ∧ (#[.int .i64 c] : Array Value)[po]? = some (Value.int .u32 x) := by simpa [World.cell?, show w.heap[pb]? = _ from h] using hp
    have h2 := h1.2
    match po, h2 with
    | 0, h2 => simp at h2
    | n + 1, h2 => simp at h2
  · rw [World.cell?_of_block (w := w) (heap_setCell_other w ⟨b, 0, none⟩ p.block v hb)]
    exact hp

theorem catch_idle (v1 v2 : Value) (w : World) :
    CallsD Try.prog 109 #[v1, v2] .returning w fun e u' w' => e = .returned (.tuple #[]) ∧ u' = .returning ∧ w' = w := by
  refine callsD_of_wpS Try.func109 rfl fun c₀ cs hu => ?_
  apply wpS_seq
  apply wpS_region
  simp [wpOpsS, go_sem, recoverD, hu, Try.ntmps109, Exit.thenS]
  refine wpS_cond (t := false) (by simp [Act.eval, Array.replicate]) ?_
  simp only [Bool.false_eq_true, if_false]
  refine wpS_of_wp (wp_skip ?_)
  cases c₀
  simp_all [bodyPostS, results, Try.results109]

set_option maxRecDepth 20000 in
set_option maxHeartbeats 8000000 in
theorem asked_add (vX vY : Value) (x1 y1 : Rat) (w : World) (hX : QV w vX x1) (hY : QV w vY y1) :
    Calls Try.prog 97 #[.func (.func 40) #[] #[], vX, vY] w fun e w' => ∃ s1 s2 s3 s4 s5 s6 s7 s8, e = .returned (.tuple #[.agg #[.bool s1, .slice s2 s3 s4, .bool s5, .slice s6 s7 s8], .int .i64 (addC x1 y1)]) ∧ QP w' s1 s2 s3 s4 s5 s6 s7 s8 (addZ x1 y1) ∧ Below w.heap.size w w' := by
  obtain ⟨xX, aX, nX, cX, yX, eX, mX, fX, rfl, hX⟩ := hX
  obtain ⟨xY, aY, nY, cY, yY, eY, mY, fY, rfl, hY⟩ := hY
  have hmf : ∀ (fn : Fn) (first cap : Array Value) (w : World), (Instr.makeFunc fn first cap).run Try.prog w = .ok (.func fn first cap) w := fun _ _ _ _ => rfl
  have oX := ((((Blk.new w 27 #[.bool xX, .slice aX nX cX, .bool yX, .slice eX mX fX]).alloc (.cells #[.bool xY, .slice aY nY cY, .bool yY, .slice eY mY fY] 27 (0, 0))).alloc (.cells #[.bool false, .slice none 0 0, .bool false, .slice none 0 0] 27 (0, 0))).alloc (.cells #[.int .i64 0] 28 (0, 0)))
  have oY := (((Blk.new (w.alloc (.cells #[.bool xX, .slice aX nX cX, .bool yX, .slice eX mX fX] 27 (0, 0))) 27 #[.bool xY, .slice aY nY cY, .bool yY, .slice eY mY fY]).alloc (.cells #[.bool false, .slice none 0 0, .bool false, .slice none 0 0] 27 (0, 0))).alloc (.cells #[.int .i64 0] 28 (0, 0)))
  have oR := ((Blk.new ((w.alloc (.cells #[.bool xX, .slice aX nX cX, .bool yX, .slice eX mX fX] 27 (0, 0))).alloc (.cells #[.bool xY, .slice aY nY cY, .bool yY, .slice eY mY fY] 27 (0, 0))) 27 #[.bool false, .slice none 0 0, .bool false, .slice none 0 0]).alloc (.cells #[.int .i64 0] 28 (0, 0)))
  have oE := (Blk.new (((w.alloc (.cells #[.bool xX, .slice aX nX cX, .bool yX, .slice eX mX fX] 27 (0, 0))).alloc (.cells #[.bool xY, .slice aY nY cY, .bool yY, .slice eY mY fY] 27 (0, 0))).alloc (.cells #[.bool false, .slice none 0 0, .bool false, .slice none 0 0] 27 (0, 0))) 28 #[.int .i64 0])
  simp only [World.size_alloc] at oY oR oE
  have hbw : Below w.heap.size w ((((w.alloc (.cells #[.bool xX, .slice aX nX cX, .bool yX, .slice eX mX fX] 27 (0, 0))).alloc (.cells #[.bool xY, .slice aY nY cY, .bool yY, .slice eY mY fY] 27 (0, 0))).alloc (.cells #[.bool false, .slice none 0 0, .bool false, .slice none 0 0] 27 (0, 0))).alloc (.cells #[.int .i64 0] 28 (0, 0))) := by go_grown
  replace hX := hX.below hbw
  replace hY := hY.below hbw
  have ltX := oX.lt
  have ltY := oY.lt
  have ltR := oR.lt
  have ltE := oE.lt
  go_enter_defers Try.func97, Try.ntmps97
  obtain ⟨Xc0, Xc1, Xc2, Xc3⟩ := oX.four
  obtain ⟨Xq0, Xq1, Xq2, Xq3⟩ := oX.frozen4
  obtain ⟨Yc0, Yc1, Yc2, Yc3⟩ := oY.four
  obtain ⟨Yq0, Yq1, Yq2, Yq3⟩ := oY.frozen4
  go_wp2_with fail
  refine (qadd_any _ _ x1 y1 _ hX.val hY.val).mono ?_
  rintro e w1 ⟨j1, j2, j3, j4, j5, j6, j7, j8, rfl, hQ, hb⟩
  clear Xc0 Xc1 Xc2 Xc3 Xq0 Xq1 Xq2 Xq3
  clear Yc0 Yc1 Yc2 Yc3 Yq0 Yq1 Yq2 Yq3
  replace oX := oX.stay hb
  replace ltX := oX.lt
  replace oY := oY.stay hb
  replace ltY := oY.lt
  replace oR := oR.stay hb
  replace ltR := oR.lt
  replace hX := hX.below hb
  replace hY := hY.below hb
  replace hbw := hbw.step hb (Nat.le_refl _)
  replace oE := oE.stay hb
  clear hb
  obtain ⟨r0, r1, r2, r3⟩ := oR.four
  obtain ⟨f0, f1, f2, f3⟩ := oR.frozen4
  obtain ⟨e0, g0⟩ := oE.one
  go_wp2
  refine leaves_cons (f := 109) (args := #[.pointer (some ⟨w.heap.size + 1 + 1, 0, none⟩), .pointer (some ⟨w.heap.size + 1 + 1 + 1, 0, none⟩)]) (by simp) (by simp [go_sem]) ?_
  refine (catch_idle _ _ _).mono ?_
  rintro e u' w'' ⟨rfl, rfl, rfl⟩
  have kR := keepI_four (noI_slice _ _ _) (noI_slice _ _ _) oR j1 j2 j3 j4 j5 j6 j7 j8
  have oE1 := oE.other4 (show w.heap.size + 1 + 1 ≠ w.heap.size + 1 + 1 + 1 by omega) (.bool j1) (.slice j2 j3 j4) (.bool j5) (.slice j6 j7 j8)
  have hQ1 := (hQ.keepI kR).keepU (keepU_set oE1 (.int .i64 (addC x1 y1)))
  have hbw1 := (below_store4 hbw (show w.heap.size ≤ w.heap.size + 1 + 1 by omega) (.bool j1) (.slice j2 j3 j4) (.bool j5) (.slice j6 j7 j8)).setCell (p := ⟨w.heap.size + 1 + 1 + 1, 0, none⟩) (by show w.heap.size ≤ w.heap.size + 1 + 1 + 1; omega) (.int .i64 (addC x1 y1))
  refine ⟨.tuple #[.agg #[.bool j1, .slice j2 j3 j4, .bool j5, .slice j6 j7 j8], .int .i64 (addC x1 y1)], ?_, ?_⟩
  · simp [results, Try.results97, go_sem, r0, r1, r2, r3, e0]
  · exact ⟨_, _, _, _, _, _, _, _, rfl, hQ1, hbw1⟩

/-- A list's sum, from z on: none where a sum on the way is refused. -/
def qsums : Rat → List Rat → Option Rat
  | z, [] => some z
  | z, x :: r => if addC z x = 0 then qsums (addZ z x) r else none
def qsumZ (zs : List Rat) : Rat := (qsums 0 zs).getD 0
def qsumE (zs : List Rat) : Int := if (qsums 0 zs).isSome then 0 else 11
theorem qsums_step {zs : List Rat} {k : Nat} (hk : k < zs.length) (p : Rat) : qsums p (zs.drop k) = if addC p (zs.getD k 0) = 0 then qsums (addZ p (zs.getD k 0)) (zs.drop (k + 1)) else none := by
  rw [List.drop_eq_getElem_cons hk, qsums, List.getD_eq_getElem?_getD, List.getElem?_eq_getElem hk]
  rfl
/-- The cells from 'ao' on are rationals' structs. -/
def ArrQ (w : World) (ao : Option Addr) (zs : List Rat) : Prop :=
  zs = [] ∨ ∃ g o, ao = some ⟨g, o, none⟩ ∧ ∀ i, i < zs.length → ∃ x a n c y e m f, w.cell? ⟨g, o + i * 4, none⟩ = some (.bool x) ∧ w.cell? ⟨g, o + i * 4 + 1, none⟩ = some (.slice a n c) ∧ w.cell? ⟨g, o + i * 4 + 2, none⟩ = some (.bool y) ∧ w.cell? ⟨g, o + i * 4 + 3, none⟩ = some (.slice e m f) ∧ QP w x a n c y e m f (zs.getD i 0)
theorem ArrQ.below {w w' : World} {ao : Option Addr} {zs : List Rat} (h : ArrQ w ao zs) (hb : Below w.heap.size w w') : ArrQ w' ao zs := by
  rcases h with h | ⟨g, o, rfl, hc⟩
  · exact Or.inl h
  · refine Or.inr ⟨g, o, rfl, fun i hi => ?_⟩
    obtain ⟨x, a, n, c, y, e, m, f, h0, h1, h2, h3, h4⟩ := hc i hi
    exact ⟨x, a, n, c, y, e, m, f, (hb.cell (p := ⟨g, o + i * 4, none⟩) (World.block_lt_of_cell? w _ h0)).trans h0, (hb.cell (p := ⟨g, o + i * 4 + 1, none⟩) (World.block_lt_of_cell? w _ h1)).trans h1, (hb.cell (p := ⟨g, o + i * 4 + 2, none⟩) (World.block_lt_of_cell? w _ h2)).trans h2, (hb.cell (p := ⟨g, o + i * 4 + 3, none⟩) (World.block_lt_of_cell? w _ h3)).trans h3, h4.below hb⟩
theorem ArrQ.at {w : World} {ao : Option Addr} {zs : List Rat} (h : ArrQ w ao zs) (i : Nat) (hi : i < zs.length) : ∃ g o, ao = some ⟨g, o, none⟩ := by
  rcases h with h | ⟨g, o, rfl, hc⟩
  · subst h; simp at hi
  · exact ⟨g, o, rfl⟩
theorem addC_or (x y : Rat) : addC x y = 0 ∨ addC x y = 11 := by unfold addC; split <;> simp

set_option maxRecDepth 20000 in
set_option maxHeartbeats 8000000 in
theorem fold_add (ao : Option Addr) (n cap : Nat) (zs : List Rat) (w : World) (hn : zs.length = n) (h2 : n ≤ 1000) (hs : ArrQ w ao zs) :
    Calls Try.prog 74 #[.agg #[.bool false, .slice none 0 0, .bool false, .slice none 0 0], .slice ao n cap, .func (.func 40) #[] #[]] w fun e w' => ∃ s1 s2 s3 s4 s5 s6 s7 s8, e = .returned (.tuple #[.agg #[.bool s1, .slice s2 s3 s4, .bool s5, .slice s6 s7 s8], .int .i64 (qsumE zs)]) ∧ QP w' s1 s2 s3 s4 s5 s6 s7 s8 (qsumZ zs) ∧ Below w.heap.size w w' := by
  have HN : Hid (zs.length = n) := hn
  clear hn
  have oR := ((Blk.new (w.alloc (.cells #[.bool false, .slice none 0 0, .bool false, .slice none 0 0] 27 (0, 0))) 27 #[.bool false, .slice none 0 0, .bool false, .slice none 0 0]).alloc (.cells #[.bool false, .slice none 0 0, .bool false, .slice none 0 0] 27 (0, 0)))
  have oV := Blk.new ((w.alloc (.cells #[.bool false, .slice none 0 0, .bool false, .slice none 0 0] 27 (0, 0))).alloc (.cells #[.bool false, .slice none 0 0, .bool false, .slice none 0 0] 27 (0, 0))) 27 #[.bool false, .slice none 0 0, .bool false, .slice none 0 0]
  simp only [World.size_alloc] at oR oV
  have hbw : Below w.heap.size w (((w.alloc (.cells #[.bool false, .slice none 0 0, .bool false, .slice none 0 0] 27 (0, 0))).alloc (.cells #[.bool false, .slice none 0 0, .bool false, .slice none 0 0] 27 (0, 0))).alloc (.cells #[.bool false, .slice none 0 0, .bool false, .slice none 0 0] 27 (0, 0))) := by go_grown
  go_enter Try.func74, Try.ntmps74
  go_wp2
  go_loopw [16] (fun i wr => ∃ k : Nat, ∃ (p : Rat) (xV : Bool) (aV : Option Addr) (nV cV : Nat) (yV : Bool) (eV : Option Addr) (mV fV : Nat), k ≤ n ∧ i = .int .i64 k ∧ Hid (qsums 0 zs = qsums p (zs.drop k)) ∧ Blk 27 wr (w.heap.size + 1) #[.bool false, .slice none 0 0, .bool false, .slice none 0 0] ∧ Blk 27 wr (w.heap.size + 1 + 1) #[.bool xV, .slice aV nV cV, .bool yV, .slice eV mV fV] ∧ QP wr xV aV nV cV yV eV mV fV p ∧ Below w.heap.size w wr) (fun i _ => n - (intOf i).toNat)
  case atStart => exact ⟨0, 0, false, none, 0, 0, false, none, 0, 0, Nat.zero_le _, rfl, rfl, oR, oV, QP.zero, hbw⟩
  case round =>
    clear oR oV hbw
    obtain ⟨k, p, xV, aV, nV, cV, yV, eV, mV, fV, hk, rfl, HS, oR, oV, hV, hbw⟩ := hrel
    obtain ⟨v0, v1, v2, v3⟩ := oV.four
    have ltV := oV.lt
    have ltR := oR.lt
    by_cases h0 : k < n
    · have hkz : k < zs.length := by rw [HN.out]; exact h0
      have hs' := hs.below hbw
      obtain ⟨g, o, rfl⟩ := hs'.at k hkz
      rcases hs' with hnil | ⟨g', o', he, hc⟩
      · subst hnil; simp at hkz
      cases he
      obtain ⟨xX, aX, nX, cX, yX, eX, mX, fX, c0, c1, c2, c3, hX⟩ := hc k hkz
      obtain ⟨x, hxd⟩ : ∃ x, x = zs.getD k 0 := ⟨_, rfl⟩
      rw [← hxd] at hX
      have HX : Hid (x = zs.getD k 0) := hxd
      have HST : Hid (qsums p (zs.drop k) = if addC p (zs.getD k 0) = 0 then qsums (addZ p (zs.getD k 0)) (zs.drop (k + 1)) else none) := qsums_step hkz p
      clear hc hxd hkz
      have hn1 := below_new wr (.cells #[.bool xX, .slice aX nX cX, .bool yX, .slice eX mX fX] 27 (0, 0))
      go_wp2_with fail
      refine (asked_add _ _ p x _ (hV.below hn1).val (hX.below hn1).val).mono ?_
      rintro e w2 ⟨j1, j2, j3, j4, j5, j6, j7, j8, rfl, hJ, hb2⟩
      have hb2' := hn1.step hb2 (Nat.le_refl _)
      replace oR := oR.stay hb2'
      replace oV := oV.stay hb2'
      replace hbw := hbw.step hb2' (Nat.le_refl _)
      have ltV2 := oV.lt
      have ltR2 := oR.lt
      clear v0 v1 v2 v3 c0 c1 c2 c3 hb2 hb2' hn1 ltV ltR
      obtain ⟨v0, v1, v2, v3⟩ := oV.four
      obtain ⟨vq0, vq1, vq2, vq3⟩ := oV.frozen4
      obtain ⟨r0, r1, r2, r3⟩ := oR.four
      obtain ⟨rq0, rq1, rq2, rq3⟩ := oR.frozen4
      rcases addC_or p x with hc0 | hc0
      · have HC : Hid (addC p x = 0) := hc0
        have kV := keepI_four (noI_slice _ _ _) (noI_slice _ _ _) oV j1 j2 j3 j4 j5 j6 j7 j8
        have oV3 := (oV.over4 (.bool j1) (.slice j2 j3 j4) (.bool j5) (.slice j6 j7 j8)).stay (below_new _ (.cells #[.bool j1, .slice j2 j3 j4, .bool j5, .slice j6 j7 j8] 27 (0, 0)))
        have oR3 := (oR.other4 (show w.heap.size + 1 + 1 ≠ w.heap.size + 1 by omega) (.bool j1) (.slice j2 j3 j4) (.bool j5) (.slice j6 j7 j8)).stay (below_new _ (.cells #[.bool j1, .slice j2 j3 j4, .bool j5, .slice j6 j7 j8] 27 (0, 0)))
        have hJ3 := (hJ.keepI kV).below (below_new _ (.cells #[.bool j1, .slice j2 j3 j4, .bool j5, .slice j6 j7 j8] 27 (0, 0)))
        have hB3 := (below_store4 hbw (show w.heap.size ≤ w.heap.size + 1 + 1 by omega) (.bool j1) (.slice j2 j3 j4) (.bool j5) (.slice j6 j7 j8)).step (below_new _ (.cells #[.bool j1, .slice j2 j3 j4, .bool j5, .slice j6 j7 j8] 27 (0, 0))) (Nat.le_refl _)
        go_wp2
        go_roundw
        case rel =>
          refine ⟨k + 1, addZ p x, j1, j2, j3, j4, j5, j6, j7, j8, by omega, by go_num, ?_, oR3, oV3, hJ3, hB3⟩
          show _ = _
          rw [HS.out, HST.out, ← HX.out, if_pos HC.out]
        case measure => simp [intOf]; omega
      · have HC : Hid (addC p x = 11) := hc0
        go_wp2
        refine bodyPost_ret (v := .tuple #[.agg #[.bool false, .slice none 0 0, .bool false, .slice none 0 0], .int .i64 11]) (by simp [results, Try.results74, go_sem, r0, r1, r2, r3, ltR2]) rfl ?_
        have h5 : qsums 0 zs = none := by rw [HS.out, HST.out, ← HX.out, if_neg (by rw [HC.out]; decide)]
        refine ⟨false, none, 0, 0, false, none, 0, 0, ?_, ?_, ?_⟩
        · unfold qsumE; rw [h5]; rfl
        · unfold qsumZ; rw [h5]; exact QP.zero
        · exact (below_store4 hbw (show w.heap.size ≤ w.heap.size + 1 by omega) _ _ _ _).step (below_new _ _) (Nat.le_refl _)
    · obtain ⟨r0, r1, r2, r3⟩ := oR.four
      obtain ⟨rq0, rq1, rq2, rq3⟩ := oR.frozen4
      have HD : Hid (zs.drop k = []) := List.drop_eq_nil_of_le (by rw [HN.out]; omega)
      go_wp2
      refine bodyPost_ret (v := .tuple #[.agg #[.bool xV, .slice aV nV cV, .bool yV, .slice eV mV fV], .int .i64 0]) (by simp [results, Try.results74, go_sem, r0, r1, r2, r3]) rfl ?_
      have h5 : qsums 0 zs = some p := by rw [HS.out, HD.out]; rfl
      refine ⟨xV, aV, nV, cV, yV, eV, mV, fV, ?_, ?_, below_store4 hbw (show w.heap.size ≤ w.heap.size + 1 by omega) _ _ _ _⟩
      · unfold qsumE; rw [h5]; rfl
      · unfold qsumZ; rw [h5]; exact hV.keepI (keepI_four (noI_slice _ _ _) (noI_slice _ _ _) oR _ _ _ _ _ _ _ _)
set_option maxHeartbeats 4000000 in
theorem qsum_any (ao : Option Addr) (n cap : Nat) (zs : List Rat) (w : World) (hn : zs.length = n) (h2 : n ≤ 1000) (hs : ArrQ w ao zs) :
    Calls Try.prog 38 #[.slice ao n cap] w fun e w' => ∃ s1 s2 s3 s4 s5 s6 s7 s8, e = .returned (.tuple #[.agg #[.bool s1, .slice s2 s3 s4, .bool s5, .slice s6 s7 s8], .int .i64 (qsumE zs)]) ∧ QP w' s1 s2 s3 s4 s5 s6 s7 s8 (qsumZ zs) ∧ Below w.heap.size w w' := by
  have HN : Hid (zs.length = n) := hn
  clear hn
  have oR := Blk.new w 27 #[.bool false, .slice none 0 0, .bool false, .slice none 0 0]
  have hbw := below_new w (.cells #[.bool false, .slice none 0 0, .bool false, .slice none 0 0] 27 (0, 0))
  have hs1 := hs.below hbw
  go_enter Try.func38, Try.ntmps38
  go_wp2_with fail
  refine (fold_add ao n cap zs _ HN.out h2 hs1).mono ?_
  rintro e w1 ⟨j1, j2, j3, j4, j5, j6, j7, j8, rfl, hJ, hb⟩
  replace oR := oR.stay hb
  replace hbw := hbw.step hb (Nat.le_refl _)
  obtain ⟨r0, r1, r2, r3⟩ := oR.four
  obtain ⟨rq0, rq1, rq2, rq3⟩ := oR.frozen4
  go_wp2
  refine bodyPost_ret (v := .tuple #[.agg #[.bool j1, .slice j2 j3 j4, .bool j5, .slice j6 j7 j8], .int .i64 (qsumE zs)]) (by simp [results, Try.results38, go_sem, r0, r1, r2, r3]) rfl ?_
  exact ⟨_, _, _, _, _, _, _, _, rfl, hJ.keepI (keepI_four (noI_slice _ _ _) (noI_slice _ _ _) oR _ _ _ _ _ _ _ _), below_store4 hbw (Nat.le_refl _) _ _ _ _⟩

end Go.Proofs.Ytidpbdhhbeaijaa
