/- Joined: LinKS, LinQ, LinT, LinSO: words and contracts; no statement of the seat is proved here. -/
import Derived.Test.YteefniagebcagaaGreatDoorJoin20Tells
import Derived.Test.YteefniagebcagaaGreatDoorJoin21Tells
import Derived.Test.YteefniagebcagaaGreatDoorJoin12Tells
/- Contracts of maps.Keys and slices.Sorted at a map of whole numbers by ints; they prove no statement of the seat. -/
namespace Go.Proofs.YteefniagebcagaaGreatDoor
open Go Go.RowKit Go.Maps Go.Sort Go.Shelf
set_option linter.unusedVariables false

theorem Tryz.sortsA (m : Nat) : AnyZI.SortsIn Tryz.prog Tryz.sortedA_ren Fence.wide m :=
  ⟨fun blk off cap ss W hH hblk hsz => callsIn_wide.2 (AnyM.slices_Sort_int Tryz.sortA blk off cap ss W hH hblk hsz),
   fun p cap W => callsIn_wide.2 (AnyM.slices_Sort_int_none Tryz.sortA p cap W)⟩
theorem keys_h (b : Nat) (w : World) :
    Calls Tryz.prog 120 #[.map (some b)] w fun e w' => e = .returned (.func (.func 138) #[] #[.pointer (some ⟨w.heap.size, 0, none⟩)]) ∧ w' = w.alloc (.cells #[.map (some b)] 130 (0, 0)) :=
  (callsIn_wide (n := 5)).1 (AnyZI.keys_in Tryz.keysA Fence.wide 5 trivial rfl (some b) w)
theorem keys_mDt (l : List (Nat × Value)) : intKeys (mDt l) = l.map fun p => (p.1 : Int) := by
  unfold mDt intKeys
  simp [mE, List.map_map, Function.comp_def]
  intro a b _
  rfl
theorem size_mDt (l : List (Nat × Value)) : Maps.size (mDt l) = l.length := by
  unfold mDt Maps.size
  simp
theorem sorted_keys {ss : List Int} {l : List (Nat × Value)} (h : ss.Perm (intKeys (mDt l))) (hr : (l.map (·.1)).Pairwise (· < ·)) : ss.mergeSort (fun x y => decide (x ≤ y)) = l.map fun p => (p.1 : Int) := by
  rw [keys_mDt] at h
  have e1 : ss.mergeSort leI = (l.map fun p => (p.1 : Int)).mergeSort leI := mergeSort_of_perm_i h
  refine e1.trans (List.mergeSort_of_pairwise ?_)
  rw [List.pairwise_map] at hr ⊢
  exact hr.imp fun hab => by simp; omega
/-- The variables in a row. -/
def KA (w : World) (ao : Option Addr) (ks : List Nat) : Prop := ks = [] ∨ ∃ g cur, ao = some ⟨g, 0, none⟩ ∧ w.heap[g]? = some (.cells cur 3 (0, 0)) ∧ ∀ i, i < ks.length → cur[i]? = some (.int .i64 (ks.getD i 0 : Nat))
theorem KA.at {w : World} {ao : Option Addr} {ks : List Nat} (h : KA w ao ks) (i : Nat) (hi : i < ks.length) : ∃ g, ao = some ⟨g, 0, none⟩ ∧ w.cell? ⟨g, i, none⟩ = some (.int .i64 (ks.getD i 0 : Nat)) := by
  rcases h with h | ⟨g, cur, h1, h2, h3⟩
  · rw [h] at hi; simp at hi
  · refine ⟨g, h1, ?_⟩
    unfold World.cell?
    rw [h2]
    exact h3 i hi
theorem KA.keepN {w w' : World} {ao : Option Addr} {ks : List Nat} (h : KA w ao ks) (hk : KeepN w w') : KA w' ao ks := by
  rcases h with h | ⟨g, cur, h1, h2, h3⟩
  · exact Or.inl h
  · exact Or.inr ⟨g, cur, h1, hk.i g cur h2, h3⟩
def KArr (w : World) (v : Value) (ks : List Nat) : Prop := ∃ ao cap, v = .slice ao ks.length cap ∧ ks.length ≤ cap ∧ cap ≤ maxLen ∧ KA w ao ks
theorem KArr.of {w : World} {base : Nat} {v : Value} {n : Nat} {ks : List Nat} (h : w.ownsRow base 3 1 v n (ks.map fun k => Value.int .i64 (k : Nat))) : KArr w v ks := by
  have hl : ks.length = n := by have := h.1; simpa using this
  subst hl
  rcases h.2 with ⟨rfl, h0⟩ | ⟨g, cap, cur, rfl, h1, h2, h3, h4, h5, h6⟩
  · exact ⟨none, 0, by rw [h0], by omega, Nat.zero_le _, Or.inl (List.eq_nil_of_length_eq_zero h0)⟩
  · refine ⟨_, cap, rfl, h3, h4, Or.inr ⟨g, cur, rfl, h2, fun i hi => ?_⟩⟩
    have e1 : (cur.toList.take (ks.length * 1))[i]? = some (.int .i64 (ks.getD i 0 : Nat)) := by
      rw [h6, List.getElem?_map, List.getElem?_eq_getElem hi]
      simp [List.getD_eq_getElem?_getD, List.getElem?_eq_getElem hi]
    rw [List.getElem?_take, if_pos (by omega)] at e1
    simpa using e1
set_option maxHeartbeats 1000000 in
theorem sorted_h (b nn : Nat) (l : List (Nat × Value)) (w : World) (hown : MapR w b nn l) (hl : l.length ≤ 10000) (hr : (l.map (·.1)).Pairwise (· < ·)) :
    Calls Tryz.prog 119 #[.func (.func 138) #[] #[.pointer (some ⟨w.heap.size, 0, none⟩)]] (w.alloc (.cells #[.map (some b)] 130 (0, 0))) fun e w' => ∃ v, e = .returned v ∧ KArr w' v (l.map (·.1)) ∧ Below w.heap.size w w' := by
  have hbl := World.ownsMap.lt hown
  have hown1 : MapR (w.alloc (.cells #[.map (some b)] 130 (0, 0))) b nn l := hown.below (below_new _ _)
  have hseq : SeqGives Fence.wide 2 Tryz.prog 138 #[.pointer (some ⟨w.heap.size, 0, none⟩)] encZ (fun ss => ss.Perm (intKeys (mDt l))) (Maps.size (mDt l)) (w.alloc (.cells #[.map (some b)] 130 (0, 0))) :=
    AnyZI.keys_gives (ρ := Tryz.keysA_ren) { Tryz.keysA with } Fence.wide _ trivial rfl (by omega) w.heap.size b nn (mDt l) _ (by simp) (by simp) hown1
  have cS := AnyZI.sorted_in Tryz.sortedA Fence.wide 5 trivial trivial trivial trivial rfl (by omega) (Tryz.sortsA _) (enters_of Tryz.func137 (by kernel_rfl) rfl) 138 #[.pointer (some ⟨w.heap.size, 0, none⟩)] trivial (enters_of Tryz.func138 (by kernel_rfl) rfl) _ _ (by rw [size_mDt]; unfold maxLen; omega) (by rw [size_mDt]; omega) _ hseq
  refine ((callsIn_wide (n := 5)).1 cS).mono ?_
  rintro e w' ⟨v, ss, rfl, h1, h2, h3, h4⟩
  refine ⟨v, rfl, ?_, (below_new _ _).trans (h4.mono (by simp))⟩
  rw [sorted_keys h1 hr] at h2
  refine KArr.of (n := ss.length) (base := w.heap.size) ?_
  rw [List.map_map]
  rw [List.map_map] at h2
  exact ownsRow_base_a h2 (by simp)
theorem sorted_n (b nn : Nat) (l : List (Nat × Value)) (w : World) (hown : MapR w b nn l) (hl : l.length ≤ 10000) (ks : List Nat) (n : Nat) (hk : l.map (·.1) = ks) (hn : ks.length = n) (hr : ks.Pairwise (· < ·)) (B : Nat) (hB : w.heap.size = B) :
    Calls Tryz.prog 119 #[.func (.func 138) #[] #[.pointer (some ⟨B, 0, none⟩)]] (w.alloc (.cells #[.map (some b)] 130 (0, 0))) fun e w' => ∃ ao cap, e = .returned (.slice ao n cap) ∧ KA w' ao ks ∧ n ≤ cap ∧ cap ≤ maxLen ∧ Below w.heap.size w w' := by
  subst hk hB
  refine (sorted_h b nn l w hown hl hr).mono ?_
  rintro e w' ⟨v, rfl, ⟨ao, cap, rfl, h1, h2, h3⟩, hb⟩
  subst hn
  exact ⟨ao, cap, rfl, h3, h1, h2, hb⟩
end Go.Proofs.YteefniagebcagaaGreatDoor
/- Contracts of linear's Common, Holds, Not, roundedDown; they prove no statement of the seat. -/
namespace Go.Proofs.YteefniagebcagaaGreatDoor
open Go.RowKit
set_option linter.unusedVariables false

/-- The coefficients' greatest common divisor. -/
def cm (l : List (Nat × Int)) : Int := l.foldl (fun g p => ((Int.gcd g p.2 : Nat) : Int)) 0
theorem cm_snoc (l : List (Nat × Int)) (p : Nat × Int) : cm (l ++ [p]) = ((Int.gcd (cm l) p.2 : Nat) : Int) := by unfold cm; rw [List.foldl_append]; rfl
theorem cm_take {l : List (Nat × Int)} {k pv : Nat} {pz : Int} (h : k < l.length) (hp : l.getD k (0, 0) = (pv, pz)) : ((Int.gcd (cm (l.take k)) pz : Nat) : Int) = cm (l.take (k + 1)) := by
  rw [List.take_succ_eq_append_getElem h, cm_snoc]
  rw [List.getD_eq_getElem?_getD, List.getElem?_eq_getElem h] at hp
  simp at hp
  rw [hp]
/-- The value v is the row: its sum's number is 0. -/
def RowR (w : World) (v : Value) (ps : List (Nat × Int)) (m : Int) : Prop := ∃ p q r x a n c y d l f, v = .agg #[.slice p q r, .bool x, .slice a n c, .bool y, .slice d l f] ∧ TP w p q r x a n c ps 0 ∧ AInt w (.agg #[.bool y, .slice d l f]) m
theorem RowR.shape {w : World} {v : Value} {ps : List (Nat × Int)} {m : Int} (h : RowR w v ps m) : ∃ p q r x a n c y d l f, v = .agg #[.slice p q r, .bool x, .slice a n c, .bool y, .slice d l f] := by
  obtain ⟨p, q, r, x, a, n, c, y, d, l, f, rfl, _⟩ := h
  exact ⟨p, q, r, x, a, n, c, y, d, l, f, rfl⟩
theorem RowR.keepP {w w' : World} {v : Value} {ps : List (Nat × Int)} {m : Int} (h : RowR w v ps m) (hk : KeepP w w') : RowR w' v ps m := by
  obtain ⟨p, q, r, x, a, n, c, y, d, l, f, rfl, h1, h2⟩ := h
  exact ⟨p, q, r, x, a, n, c, y, d, l, f, rfl, h1.keepP hk, h2.keepP hk⟩
def ROW (ps : List (Nat × Int)) (m : Int) : Value → World → Prop := fun u w => RowR w u ps m
theorem mp_row {ps : List (Nat × Int)} {m : Int} : MonoP (ROW ps m) := fun _ _ _ hk h => RowR.keepP h hk
theorem RowR.zero (w : World) : RowR w (.agg #[.slice none 0 0, .bool false, .slice none 0 0, .bool false, .slice none 0 0]) [] 0 := ⟨_, _, _, _, _, _, _, _, _, _, _, rfl, TP.zero w, AInt.zero w⟩

set_option maxRecDepth 20000 in
set_option maxHeartbeats 8000000 in
theorem common_any (vX : Value) (a : List (Nat × Int)) (r : Int) (w : World) (hX : TermR w vX a r) :
    Calls Tryz.prog 35 #[vX] w fun e w' => ∃ x m n c, e = .returned (.agg #[.bool x, .slice m n c]) ∧ AInt w' (.agg #[.bool x, .slice m n c]) (cm a) ∧ Below w.heap.size w w' := by
  obtain ⟨pX, qX, rX, xX, aX, nX, cX, rfl, hX⟩ := hX
  have ha0 := hX.arr
  have oX := (((Blk.new w 33 #[.slice pX qX rX, .bool xX, .slice aX nX cX]).alloc (.cells #[.bool false, .slice none 0 0] 31 (0, 0))).alloc (.cells #[.bool false, .slice none 0 0] 31 (0, 0)))
  have oR := ((Blk.new (w.alloc (.cells #[.slice pX qX rX, .bool xX, .slice aX nX cX] 33 (0, 0))) 31 #[.bool false, .slice none 0 0]).alloc (.cells #[.bool false, .slice none 0 0] 31 (0, 0)))
  have oG := (Blk.new ((w.alloc (.cells #[.slice pX qX rX, .bool xX, .slice aX nX cX] 33 (0, 0))).alloc (.cells #[.bool false, .slice none 0 0] 31 (0, 0))) 31 #[.bool false, .slice none 0 0])
  simp only [World.size_alloc] at oR oG
  have hbw : Below w.heap.size w (((w.alloc (.cells #[.slice pX qX rX, .bool xX, .slice aX nX cX] 33 (0, 0))).alloc (.cells #[.bool false, .slice none 0 0] 31 (0, 0))).alloc (.cells #[.bool false, .slice none 0 0] 31 (0, 0))) := by go_grown
  replace hX := hX.below hbw
  have ltX := oX.lt
  have lwX : w.heap.size ≤ w.heap.size := by omega
  have ltR := oR.lt
  have lwR : w.heap.size ≤ w.heap.size + 1 := by omega
  have ltG := oG.lt
  have lwG : w.heap.size ≤ w.heap.size + 1 + 1 := by omega
  go_enter Tryz.func35, Tryz.ntmps35
  have HX : Hid (PArr w pX a) := ha0
  have HLN : Hid (a.length = qX) := hX.len
  have hlen := hX.n_le
  clear ha0
  obtain ⟨Xc0, Xc1, Xc2⟩ := oX.three
  obtain ⟨Xk0, Xk1, Xk2⟩ := oX.frozen3
  go_wp2
  go_loopw [9] (fun i wl => ∃ (k : Nat) (xG : Bool) (aG : Option Addr) (nG cG : Nat), k ≤ qX ∧ i = .int .i64 k ∧ Blk 33 wl w.heap.size #[.slice pX qX rX, .bool xX, .slice aX nX cX] ∧ Blk 31 wl (w.heap.size + 1) #[.bool false, .slice none 0 0] ∧ Blk 31 wl (w.heap.size + 1 + 1) #[.bool xG, .slice aG nG cG] ∧ AInt wl (.agg #[.bool xG, .slice aG nG cG]) (cm (a.take k)) ∧ Below w.heap.size w wl) (fun i _ => qX - (intOf i).toNat)
  case atStart => exact ⟨0, false, none, 0, 0, Nat.zero_le _, rfl, oX, oR, oG, AInt.zero _, hbw⟩
  case round =>
    rename World => wl
    clear oX oR oG hbw hX ltX ltR ltG Xc0 Xc1 Xc2 Xk0 Xk1 Xk2
    obtain ⟨k, xG, aG, nG, cG, hk, rfl, oX, oR, oG, hG, hbw⟩ := hrel
    have ltX := oX.lt
    have ltR := oR.lt
    have ltG := oG.lt
    by_cases h0 : k < qX
    · obtain ⟨gE, oE, sE, aE, mE, cE, had, k1, k2, k3, k4⟩ := HX.out.at k (by rw [HLN.out]; exact h0)
      subst had
      obtain ⟨pv, hpv⟩ : ∃ x9, x9 = (a.getD k (0, 0)).1 := ⟨_, rfl⟩
      obtain ⟨pz, hpz⟩ : ∃ x9, x9 = (a.getD k (0, 0)).2 := ⟨_, rfl⟩
      rw [← hpv] at k1
      rw [← hpz] at k4
      have HPV : Hid (a.getD k (0, 0) = (pv, pz)) := by show _ = _; rw [hpv, hpz]
      clear hpv hpz
      have A0 := (hbw.cell (p := ⟨gE, oE + k * 3, none⟩) (World.block_lt_of_cell? w _ k1)).trans k1
      have A1 := (hbw.cell (p := ⟨gE, oE + k * 3 + 1, none⟩) (World.block_lt_of_cell? w _ k2)).trans k2
      have A2 := (hbw.cell (p := ⟨gE, oE + k * 3 + 2, none⟩) (World.block_lt_of_cell? w _ k3)).trans k3
      have hE0 := k4.below hbw
      clear k1 k2 k3 k4
      have HCM : Hid (((Int.gcd (cm (a.take k)) pz : Nat) : Int) = cm (a.take (k + 1))) := cm_take (by rw [HLN.out]; exact h0) HPV.out
      have hn := below_new wl (.cells #[.int .i64 (pv : Nat), .bool sE, .slice aE mE cE] 116 (0, 0))
      obtain ⟨Xc0, Xc1, Xc2⟩ := oX.three
      obtain ⟨Xk0, Xk1, Xk2⟩ := oX.frozen3
      obtain ⟨Gc0, Gc1, Gk0, Gk1⟩ := oG.two
      go_wp2_with fail
      refine (gcd_h _ _ _ pz _ _ (hG.below hn) (hE0.below hn) HCM.out).mono ?_
      rintro e w2 ⟨xQ, aQ, nQ, cQ, rfl, hQ, hb2⟩
      have hb := hn.step hb2 (Nat.le_refl _)
      clear A0 A1 A2 hn hb2
      clear Xc0 Xc1 Xc2 Xk0 Xk1 Xk2
      clear Gc0 Gc1 Gk0 Gk1
      replace oX := oX.stay hb
      replace ltX := oX.lt
      replace oR := oR.stay hb
      replace ltR := oR.lt
      replace oG := oG.stay hb
      replace ltG := oG.lt
      replace hG := hG.below hb
      replace hbw := hbw.step hb (Nat.le_refl _)
      clear hb
      obtain ⟨Gc0, Gc1, Gk0, Gk1⟩ := oG.two
      go_wp2
      obtain ⟨hK, hB, hO⟩ := resI (by decide) (by decide) oG hbw (show w.heap.size ≤ w.heap.size + 1 + 1 by omega) xQ aQ nQ cQ
      go_roundw
      case rel => exact ⟨k + 1, xQ, aQ, nQ, cQ, by omega, by go_num, oX.otherS (by omega) 0 [.bool xQ, .slice aQ nQ cQ], oR.otherS (by omega) 0 [.bool xQ, .slice aQ nQ cQ], hO, hQ.keepP hK, hB⟩
      case measure => simp [intOf]; omega
    · have HN : Hid (a.take k = a) := List.take_of_length_le (by rw [HLN.out]; omega)
      obtain ⟨Rc0, Rc1, Rk0, Rk1⟩ := oR.two
      obtain ⟨Gc0, Gc1, Gk0, Gk1⟩ := oG.two
      try simp only []
      try go_at_K
      repeat (first | go_values | go_skip | go_guarded | go_step | go_upon)
      refine bodyPost_ret (v := .agg #[.bool xG, .slice aG nG cG]) (by simp [results, Tryz.results35, go_sem, Rc0, Rc1]) rfl ?_
      obtain ⟨K1, B1, _⟩ := resI (by decide) (by decide) oR hbw lwR xG aG nG cG
      rw [HN.out] at hG
      exact ⟨_, _, _, _, rfl, hG.keepP K1, B1⟩

set_option maxRecDepth 20000 in
set_option maxHeartbeats 8000000 in
theorem rounded_any (vA vB : Value) (x y q : Int) (w : World) (hA : AInt w vA x) (hB : AInt w vB y) (hy : y ≠ 0) (hq : x.fdiv y = q) :
    Calls Tryz.prog 82 #[vA, vB] w fun e w' => ∃ x m n c, e = .returned (.agg #[.bool x, .slice m n c]) ∧ AInt w' (.agg #[.bool x, .slice m n c]) q ∧ Below w.heap.size w w' := by
  obtain ⟨xA, aA, nA, cA, rfl⟩ := hA.shape
  obtain ⟨xB, aB, nB, cB, rfl⟩ := hB.shape
  have HY : Hid (y ≠ 0) := hy
  have HQ : Hid (x.fdiv y = q) := hq
  clear hy hq
  have oA := (((Blk.new w 31 #[.bool xA, .slice aA nA cA]).alloc (.cells #[.bool xB, .slice aB nB cB] 31 (0, 0))).alloc (.cells #[.bool false, .slice none 0 0] 31 (0, 0)))
  have oB := ((Blk.new (w.alloc (.cells #[.bool xA, .slice aA nA cA] 31 (0, 0))) 31 #[.bool xB, .slice aB nB cB]).alloc (.cells #[.bool false, .slice none 0 0] 31 (0, 0)))
  have oR := (Blk.new ((w.alloc (.cells #[.bool xA, .slice aA nA cA] 31 (0, 0))).alloc (.cells #[.bool xB, .slice aB nB cB] 31 (0, 0))) 31 #[.bool false, .slice none 0 0])
  simp only [World.size_alloc] at oB oR
  have hbw : Below w.heap.size w (((w.alloc (.cells #[.bool xA, .slice aA nA cA] 31 (0, 0))).alloc (.cells #[.bool xB, .slice aB nB cB] 31 (0, 0))).alloc (.cells #[.bool false, .slice none 0 0] 31 (0, 0))) := by go_grown
  replace hA := hA.below hbw
  replace hB := hB.below hbw
  have ltA := oA.lt
  have lwA : w.heap.size ≤ w.heap.size := by omega
  have ltB := oB.lt
  have lwB : w.heap.size ≤ w.heap.size + 1 := by omega
  have ltR := oR.lt
  have lwR : w.heap.size ≤ w.heap.size + 1 + 1 := by omega
  go_enter Tryz.func82, Tryz.ntmps82
  obtain ⟨Ac0, Ac1, Ak0, Ak1⟩ := oA.two
  obtain ⟨Bc0, Bc1, Bk0, Bk1⟩ := oB.two
  go_wp2_with fail
  refine (div_h _ _ x y q _ _ hA hB HY.out HQ.out rfl).mono ?_
  rintro e w1 ⟨xQ, aQ, nQ, cQ, xM, aM, nM, cM, rfl, hQ, hM, hb⟩
  clear Ac0 Ac1 Ak0 Ak1
  clear Bc0 Bc1 Bk0 Bk1
  replace oA := oA.stay hb
  replace ltA := oA.lt
  replace oB := oB.stay hb
  replace ltB := oB.lt
  replace oR := oR.stay hb
  replace ltR := oR.lt
  replace hA := hA.below hb
  replace hB := hB.below hb
  replace hbw := hbw.step hb (Nat.le_refl _)
  clear hb
  obtain ⟨Rc0, Rc1, Rk0, Rk1⟩ := oR.two
  try simp only []
  try go_at_K
  repeat (first | go_values | go_skip | go_guarded | go_step | go_upon)
  obtain ⟨K1, B1, O1⟩ := resI (by decide) (by decide) oR hbw lwR xQ aQ nQ cQ
  have oF := (O1.alloc (.cells #[.bool xQ, .slice aQ nQ cQ] 31 (0, 0))).alloc (.cells #[.bool xM, .slice aM nM cM] 31 (0, 0))
  obtain ⟨F0, F1, -, -⟩ := oF.two
  refine bodyPost_ret (v := .agg #[.bool xQ, .slice aQ nQ cQ]) (by simp [results, Tryz.results82, go_sem, F0, F1]) rfl ?_
  exact ⟨_, _, _, _, rfl, ((hQ.keepP K1).below (below_new _ _)).below (below_new _ _), (B1.step (below_new _ _) (Nat.le_refl _)).step (below_new _ _) (Nat.le_refl _)⟩

/-- What a call that can be refused tells: the row, or nothing and the code. -/
def RRes (ok : Prop) (ps : List (Nat × Int)) (m : Int) (v : Value) (c : Int) (w : World) : Prop := (ok ∧ c = 0 ∧ RowR w v ps m) ∨ (¬ ok ∧ c = 11 ∧ RowR w v [] 0)

set_option maxRecDepth 20000 in
set_option maxHeartbeats 8000000 in
theorem lnot_any (vX : Value) (a : List (Nat × Int)) (m : Int) (w : World) (hX : RowR w vX a m) :
    Calls Tryz.prog 45 #[vX] w fun e w' => ∃ v c, e = .returned (.tuple #[v, .int .i64 c]) ∧ RRes ((m + 1).natAbs < lim) (mulP a (-1)) (-(m + 1)) v c w' ∧ Below w.heap.size w w' := by
  obtain ⟨pX, qX, rX, xX, aX, nX, cX, yX, dX, lX, fX, rfl, hX, hM⟩ := hX
  have oX := ((Blk.new w 82 #[.slice pX qX rX, .bool xX, .slice aX nX cX, .bool yX, .slice dX lX fX]).alloc (.cells #[.slice none 0 0, .bool false, .slice none 0 0, .bool false, .slice none 0 0] 82 (0, 0)))
  have oR := (Blk.new (w.alloc (.cells #[.slice pX qX rX, .bool xX, .slice aX nX cX, .bool yX, .slice dX lX fX] 82 (0, 0))) 82 #[.slice none 0 0, .bool false, .slice none 0 0, .bool false, .slice none 0 0])
  simp only [World.size_alloc] at oR
  have hbw : Below w.heap.size w ((w.alloc (.cells #[.slice pX qX rX, .bool xX, .slice aX nX cX, .bool yX, .slice dX lX fX] 82 (0, 0))).alloc (.cells #[.slice none 0 0, .bool false, .slice none 0 0, .bool false, .slice none 0 0] 82 (0, 0))) := by go_grown
  replace hX := hX.below hbw
  have ltX := oX.lt
  have lwX : w.heap.size ≤ w.heap.size := by omega
  have ltR := oR.lt
  have lwR : w.heap.size ≤ w.heap.size + 1 := by omega
  go_enter Tryz.func45, Tryz.ntmps45
  replace hM := hM.below hbw
  go_wp2
  by_cases hr : (m + 1).natAbs < lim
  · have E0 : ec (m + 1) = 0 := if_pos hr
    have HR : Hid ((m + 1).natAbs < lim) := hr
    clear hr
    generalize ((w.alloc (.cells #[.slice pX qX rX, .bool xX, .slice aX nX cX, .bool yX, .slice dX lX fX] 82 (0, 0))).alloc (.cells #[.slice none 0 0, .bool false, .slice none 0 0, .bool false, .slice none 0 0] 82 (0, 0))) = W0 at hbw oX oR ltX ltR hX hM ⊢
    have hbW := hbw
    refine wp_region_M (by kernel_rfl) [4, 5, 6, 7, 8, 9, 10, 11, 12] [none, none, none, none, some 4, some 5, some 6, some 7, some 8, some 9, some 10, some 11, some 12] (fun U => by kernel_rfl) (fun L U wr => Below w.heap.size w wr ∧ KeepP W0 wr ∧ W0.heap.size ≤ wr.heap.size ∧ Blk 82 wr (w.heap.size) #[.slice pX qX rX, .bool xX, .slice aX nX cX, .bool yX, .slice dX lX fX] ∧ Blk 82 wr (w.heap.size + 1) #[.slice none 0 0, .bool false, .slice none 0 0, .bool false, .slice none 0 0] ∧ (L 0 = true → IS (.pointer (some ⟨w.heap.size, 3, none⟩)) (U 7) wr) ∧ (L 1 = true → IS (.agg #[.bool yX, .slice dX lX fX]) (U 8) wr) ∧ (L 2 = true → INT 1 (U 9) wr) ∧ (L 3 = true → T2 (INT (hz (m + 1))) (IS (.int .i64 0)) (U 10) wr) ∧ (L 4 = true → T2 (INT (hz (m + 1))) (IS (.int .i64 0)) (U 6) wr) ∧ (L 5 = true → INT (hz (m + 1)) (U 11) wr) ∧ (L 6 = true → IS (.int .i64 0) (U 12) wr) ∧ (L 7 = true → NEWU 31 W0.heap.size wr (U 4) (bif L 8 then U 11 else .agg #[.bool false, .slice none 0 0])) ∧ (L 9 = true → IS (.int .i64 0) (U 5) wr) ∧ (L 8 = true → L 5 = true) ∧ (L 8 = true → L 7 = true)) (by kernel_rfl) ?_ ?_ ?_
    · exact fun U => ⟨hbw.drew, KeepP.below (Below.refl _ _).drew, Nat.le_refl _, oX.drew, oR.drew, (fun h => by cases h), (fun h => by cases h), (fun h => by cases h), (fun h => by cases h), (fun h => by cases h), (fun h => by cases h), (fun h => by cases h), (fun h => by cases h), (fun h => by cases h), (fun h => by cases h), (fun h => by cases h)⟩
    · refine StepsU.run rfl ?_ ?_
      · intro L U wr hF hlk haf A K hA hK
        have HA : Hid (A = putAll _ _ U) := hA
        clear hA
        simp [Aft, Region.binds] at haf
        obtain ⟨fb, fk, fs, oX, oR, f0, f1, f2, f3, f4, f5, f6, f7, f9, s8, m7⟩ := hF
        have e1 : A.tmps[1]? = some (.pointer (some ⟨w.heap.size, 0, none⟩)) := by rw [HA.out]; kernel_rfl
        refine ⟨?_⟩
        go_simp
        refine hK (upd U 7 (.pointer (some ⟨w.heap.size, 3, none⟩))) _ _ ?_ ?_
        · rw [HA.out]; kernel_rfl
        · exact ⟨fb, fk, fs, oX, oR, (fun _ => rfl), f1, f2, f3, f4, f5, f6, f7, f9, s8, m7⟩
      refine StepsU.run rfl ?_ ?_
      · intro L U wr hF hlk haf A K hA hK
        have HA : Hid (A = putAll _ _ U) := hA
        clear hA
        simp [Aft, Region.binds] at haf
        obtain ⟨fb, fk, fs, oX, oR, f0, f1, f2, f3, f4, f5, f6, f7, f9, s8, m7⟩ := hF
        have g0 := f0 (by simp [haf])
        have e7 := rd HA.out 7 (by kernel_rfl) g0
        have c3 := oX.cell 3
        have c4 := oX.cell 4
        simp at c3
        simp at c4
        refine ⟨?_⟩
        go_simp
        refine hK (upd U 8 (.agg #[.bool yX, .slice dX lX fX])) _ _ ?_ ?_
        · rw [HA.out]; kernel_rfl
        · exact ⟨fb, fk, fs, oX, oR, f0, (fun _ => rfl), f2, f3, f4, f5, f6, f7, f9, s8, m7⟩
      refine StepsU.run rfl ?_ ?_
      · intro L U wr hF hlk haf A K hA hK
        have HA : Hid (A = putAll _ _ U) := hA
        clear hA
        simp [Aft, Region.binds] at haf
        obtain ⟨fb, fk, fs, oX, oR, f0, f1, f2, f3, f4, f5, f6, f7, f9, s8, m7⟩ := hF
        refine ⟨?_⟩
        go_simp
        refine (from_h 1 _ (by decide) (by decide)).mono ?_
        rintro e w1 ⟨u1, u2, u3, u4, rfl, hr, hb⟩
        go_simp
        refine hK (upd U 9 (.agg #[.bool u1, .slice u2 u3 u4])) _ _ ?_ ?_
        · rw [HA.out]; kernel_rfl
        · exact ⟨(fb.step hb (Nat.le_refl _)), (fk.trans (KeepP.below hb)), (Nat.le_trans fs hb.size), (oX.stay hb), (oR.stay hb), (mvP mp_is (KeepP.below hb) f0), (mvP mp_is (KeepP.below hb) f1), (fun _ => hr), (mvP (mp_t2 mp_int mp_is) (KeepP.below hb) f3), (mvP (mp_t2 mp_int mp_is) (KeepP.below hb) f4), (mvP mp_int (KeepP.below hb) f5), (mvP mp_is (KeepP.below hb) f6), (fun h => (f7 h).below hb), (mvP mp_is (KeepP.below hb) f9), s8, m7⟩
      refine StepsU.run rfl ?_ ?_
      · intro L U wr hF hlk haf A K hA hK
        have HA : Hid (A = putAll _ _ U) := hA
        clear hA
        simp [Aft, Region.binds] at haf
        obtain ⟨fb, fk, fs, oX, oR, f0, f1, f2, f3, f4, f5, f6, f7, f9, s8, m7⟩ := hF
        have g1 := f1 (by simp [haf])
        have e8 := rd HA.out 8 (by kernel_rfl) g1
        have g2 := f2 (by simp [haf])
        have e9 := rd HA.out 9 (by kernel_rfl) rfl
        refine ⟨?_⟩
        go_simp
        refine (add_h _ _ m 1 _ (hM.keepP fk) g2).mono ?_
        rintro e w1 ⟨u1, u2, u3, u4, rfl, hr, hb⟩
        go_simp
        refine hK (upd U 10 (.tuple #[.agg #[.bool u1, .slice u2 u3 u4], .int .i64 0])) _ _ ?_ ?_
        · rw [HA.out]; kernel_rfl
        · exact ⟨(fb.step hb (Nat.le_refl _)), (fk.trans (KeepP.below hb)), (Nat.le_trans fs hb.size), (oX.stay hb), (oR.stay hb), (mvP mp_is (KeepP.below hb) f0), (mvP mp_is (KeepP.below hb) f1), (mvP mp_int (KeepP.below hb) f2), (fun _ => ⟨_, _, rfl, hr, rfl⟩), (mvP (mp_t2 mp_int mp_is) (KeepP.below hb) f4), (mvP mp_int (KeepP.below hb) f5), (mvP mp_is (KeepP.below hb) f6), (fun h => (f7 h).below hb), (mvP mp_is (KeepP.below hb) f9), s8, m7⟩
      refine StepsU.run rfl ?_ ?_
      · intro L U wr hF hlk haf A K hA hK
        have HA : Hid (A = putAll _ _ U) := hA
        clear hA
        simp [Aft, Region.binds] at haf
        obtain ⟨fb, fk, fs, oX, oR, f0, f1, f2, f3, f4, f5, f6, f7, f9, s8, m7⟩ := hF
        have g3 := f3 (by simp [haf])
        have e10 := rd HA.out 10 (by kernel_rfl) rfl
        refine ⟨?_⟩
        go_simp
        refine hK (upd U 6 (U 10)) _ _ ?_ ?_
        · rw [HA.out]; kernel_rfl
        · exact ⟨fb, fk, fs, oX, oR, f0, f1, f2, f3, (fun _ => g3), f5, f6, f7, f9, s8, m7⟩
      refine StepsU.run rfl ?_ ?_
      · intro L U wr hF hlk haf A K hA hK
        have HA : Hid (A = putAll _ _ U) := hA
        clear hA
        simp [Aft, Region.binds] at haf
        obtain ⟨fb, fk, fs, oX, oR, f0, f1, f2, f3, f4, f5, f6, f7, f9, s8, m7⟩ := hF
        have g4 := f4 (by simp [haf])
        obtain ⟨t0, t1, hT, k0, k1⟩ := g4
        have e6 := rd HA.out 6 (by kernel_rfl) hT
        refine ⟨?_⟩
        go_simp
        have hs8 : L 8 = false := by cases h : L 8 with | false => rfl | true => rw [s8 h] at hlk; cases hlk
        refine hK (upd U 11 t0) _ _ ?_ ?_
        · rw [HA.out]; kernel_rfl
        · exact ⟨fb, fk, fs, oX, oR, f0, f1, f2, f3, f4, (fun _ => k0), f6, (fun h => flip_v (P := fun v => NEWU _ _ _ _ v) hs8 (f7 h)), f9, (fun _ => rfl), m7⟩
      refine StepsU.run rfl ?_ ?_
      · intro L U wr hF hlk haf A K hA hK
        have HA : Hid (A = putAll _ _ U) := hA
        clear hA
        simp [Aft, Region.binds] at haf
        obtain ⟨fb, fk, fs, oX, oR, f0, f1, f2, f3, f4, f5, f6, f7, f9, s8, m7⟩ := hF
        have g4 := f4 (by simp [haf])
        obtain ⟨t0, t1, hT, k0, k1⟩ := g4
        have e6 := rd HA.out 6 (by kernel_rfl) hT
        refine ⟨?_⟩
        go_simp
        refine hK (upd U 12 t1) _ _ ?_ ?_
        · rw [HA.out]; kernel_rfl
        · exact ⟨fb, fk, fs, oX, oR, f0, f1, f2, f3, f4, f5, (fun _ => k1), f7, f9, s8, m7⟩
      refine StepsU.run rfl ?_ ?_
      · intro L U wr hF hlk haf A K hA hK
        have HA : Hid (A = putAll _ _ U) := hA
        clear hA
        simp [Aft, Region.binds] at haf
        obtain ⟨fb, fk, fs, oX, oR, f0, f1, f2, f3, f4, f5, f6, f7, f9, s8, m7⟩ := hF
        have hst : L 8 = false := by cases h : L 8 with | false => rfl | true => rw [m7 h] at hlk; cases hlk
        refine ⟨?_⟩
        go_simp
        have hb := below_new wr (.cells #[.bool false, .slice none 0 0] 31 (0, 0))
        refine hK (upd U 4 (.pointer (some ⟨wr.heap.size, 0, none⟩))) _ _ ?_ ?_
        · rw [HA.out]; kernel_rfl
        · exact ⟨(fb.step hb (Nat.le_refl _)), (fk.trans (KeepP.below hb)), (Nat.le_trans fs hb.size), (oX.stay hb), (oR.stay hb), (mvP mp_is (KeepP.below hb) f0), (mvP mp_is (KeepP.below hb) f1), (mvP mp_int (KeepP.below hb) f2), (mvP (mp_t2 mp_int mp_is) (KeepP.below hb) f3), (mvP (mp_t2 mp_int mp_is) (KeepP.below hb) f4), (mvP mp_int (KeepP.below hb) f5), (mvP mp_is (KeepP.below hb) f6), (fun _ => newU_zero (by simp [hst]) (NEWU.mk fs (nuI _ _ _ _))), (mvP mp_is (KeepP.below hb) f9), s8, (fun _ => rfl)⟩
      refine StepsU.run rfl ?_ ?_
      · intro L U wr hF hlk haf A K hA hK
        have HA : Hid (A = putAll _ _ U) := hA
        clear hA
        simp [Aft, Region.binds] at haf
        obtain ⟨fb, fk, fs, oX, oR, f0, f1, f2, f3, f4, f5, f6, f7, f9, s8, m7⟩ := hF
        have g5 := f5 (by simp [haf])
        obtain ⟨yx, ya, yn, yc, hsrc⟩ := AInt.shape g5
        have e11 := rd HA.out 11 (by kernel_rfl) hsrc
        have g7 := f7 (by simp [haf])
        rw [hlk, cond_false] at g7
        obtain ⟨b, cs, hp, hBb, hcs, hblk, hN⟩ := g7
        injection hcs with hcs
        subst hcs
        have e4 := rd HA.out 4 (by kernel_rfl) hp
        have q0 := hblk.frozen 0
        have q1 := hblk.frozen 1
        have c0 := hblk.cell 0
        have c1 := hblk.cell 1
        simp at c0
        simp at c1
        have hlt := hblk.lt
        refine ⟨?_⟩
        go_simp
        refine hK U _ _ ?_ ?_
        · exact HA.out
        · exact ⟨(below_stores (Nat.le_trans (by exact hbW.size) hBb) [.bool yx, .slice ya yn yc] 0 fb), (fk.trans (keepP_stores (by decide) (by decide) [.bool yx, .slice ya yn yc] 0 hblk (nuI _ _ _ _) (nuI _ _ _ _))), (by simp; exact fs), (oX.otherS (Nat.ne_of_gt (Nat.lt_of_lt_of_le ltX hBb)) 0 [.bool yx, .slice ya yn yc]), (oR.otherS (Nat.ne_of_gt (Nat.lt_of_lt_of_le ltR hBb)) 0 [.bool yx, .slice ya yn yc]), (mvP mp_is (keepP_stores (by decide) (by decide) [.bool yx, .slice ya yn yc] 0 hblk (nuI _ _ _ _) (nuI _ _ _ _)) f0), (mvP mp_is (keepP_stores (by decide) (by decide) [.bool yx, .slice ya yn yc] 0 hblk (nuI _ _ _ _) (nuI _ _ _ _)) f1), (mvP mp_int (keepP_stores (by decide) (by decide) [.bool yx, .slice ya yn yc] 0 hblk (nuI _ _ _ _) (nuI _ _ _ _)) f2), (mvP (mp_t2 mp_int mp_is) (keepP_stores (by decide) (by decide) [.bool yx, .slice ya yn yc] 0 hblk (nuI _ _ _ _) (nuI _ _ _ _)) f3), (mvP (mp_t2 mp_int mp_is) (keepP_stores (by decide) (by decide) [.bool yx, .slice ya yn yc] 0 hblk (nuI _ _ _ _) (nuI _ _ _ _)) f4), (mvP mp_int (keepP_stores (by decide) (by decide) [.bool yx, .slice ya yn yc] 0 hblk (nuI _ _ _ _) (nuI _ _ _ _)) f5), (mvP mp_is (keepP_stores (by decide) (by decide) [.bool yx, .slice ya yn yc] 0 hblk (nuI _ _ _ _) (nuI _ _ _ _)) f6), (fun _ => by simp only [cond_true, Bool.true_or, beq_self_eq_true]; exact storedU_new hp hsrc (NEWU.overS hBb hblk [.bool yx, .slice ya yn yc] rfl (nuI _ _ _ _))), (mvP mp_is (keepP_stores (by decide) (by decide) [.bool yx, .slice ya yn yc] 0 hblk (nuI _ _ _ _) (nuI _ _ _ _)) f9), (fun _ => by simp [haf]), (fun _ => by simp [haf])⟩
      refine StepsU.run rfl ?_ StepsU.nil
      · intro L U wr hF hlk haf A K hA hK
        have HA : Hid (A = putAll _ _ U) := hA
        clear hA
        simp [Aft, Region.binds] at haf
        obtain ⟨fb, fk, fs, oX, oR, f0, f1, f2, f3, f4, f5, f6, f7, f9, s8, m7⟩ := hF
        have g6 := f6 (by simp [haf])
        have e12 := rd HA.out 12 (by kernel_rfl) rfl
        refine ⟨?_⟩
        go_simp
        refine hK (upd U 5 (U 12)) _ _ ?_ ?_
        · rw [HA.out]; kernel_rfl
        · exact ⟨fb, fk, fs, oX, oR, f0, f1, f2, f3, f4, f5, f6, f7, (fun _ => g6), s8, m7⟩
    clear hbw oX oR
    intro L U1 V1 hall hF
    obtain ⟨hbw, fk, fs, oX, oR, f0, f1, f2, f3, f4, f5, f6, f7, f9, s8, m7⟩ := hF
    clear s8 m7
    have g0 := f0 (hall 0 (by decide))
    have g1 := f1 (hall 1 (by decide))
    have g2 := f2 (hall 2 (by decide))
    have g3 := f3 (hall 3 (by decide))
    have g4 := f4 (hall 4 (by decide))
    have g5 := f5 (hall 5 (by decide))
    have g6 := f6 (hall 6 (by decide))
    have g7 := f7 (hall 7 (by decide))
    rw [hall 8 (by decide), cond_true] at g7
    have g9 := f9 (hall 9 (by decide))
    clear hall f0 f1 f2 f3 f4 f5 f6 f7 f9
    replace hX := hX.keepP fk
    replace hM := hM.keepP fk
    obtain ⟨bT, csT, hpT, lbT, hcsT, oT, -⟩ := g7
    obtain ⟨xT, aT, nT, cT, hvT⟩ := AInt.shape g5
    have hT : AInt _ _ _ := g5
    rw [hvT] at hT hcsT
    injection hcsT with hcsT
    subst hcsT
    clear hvT
    have ltT := oT.lt
    have neXT : w.heap.size ≠ bT := Nat.ne_of_lt (Nat.lt_of_lt_of_le ltX lbT)
    have neRT : w.heap.size + 1 ≠ bT := Nat.ne_of_lt (Nat.lt_of_lt_of_le ltR lbT)
    have lwT : w.heap.size ≤ bT := Nat.le_trans hbW.size lbT
    replace ltX := oX.lt
    replace ltR := oR.lt
    clear lbT
    try clear g0
    try clear g1
    try clear g2
    try clear g3
    try clear g4
    try clear g5
    try clear g6
    clear hbW
    simp only [setM_some, setM_none, setM_nil]
    rw [hpT]
    clear hpT
    clear fk fs
    have e5 : U1 5 = _ := g9
    rw [e5]
    clear g9 e5
    rw [hz_of HR.out] at hT
    go_wp2
    have geR : w.heap.size ≤ w.heap.size + 1 := lwR
    have neRX : w.heap.size + 1 ≠ w.heap.size := by omega
    have hbW := hbw
    refine wp_region_M (by kernel_rfl) [3, 17, 18, 19, 20, 21, 22] [none, none, none, some 3, none, none, none, none, none, none, none, none, none, none, none, none, none, some 17, some 18, some 19, some 20, some 21, some 22] (fun U => by kernel_rfl) (fun L U wr => Below w.heap.size w wr ∧ KeepP V1 wr ∧ V1.heap.size ≤ wr.heap.size ∧ Blk 82 wr (w.heap.size) #[.slice pX qX rX, .bool xX, .slice aX nX cX, .bool yX, .slice dX lX fX] ∧ Blk 31 wr (bT) #[.bool xT, .slice aT nT cT] ∧ BlkV 82 wr (w.heap.size + 1) (bif L 6 then U 22 else .agg #[.slice none 0 0, .bool false, .slice none 0 0, .bool false, .slice none 0 0]) ∧ (L 0 = true → IS (.pointer (some ⟨w.heap.size, 0, none⟩)) (U 17) wr) ∧ (L 1 = true → IS (.agg #[.slice pX qX rX, .bool xX, .slice aX nX cX]) (U 18) wr) ∧ (L 2 = true → TRM (mulP a (-1)) (-0) (U 19) wr) ∧ (L 3 = true → IS (.agg #[.bool xT, .slice aT nT cT]) (U 20) wr) ∧ (L 4 = true → INT (-(m + 1)) (U 21) wr) ∧ (L 5 = true → ROW (mulP a (-1)) (-(m + 1)) (U 22) wr) ∧ (L 7 = true → IS (.int .i64 0) (U 3) wr) ∧ (L 6 = true → L 5 = true)) (by kernel_rfl) ?_ ?_ ?_
    · exact fun U => ⟨hbw.drew, KeepP.below (Below.refl _ _).drew, Nat.le_refl _, oX.drew, oT.drew, ⟨_, rfl, oR.drew⟩, (fun h => by cases h), (fun h => by cases h), (fun h => by cases h), (fun h => by cases h), (fun h => by cases h), (fun h => by cases h), (fun h => by cases h), (fun h => by cases h)⟩
    · refine StepsU.run rfl ?_ ?_
      · intro L U wr hF hlk haf A K hA hK
        have HA : Hid (A = putAll _ _ U) := hA
        clear hA
        simp [Aft, Region.binds] at haf
        obtain ⟨fb, fk, fs, oX, oT, rR, f0, f1, f2, f3, f4, f5, f7, s6⟩ := hF
        have e1 : A.tmps[1]? = some (.pointer (some ⟨w.heap.size, 0, none⟩)) := by rw [HA.out]; kernel_rfl
        refine ⟨?_⟩
        go_simp
        refine hK (upd U 17 (.pointer (some ⟨w.heap.size, 0, none⟩))) _ _ ?_ ?_
        · rw [HA.out]; kernel_rfl
        · exact ⟨fb, fk, fs, oX, oT, rR, (fun _ => rfl), f1, f2, f3, f4, f5, f7, s6⟩
      refine StepsU.run rfl ?_ ?_
      · intro L U wr hF hlk haf A K hA hK
        have HA : Hid (A = putAll _ _ U) := hA
        clear hA
        simp [Aft, Region.binds] at haf
        obtain ⟨fb, fk, fs, oX, oT, rR, f0, f1, f2, f3, f4, f5, f7, s6⟩ := hF
        have g0 := f0 (by simp [haf])
        have e17 := rd HA.out 17 (by kernel_rfl) g0
        have c0 := oX.cell 0
        have c1 := oX.cell 1
        have c2 := oX.cell 2
        simp at c0
        simp at c1
        simp at c2
        refine ⟨?_⟩
        go_simp
        refine hK (upd U 18 (.agg #[.slice pX qX rX, .bool xX, .slice aX nX cX])) _ _ ?_ ?_
        · rw [HA.out]; kernel_rfl
        · exact ⟨fb, fk, fs, oX, oT, rR, f0, (fun _ => rfl), f2, f3, f4, f5, f7, s6⟩
      refine StepsU.run rfl ?_ ?_
      · intro L U wr hF hlk haf A K hA hK
        have HA : Hid (A = putAll _ _ U) := hA
        clear hA
        simp [Aft, Region.binds] at haf
        obtain ⟨fb, fk, fs, oX, oT, rR, f0, f1, f2, f3, f4, f5, f7, s6⟩ := hF
        have g1 := f1 (by simp [haf])
        have e18 := rd HA.out 18 (by kernel_rfl) g1
        refine ⟨?_⟩
        go_simp
        refine (lneg_any _ a 0 _ (hX.keepP fk).val).mono ?_
        rintro e w1 ⟨v, rfl, hr, hb⟩
        go_simp
        refine hK (upd U 19 v) _ _ ?_ ?_
        · rw [HA.out]; kernel_rfl
        · exact ⟨(fb.step hb (Nat.le_refl _)), (fk.trans (KeepP.below hb)), (Nat.le_trans fs hb.size), (oX.stay hb), (oT.stay hb), (rR.stay hb), (mvP mp_is (KeepP.below hb) f0), (mvP mp_is (KeepP.below hb) f1), (fun _ => hr), (mvP mp_is (KeepP.below hb) f3), (mvP mp_int (KeepP.below hb) f4), (mvP mp_row (KeepP.below hb) f5), (mvP mp_is (KeepP.below hb) f7), s6⟩
      refine StepsU.run rfl ?_ ?_
      · intro L U wr hF hlk haf A K hA hK
        have HA : Hid (A = putAll _ _ U) := hA
        clear hA
        simp [Aft, Region.binds] at haf
        obtain ⟨fb, fk, fs, oX, oT, rR, f0, f1, f2, f3, f4, f5, f7, s6⟩ := hF
        have e4 : A.tmps[4]? = some (.pointer (some ⟨bT, 0, none⟩)) := by rw [HA.out]; kernel_rfl
        have c0 := oT.cell 0
        have c1 := oT.cell 1
        simp at c0
        simp at c1
        refine ⟨?_⟩
        go_simp
        refine hK (upd U 20 (.agg #[.bool xT, .slice aT nT cT])) _ _ ?_ ?_
        · rw [HA.out]; kernel_rfl
        · exact ⟨fb, fk, fs, oX, oT, rR, f0, f1, f2, (fun _ => rfl), f4, f5, f7, s6⟩
      refine StepsU.run rfl ?_ ?_
      · intro L U wr hF hlk haf A K hA hK
        have HA : Hid (A = putAll _ _ U) := hA
        clear hA
        simp [Aft, Region.binds] at haf
        obtain ⟨fb, fk, fs, oX, oT, rR, f0, f1, f2, f3, f4, f5, f7, s6⟩ := hF
        have g3 := f3 (by simp [haf])
        have e20 := rd HA.out 20 (by kernel_rfl) g3
        refine ⟨?_⟩
        go_simp
        refine (neg_h _ (m + 1) _ (hT.keepP fk)).mono ?_
        rintro e w1 ⟨u1, u2, u3, u4, rfl, hr, hb⟩
        go_simp
        refine hK (upd U 21 (.agg #[.bool u1, .slice u2 u3 u4])) _ _ ?_ ?_
        · rw [HA.out]; kernel_rfl
        · exact ⟨(fb.step hb (Nat.le_refl _)), (fk.trans (KeepP.below hb)), (Nat.le_trans fs hb.size), (oX.stay hb), (oT.stay hb), (rR.stay hb), (mvP mp_is (KeepP.below hb) f0), (mvP mp_is (KeepP.below hb) f1), (mvP mp_trm (KeepP.below hb) f2), (mvP mp_is (KeepP.below hb) f3), (fun _ => hr), (mvP mp_row (KeepP.below hb) f5), (mvP mp_is (KeepP.below hb) f7), s6⟩
      refine StepsU.run rfl ?_ ?_
      · intro L U wr hF hlk haf A K hA hK
        have HA : Hid (A = putAll _ _ U) := hA
        clear hA
        simp [Aft, Region.binds] at haf
        obtain ⟨fb, fk, fs, oX, oT, rR, f0, f1, f2, f3, f4, f5, f7, s6⟩ := hF
        have g2 := f2 (by simp [haf])
        have g4 := f4 (by simp [haf])
        obtain ⟨y1, y2, y3, y4, y5, y6, y7, hv, hT1⟩ := g2
        obtain ⟨y8, y9, ya, yb, hv2⟩ := AInt.shape g4
        have hT2 : AInt _ _ _ := g4
        rw [hv2] at hT2
        have e19 := rd HA.out 19 (by kernel_rfl) hv
        have e21 := rd HA.out 21 (by kernel_rfl) hv2
        refine ⟨?_⟩
        go_simp
        have hs6 : L 6 = false := by cases h : L 6 with | false => rfl | true => rw [s6 h] at hlk; cases hlk
        refine hK (upd U 22 (.agg #[.slice y1 y2 y3, .bool y4, .slice y5 y6 y7, .bool y8, .slice y9 ya yb])) _ _ ?_ ?_
        · rw [HA.out]; kernel_rfl
        · exact ⟨fb, fk, fs, oX, oT, (flip_v (P := fun v => BlkV _ _ _ v) hs6 rR), f0, f1, f2, f3, f4, (fun _ => ⟨_, _, _, _, _, _, _, _, _, _, _, rfl, hT1, hT2⟩), f7, (fun _ => rfl)⟩
      refine StepsU.run rfl ?_ ?_
      · intro L U wr hF hlk haf A K hA hK
        have HA : Hid (A = putAll _ _ U) := hA
        clear hA
        simp [Aft, Region.binds] at haf
        obtain ⟨fb, fk, fs, oX, oT, rR, f0, f1, f2, f3, f4, f5, f7, s6⟩ := hF
        have g5 := f5 (by simp [haf])
        obtain ⟨yp, yq, yr, yx, ya, yn, yc, yy, yd, yl, yf, hsrc⟩ := RowR.shape g5
        have e22 := rd HA.out 22 (by kernel_rfl) hsrc
        have e2 : A.tmps[2]? = some (.pointer (some ⟨w.heap.size + 1, 0, none⟩)) := by rw [HA.out]; kernel_rfl
        have rV := rR
        rw [hlk, cond_false] at rV
        obtain ⟨cs, hcs, hblk⟩ := rV
        injection hcs with hcs
        subst hcs
        have q0 := hblk.frozen 0
        have q1 := hblk.frozen 1
        have q2 := hblk.frozen 2
        have q3 := hblk.frozen 3
        have q4 := hblk.frozen 4
        have c0 := hblk.cell 0
        have c1 := hblk.cell 1
        have c2 := hblk.cell 2
        have c3 := hblk.cell 3
        have c4 := hblk.cell 4
        simp at c0
        simp at c1
        simp at c2
        simp at c3
        simp at c4
        have hlt := hblk.lt
        refine ⟨?_⟩
        go_simp
        refine hK U _ _ ?_ ?_
        · exact HA.out
        · exact ⟨(below_stores geR [.slice yp yq yr, .bool yx, .slice ya yn yc, .bool yy, .slice yd yl yf] 0 fb), (fk.trans (keepP_stores (by decide) (by decide) [.slice yp yq yr, .bool yx, .slice ya yn yc, .bool yy, .slice yd yl yf] 0 hblk (nuR _ _ _ _ _ _ _ _ _ _ _) (nuR _ _ _ _ _ _ _ _ _ _ _))), (by simp; exact fs), (oX.otherS neRX 0 [.slice yp yq yr, .bool yx, .slice ya yn yc, .bool yy, .slice yd yl yf]), (oT.otherS neRT 0 [.slice yp yq yr, .bool yx, .slice ya yn yc, .bool yy, .slice yd yl yf]), (by simp only [cond_true, Bool.true_or, beq_self_eq_true]; exact ⟨_, hsrc, hblk.overS [.slice yp yq yr, .bool yx, .slice ya yn yc, .bool yy, .slice yd yl yf] 0 rfl⟩), (mvP mp_is (keepP_stores (by decide) (by decide) [.slice yp yq yr, .bool yx, .slice ya yn yc, .bool yy, .slice yd yl yf] 0 hblk (nuR _ _ _ _ _ _ _ _ _ _ _) (nuR _ _ _ _ _ _ _ _ _ _ _)) f0), (mvP mp_is (keepP_stores (by decide) (by decide) [.slice yp yq yr, .bool yx, .slice ya yn yc, .bool yy, .slice yd yl yf] 0 hblk (nuR _ _ _ _ _ _ _ _ _ _ _) (nuR _ _ _ _ _ _ _ _ _ _ _)) f1), (mvP mp_trm (keepP_stores (by decide) (by decide) [.slice yp yq yr, .bool yx, .slice ya yn yc, .bool yy, .slice yd yl yf] 0 hblk (nuR _ _ _ _ _ _ _ _ _ _ _) (nuR _ _ _ _ _ _ _ _ _ _ _)) f2), (mvP mp_is (keepP_stores (by decide) (by decide) [.slice yp yq yr, .bool yx, .slice ya yn yc, .bool yy, .slice yd yl yf] 0 hblk (nuR _ _ _ _ _ _ _ _ _ _ _) (nuR _ _ _ _ _ _ _ _ _ _ _)) f3), (mvP mp_int (keepP_stores (by decide) (by decide) [.slice yp yq yr, .bool yx, .slice ya yn yc, .bool yy, .slice yd yl yf] 0 hblk (nuR _ _ _ _ _ _ _ _ _ _ _) (nuR _ _ _ _ _ _ _ _ _ _ _)) f4), (mvP mp_row (keepP_stores (by decide) (by decide) [.slice yp yq yr, .bool yx, .slice ya yn yc, .bool yy, .slice yd yl yf] 0 hblk (nuR _ _ _ _ _ _ _ _ _ _ _) (nuR _ _ _ _ _ _ _ _ _ _ _)) f5), (mvP mp_is (keepP_stores (by decide) (by decide) [.slice yp yq yr, .bool yx, .slice ya yn yc, .bool yy, .slice yd yl yf] 0 hblk (nuR _ _ _ _ _ _ _ _ _ _ _) (nuR _ _ _ _ _ _ _ _ _ _ _)) f7), (fun _ => by simp [haf])⟩
      refine StepsU.run rfl ?_ StepsU.nil
      · intro L U wr hF hlk haf A K hA hK
        have HA : Hid (A = putAll _ _ U) := hA
        clear hA
        simp [Aft, Region.binds] at haf
        obtain ⟨fb, fk, fs, oX, oT, rR, f0, f1, f2, f3, f4, f5, f7, s6⟩ := hF
        refine ⟨?_⟩
        go_simp
        refine hK (upd U 3 (.int .i64 0)) _ _ ?_ ?_
        · rw [HA.out]; kernel_rfl
        · exact ⟨fb, fk, fs, oX, oT, rR, f0, f1, f2, f3, f4, f5, (fun _ => rfl), s6⟩
    clear hbw oX oT oR
    intro L U2 V2 hall hF
    obtain ⟨hbw, fk, fs, oX, oT, rR, f0, f1, f2, f3, f4, f5, f7, s6⟩ := hF
    clear s6
    have g0 := f0 (hall 0 (by decide))
    have g1 := f1 (hall 1 (by decide))
    have g2 := f2 (hall 2 (by decide))
    have g3 := f3 (hall 3 (by decide))
    have g4 := f4 (hall 4 (by decide))
    have g5 := f5 (hall 5 (by decide))
    have g7 := f7 (hall 7 (by decide))
    rw [hall 6 (by decide), cond_true] at rR
    clear hall f0 f1 f2 f3 f4 f5 f7
    replace hX := hX.keepP fk
    replace hM := hM.keepP fk
    replace hT := hT.keepP fk
    obtain ⟨csR, hcsR, oR⟩ := rR
    obtain ⟨pR, qR, rR, xR, aR, nR, cR, yR, dR, lR, fR, hvR⟩ := RowR.shape g5
    have hR : RowR _ _ _ _ := g5
    rw [hvR] at hR hcsR
    injection hcsR with hcsR
    subst hcsR
    clear hvR
    replace ltR := oR.lt
    replace ltX := oX.lt
    replace ltT := oT.lt
    try clear g0
    try clear g1
    try clear g2
    try clear g3
    try clear g4
    try clear g5
    clear hbW
    simp only [setM_some, setM_none, setM_nil]
    clear fk fs
    have e3 : U2 3 = _ := g7
    obtain ⟨Rc0, Rc1, Rc2, Rc3, Rc4⟩ := oR.five
    obtain ⟨Rk0, Rk1, Rk2, Rk3, Rk4⟩ := oR.frozen5
    try simp only []
    try go_at_K
    repeat (first | go_values | go_skip | go_guarded | go_step | go_upon)
    refine bodyPost_ret (v := .tuple #[.agg #[.slice pR qR rR, .bool xR, .slice aR nR cR, .bool yR, .slice dR lR fR], .int .i64 0]) (by simp [results, Tryz.results45, go_sem, Rc0, Rc1, Rc2, Rc3, Rc4, e3]) rfl ?_
    exact ⟨_, _, rfl, Or.inl ⟨HR.out, rfl, hR⟩, hbw⟩
  · have E0 : ec (m + 1) = 11 := if_neg hr
    have HR : Hid (¬ (m + 1).natAbs < lim) := hr
    clear hr
    generalize ((w.alloc (.cells #[.slice pX qX rX, .bool xX, .slice aX nX cX, .bool yX, .slice dX lX fX] 82 (0, 0))).alloc (.cells #[.slice none 0 0, .bool false, .slice none 0 0, .bool false, .slice none 0 0] 82 (0, 0))) = W0 at hbw oX oR ltX ltR hX hM ⊢
    have hbW := hbw
    refine wp_region_M (by kernel_rfl) [4, 5, 6, 7, 8, 9, 10, 11, 12] [none, none, none, none, some 4, some 5, some 6, some 7, some 8, some 9, some 10, some 11, some 12] (fun U => by kernel_rfl) (fun L U wr => Below w.heap.size w wr ∧ KeepP W0 wr ∧ W0.heap.size ≤ wr.heap.size ∧ Blk 82 wr (w.heap.size) #[.slice pX qX rX, .bool xX, .slice aX nX cX, .bool yX, .slice dX lX fX] ∧ Blk 82 wr (w.heap.size + 1) #[.slice none 0 0, .bool false, .slice none 0 0, .bool false, .slice none 0 0] ∧ (L 0 = true → IS (.pointer (some ⟨w.heap.size, 3, none⟩)) (U 7) wr) ∧ (L 1 = true → IS (.agg #[.bool yX, .slice dX lX fX]) (U 8) wr) ∧ (L 2 = true → INT 1 (U 9) wr) ∧ (L 3 = true → T2 (INT (hz (m + 1))) (IS (.int .i64 11)) (U 10) wr) ∧ (L 4 = true → T2 (INT (hz (m + 1))) (IS (.int .i64 11)) (U 6) wr) ∧ (L 5 = true → INT (hz (m + 1)) (U 11) wr) ∧ (L 6 = true → IS (.int .i64 11) (U 12) wr) ∧ (L 7 = true → NEWU 31 W0.heap.size wr (U 4) (bif L 8 then U 11 else .agg #[.bool false, .slice none 0 0])) ∧ (L 9 = true → IS (.int .i64 11) (U 5) wr) ∧ (L 8 = true → L 5 = true) ∧ (L 8 = true → L 7 = true)) (by kernel_rfl) ?_ ?_ ?_
    · exact fun U => ⟨hbw.drew, KeepP.below (Below.refl _ _).drew, Nat.le_refl _, oX.drew, oR.drew, (fun h => by cases h), (fun h => by cases h), (fun h => by cases h), (fun h => by cases h), (fun h => by cases h), (fun h => by cases h), (fun h => by cases h), (fun h => by cases h), (fun h => by cases h), (fun h => by cases h), (fun h => by cases h)⟩
    · refine StepsU.run rfl ?_ ?_
      · intro L U wr hF hlk haf A K hA hK
        have HA : Hid (A = putAll _ _ U) := hA
        clear hA
        simp [Aft, Region.binds] at haf
        obtain ⟨fb, fk, fs, oX, oR, f0, f1, f2, f3, f4, f5, f6, f7, f9, s8, m7⟩ := hF
        have e1 : A.tmps[1]? = some (.pointer (some ⟨w.heap.size, 0, none⟩)) := by rw [HA.out]; kernel_rfl
        refine ⟨?_⟩
        go_simp
        refine hK (upd U 7 (.pointer (some ⟨w.heap.size, 3, none⟩))) _ _ ?_ ?_
        · rw [HA.out]; kernel_rfl
        · exact ⟨fb, fk, fs, oX, oR, (fun _ => rfl), f1, f2, f3, f4, f5, f6, f7, f9, s8, m7⟩
      refine StepsU.run rfl ?_ ?_
      · intro L U wr hF hlk haf A K hA hK
        have HA : Hid (A = putAll _ _ U) := hA
        clear hA
        simp [Aft, Region.binds] at haf
        obtain ⟨fb, fk, fs, oX, oR, f0, f1, f2, f3, f4, f5, f6, f7, f9, s8, m7⟩ := hF
        have g0 := f0 (by simp [haf])
        have e7 := rd HA.out 7 (by kernel_rfl) g0
        have c3 := oX.cell 3
        have c4 := oX.cell 4
        simp at c3
        simp at c4
        refine ⟨?_⟩
        go_simp
        refine hK (upd U 8 (.agg #[.bool yX, .slice dX lX fX])) _ _ ?_ ?_
        · rw [HA.out]; kernel_rfl
        · exact ⟨fb, fk, fs, oX, oR, f0, (fun _ => rfl), f2, f3, f4, f5, f6, f7, f9, s8, m7⟩
      refine StepsU.run rfl ?_ ?_
      · intro L U wr hF hlk haf A K hA hK
        have HA : Hid (A = putAll _ _ U) := hA
        clear hA
        simp [Aft, Region.binds] at haf
        obtain ⟨fb, fk, fs, oX, oR, f0, f1, f2, f3, f4, f5, f6, f7, f9, s8, m7⟩ := hF
        refine ⟨?_⟩
        go_simp
        refine (from_h 1 _ (by decide) (by decide)).mono ?_
        rintro e w1 ⟨u1, u2, u3, u4, rfl, hr, hb⟩
        go_simp
        refine hK (upd U 9 (.agg #[.bool u1, .slice u2 u3 u4])) _ _ ?_ ?_
        · rw [HA.out]; kernel_rfl
        · exact ⟨(fb.step hb (Nat.le_refl _)), (fk.trans (KeepP.below hb)), (Nat.le_trans fs hb.size), (oX.stay hb), (oR.stay hb), (mvP mp_is (KeepP.below hb) f0), (mvP mp_is (KeepP.below hb) f1), (fun _ => hr), (mvP (mp_t2 mp_int mp_is) (KeepP.below hb) f3), (mvP (mp_t2 mp_int mp_is) (KeepP.below hb) f4), (mvP mp_int (KeepP.below hb) f5), (mvP mp_is (KeepP.below hb) f6), (fun h => (f7 h).below hb), (mvP mp_is (KeepP.below hb) f9), s8, m7⟩
      refine StepsU.run rfl ?_ ?_
      · intro L U wr hF hlk haf A K hA hK
        have HA : Hid (A = putAll _ _ U) := hA
        clear hA
        simp [Aft, Region.binds] at haf
        obtain ⟨fb, fk, fs, oX, oR, f0, f1, f2, f3, f4, f5, f6, f7, f9, s8, m7⟩ := hF
        have g1 := f1 (by simp [haf])
        have e8 := rd HA.out 8 (by kernel_rfl) g1
        have g2 := f2 (by simp [haf])
        have e9 := rd HA.out 9 (by kernel_rfl) rfl
        refine ⟨?_⟩
        go_simp
        refine (add_h _ _ m 1 _ (hM.keepP fk) g2).mono ?_
        rintro e w1 ⟨u1, u2, u3, u4, rfl, hr, hb⟩
        go_simp
        refine hK (upd U 10 (.tuple #[.agg #[.bool u1, .slice u2 u3 u4], .int .i64 11])) _ _ ?_ ?_
        · rw [HA.out]; kernel_rfl
        · exact ⟨(fb.step hb (Nat.le_refl _)), (fk.trans (KeepP.below hb)), (Nat.le_trans fs hb.size), (oX.stay hb), (oR.stay hb), (mvP mp_is (KeepP.below hb) f0), (mvP mp_is (KeepP.below hb) f1), (mvP mp_int (KeepP.below hb) f2), (fun _ => ⟨_, _, rfl, hr, rfl⟩), (mvP (mp_t2 mp_int mp_is) (KeepP.below hb) f4), (mvP mp_int (KeepP.below hb) f5), (mvP mp_is (KeepP.below hb) f6), (fun h => (f7 h).below hb), (mvP mp_is (KeepP.below hb) f9), s8, m7⟩
      refine StepsU.run rfl ?_ ?_
      · intro L U wr hF hlk haf A K hA hK
        have HA : Hid (A = putAll _ _ U) := hA
        clear hA
        simp [Aft, Region.binds] at haf
        obtain ⟨fb, fk, fs, oX, oR, f0, f1, f2, f3, f4, f5, f6, f7, f9, s8, m7⟩ := hF
        have g3 := f3 (by simp [haf])
        have e10 := rd HA.out 10 (by kernel_rfl) rfl
        refine ⟨?_⟩
        go_simp
        refine hK (upd U 6 (U 10)) _ _ ?_ ?_
        · rw [HA.out]; kernel_rfl
        · exact ⟨fb, fk, fs, oX, oR, f0, f1, f2, f3, (fun _ => g3), f5, f6, f7, f9, s8, m7⟩
      refine StepsU.run rfl ?_ ?_
      · intro L U wr hF hlk haf A K hA hK
        have HA : Hid (A = putAll _ _ U) := hA
        clear hA
        simp [Aft, Region.binds] at haf
        obtain ⟨fb, fk, fs, oX, oR, f0, f1, f2, f3, f4, f5, f6, f7, f9, s8, m7⟩ := hF
        have g4 := f4 (by simp [haf])
        obtain ⟨t0, t1, hT, k0, k1⟩ := g4
        have e6 := rd HA.out 6 (by kernel_rfl) hT
        refine ⟨?_⟩
        go_simp
        have hs8 : L 8 = false := by cases h : L 8 with | false => rfl | true => rw [s8 h] at hlk; cases hlk
        refine hK (upd U 11 t0) _ _ ?_ ?_
        · rw [HA.out]; kernel_rfl
        · exact ⟨fb, fk, fs, oX, oR, f0, f1, f2, f3, f4, (fun _ => k0), f6, (fun h => flip_v (P := fun v => NEWU _ _ _ _ v) hs8 (f7 h)), f9, (fun _ => rfl), m7⟩
      refine StepsU.run rfl ?_ ?_
      · intro L U wr hF hlk haf A K hA hK
        have HA : Hid (A = putAll _ _ U) := hA
        clear hA
        simp [Aft, Region.binds] at haf
        obtain ⟨fb, fk, fs, oX, oR, f0, f1, f2, f3, f4, f5, f6, f7, f9, s8, m7⟩ := hF
        have g4 := f4 (by simp [haf])
        obtain ⟨t0, t1, hT, k0, k1⟩ := g4
        have e6 := rd HA.out 6 (by kernel_rfl) hT
        refine ⟨?_⟩
        go_simp
        refine hK (upd U 12 t1) _ _ ?_ ?_
        · rw [HA.out]; kernel_rfl
        · exact ⟨fb, fk, fs, oX, oR, f0, f1, f2, f3, f4, f5, (fun _ => k1), f7, f9, s8, m7⟩
      refine StepsU.run rfl ?_ ?_
      · intro L U wr hF hlk haf A K hA hK
        have HA : Hid (A = putAll _ _ U) := hA
        clear hA
        simp [Aft, Region.binds] at haf
        obtain ⟨fb, fk, fs, oX, oR, f0, f1, f2, f3, f4, f5, f6, f7, f9, s8, m7⟩ := hF
        have hst : L 8 = false := by cases h : L 8 with | false => rfl | true => rw [m7 h] at hlk; cases hlk
        refine ⟨?_⟩
        go_simp
        have hb := below_new wr (.cells #[.bool false, .slice none 0 0] 31 (0, 0))
        refine hK (upd U 4 (.pointer (some ⟨wr.heap.size, 0, none⟩))) _ _ ?_ ?_
        · rw [HA.out]; kernel_rfl
        · exact ⟨(fb.step hb (Nat.le_refl _)), (fk.trans (KeepP.below hb)), (Nat.le_trans fs hb.size), (oX.stay hb), (oR.stay hb), (mvP mp_is (KeepP.below hb) f0), (mvP mp_is (KeepP.below hb) f1), (mvP mp_int (KeepP.below hb) f2), (mvP (mp_t2 mp_int mp_is) (KeepP.below hb) f3), (mvP (mp_t2 mp_int mp_is) (KeepP.below hb) f4), (mvP mp_int (KeepP.below hb) f5), (mvP mp_is (KeepP.below hb) f6), (fun _ => newU_zero (by simp [hst]) (NEWU.mk fs (nuI _ _ _ _))), (mvP mp_is (KeepP.below hb) f9), s8, (fun _ => rfl)⟩
      refine StepsU.run rfl ?_ ?_
      · intro L U wr hF hlk haf A K hA hK
        have HA : Hid (A = putAll _ _ U) := hA
        clear hA
        simp [Aft, Region.binds] at haf
        obtain ⟨fb, fk, fs, oX, oR, f0, f1, f2, f3, f4, f5, f6, f7, f9, s8, m7⟩ := hF
        have g5 := f5 (by simp [haf])
        obtain ⟨yx, ya, yn, yc, hsrc⟩ := AInt.shape g5
        have e11 := rd HA.out 11 (by kernel_rfl) hsrc
        have g7 := f7 (by simp [haf])
        rw [hlk, cond_false] at g7
        obtain ⟨b, cs, hp, hBb, hcs, hblk, hN⟩ := g7
        injection hcs with hcs
        subst hcs
        have e4 := rd HA.out 4 (by kernel_rfl) hp
        have q0 := hblk.frozen 0
        have q1 := hblk.frozen 1
        have c0 := hblk.cell 0
        have c1 := hblk.cell 1
        simp at c0
        simp at c1
        have hlt := hblk.lt
        refine ⟨?_⟩
        go_simp
        refine hK U _ _ ?_ ?_
        · exact HA.out
        · exact ⟨(below_stores (Nat.le_trans (by exact hbW.size) hBb) [.bool yx, .slice ya yn yc] 0 fb), (fk.trans (keepP_stores (by decide) (by decide) [.bool yx, .slice ya yn yc] 0 hblk (nuI _ _ _ _) (nuI _ _ _ _))), (by simp; exact fs), (oX.otherS (Nat.ne_of_gt (Nat.lt_of_lt_of_le ltX hBb)) 0 [.bool yx, .slice ya yn yc]), (oR.otherS (Nat.ne_of_gt (Nat.lt_of_lt_of_le ltR hBb)) 0 [.bool yx, .slice ya yn yc]), (mvP mp_is (keepP_stores (by decide) (by decide) [.bool yx, .slice ya yn yc] 0 hblk (nuI _ _ _ _) (nuI _ _ _ _)) f0), (mvP mp_is (keepP_stores (by decide) (by decide) [.bool yx, .slice ya yn yc] 0 hblk (nuI _ _ _ _) (nuI _ _ _ _)) f1), (mvP mp_int (keepP_stores (by decide) (by decide) [.bool yx, .slice ya yn yc] 0 hblk (nuI _ _ _ _) (nuI _ _ _ _)) f2), (mvP (mp_t2 mp_int mp_is) (keepP_stores (by decide) (by decide) [.bool yx, .slice ya yn yc] 0 hblk (nuI _ _ _ _) (nuI _ _ _ _)) f3), (mvP (mp_t2 mp_int mp_is) (keepP_stores (by decide) (by decide) [.bool yx, .slice ya yn yc] 0 hblk (nuI _ _ _ _) (nuI _ _ _ _)) f4), (mvP mp_int (keepP_stores (by decide) (by decide) [.bool yx, .slice ya yn yc] 0 hblk (nuI _ _ _ _) (nuI _ _ _ _)) f5), (mvP mp_is (keepP_stores (by decide) (by decide) [.bool yx, .slice ya yn yc] 0 hblk (nuI _ _ _ _) (nuI _ _ _ _)) f6), (fun _ => by simp only [cond_true, Bool.true_or, beq_self_eq_true]; exact storedU_new hp hsrc (NEWU.overS hBb hblk [.bool yx, .slice ya yn yc] rfl (nuI _ _ _ _))), (mvP mp_is (keepP_stores (by decide) (by decide) [.bool yx, .slice ya yn yc] 0 hblk (nuI _ _ _ _) (nuI _ _ _ _)) f9), (fun _ => by simp [haf]), (fun _ => by simp [haf])⟩
      refine StepsU.run rfl ?_ StepsU.nil
      · intro L U wr hF hlk haf A K hA hK
        have HA : Hid (A = putAll _ _ U) := hA
        clear hA
        simp [Aft, Region.binds] at haf
        obtain ⟨fb, fk, fs, oX, oR, f0, f1, f2, f3, f4, f5, f6, f7, f9, s8, m7⟩ := hF
        have g6 := f6 (by simp [haf])
        have e12 := rd HA.out 12 (by kernel_rfl) rfl
        refine ⟨?_⟩
        go_simp
        refine hK (upd U 5 (U 12)) _ _ ?_ ?_
        · rw [HA.out]; kernel_rfl
        · exact ⟨fb, fk, fs, oX, oR, f0, f1, f2, f3, f4, f5, f6, f7, (fun _ => g6), s8, m7⟩
    clear hbw oX oR
    intro L U1 V1 hall hF
    obtain ⟨hbw, fk, fs, oX, oR, f0, f1, f2, f3, f4, f5, f6, f7, f9, s8, m7⟩ := hF
    clear s8 m7
    have g0 := f0 (hall 0 (by decide))
    have g1 := f1 (hall 1 (by decide))
    have g2 := f2 (hall 2 (by decide))
    have g3 := f3 (hall 3 (by decide))
    have g4 := f4 (hall 4 (by decide))
    have g5 := f5 (hall 5 (by decide))
    have g6 := f6 (hall 6 (by decide))
    have g7 := f7 (hall 7 (by decide))
    rw [hall 8 (by decide), cond_true] at g7
    have g9 := f9 (hall 9 (by decide))
    clear hall f0 f1 f2 f3 f4 f5 f6 f7 f9
    replace hX := hX.keepP fk
    replace hM := hM.keepP fk
    obtain ⟨bT, csT, hpT, lbT, hcsT, oT, -⟩ := g7
    obtain ⟨xT, aT, nT, cT, hvT⟩ := AInt.shape g5
    have hT : AInt _ _ _ := g5
    rw [hvT] at hT hcsT
    injection hcsT with hcsT
    subst hcsT
    clear hvT
    have ltT := oT.lt
    have neXT : w.heap.size ≠ bT := Nat.ne_of_lt (Nat.lt_of_lt_of_le ltX lbT)
    have neRT : w.heap.size + 1 ≠ bT := Nat.ne_of_lt (Nat.lt_of_lt_of_le ltR lbT)
    have lwT : w.heap.size ≤ bT := Nat.le_trans hbW.size lbT
    replace ltX := oX.lt
    replace ltR := oR.lt
    clear lbT
    try clear g0
    try clear g1
    try clear g2
    try clear g3
    try clear g4
    try clear g5
    try clear g6
    clear hbW
    simp only [setM_some, setM_none, setM_nil]
    rw [hpT]
    clear hpT
    clear fk fs
    have e5 : U1 5 = _ := g9
    rw [e5]
    clear g9 e5
    obtain ⟨Rc0, Rc1, Rc2, Rc3, Rc4⟩ := oR.five
    obtain ⟨Rk0, Rk1, Rk2, Rk3, Rk4⟩ := oR.frozen5
    try simp only []
    try go_at_K
    repeat (first | go_values | go_skip | go_guarded | go_step | go_upon)
    refine bodyPost_ret (v := .tuple #[.agg #[.slice none 0 0, .bool false, .slice none 0 0, .bool false, .slice none 0 0], .int .i64 11]) (by simp [results, Tryz.results45, go_sem, Rc0, Rc1, Rc2, Rc3, Rc4]) rfl ?_
    obtain ⟨K1, B1, _⟩ := resR (by decide) (by decide) oR hbw lwR none 0 0 false none 0 0 false none 0 0
    exact ⟨_, _, rfl, Or.inr ⟨HR.out, rfl, RowR.zero _⟩, B1⟩

end Go.Proofs.YteefniagebcagaaGreatDoor
/- Contracts of slices.Clone and linear's copied, whose parts are their own; Tight; they prove no statement of the seat. -/
namespace Go.Proofs.YteefniagebcagaaGreatDoor
open Go.RowKit
set_option linter.unusedVariables false

/-- A slice of parts of the call's own. -/
def PTO (base : Nat) (ps : List (Nat × Int)) : Value → World → Prop := fun u w => ∃ xs, LstG 3 116 base w u ps.length xs ∧ ElsP w xs ps
theorem mp_pto {base : Nat} {ps : List (Nat × Int)} : MonoP (PTO base ps) := fun _ _ _ hk h => by
  obtain ⟨xs, h1, h2⟩ := h
  exact ⟨xs, h1.keepP hk, h2.keep hk.n⟩
/-- A term whose parts are the call's own. -/
def TOwn (base : Nat) (w : World) (v : Value) (ps : List (Nat × Int)) (r : Int) : Prop := ∃ p q k x a n c xs, v = .agg #[.slice p q k, .bool x, .slice a n c] ∧ TP w p q k x a n c ps r ∧ LstG 3 116 base w (.slice p q k) q xs ∧ ElsP w xs ps
def TRO (base : Nat) (ps : List (Nat × Int)) (r : Int) : Value → World → Prop := fun u w => TOwn base w u ps r
theorem TOwn.keepP {base : Nat} {w w' : World} {v : Value} {ps : List (Nat × Int)} {r : Int} (h : TOwn base w v ps r) (hk : KeepP w w') : TOwn base w' v ps r := by
  obtain ⟨p, q, k, x, a, n, c, xs, rfl, h1, h2, h3⟩ := h
  exact ⟨p, q, k, x, a, n, c, xs, rfl, h1.keepP hk, h2.keepP hk, h3.keep hk.n⟩
theorem mp_tro {base : Nat} {ps : List (Nat × Int)} {r : Int} : MonoP (TRO base ps r) := fun _ _ _ hk h => TOwn.keepP h hk
theorem TOwn.shape {base : Nat} {w : World} {v : Value} {ps : List (Nat × Int)} {r : Int} (h : TOwn base w v ps r) : ∃ p n k x a m c, v = .agg #[.slice p n k, .bool x, .slice a m c] := by
  obtain ⟨p, q, k, x, a, n, c, xs, rfl, _⟩ := h
  exact ⟨p, q, k, x, a, n, c, rfl⟩

set_option maxRecDepth 20000 in
set_option maxHeartbeats 8000000 in
theorem clone_own (ao : Option Addr) (n cap : Nat) (ps : List (Nat × Int)) (w : World) (h : PArr w ao ps) (hl : ps.length = n) (h1 : n ≤ cap) (h2 : cap ≤ maxLen) (h3 : ao = none → cap = 0) (hm : n ≤ 10000) :
    Calls Tryz.prog 109 #[.slice ao n cap] w fun e w' => ∃ v, e = .returned v ∧ PTO w.heap.size ps v w' ∧ Below w.heap.size w w' := by
  have q28 : ∀ (w : World) (a : Option Addr) (n c n' c' : Nat), (binOp .eql 28 (.slice a n c) (.slice none n' c')).run Tryz.prog w = .ok (.bool a.isNone) w := fun w a n c n' c' => Lib.run_eql_slice_nil w _ _ a n c n' c' Tryz.und_parts
  cases ao with
  | none =>
    have h4 := h3 rfl
    subst h4
    have h5 : n = 0 := by omega
    subst h5
    have h6 : ps = [] := List.eq_nil_of_length_eq_zero hl
    subst h6
    go_enter Tryz.func109, Tryz.ntmps109
    go_wp2
    go_ret
    exact ⟨_, rfl, ⟨[], LstG.nil _ _ _ _, ElsP.nil _⟩, Below.refl _ _⟩
  | some ad =>
    have HL : Hid (ps.length = n) := hl
    clear hl h3
    unfold maxLen at h2
    have hnil : LstG 3 116 w.heap.size (w.alloc (.cells #[] 116 (0, 0))) (.slice (some ⟨w.heap.size, 0, none⟩) 0 0) ([] : List (Nat × Int)).length [] :=
      ⟨rfl, Or.inr ⟨w.heap.size, 0, #[], rfl, Nat.le_refl _, heap_alloc_new w _, Nat.le_refl _, Nat.zero_le _, rfl, rfl, fun u hu => by simp at hu⟩⟩
    have hbw := below_new w (.cells #[] 116 (0, 0))
    have HPA : Hid (PArr (w.alloc (.cells #[] 116 (0, 0))) (some ad) ps) := h.below hbw
    clear h
    go_enter Tryz.func109, Tryz.ntmps109
    go_wp2_with (at_builtin; refine wpList_append_pts rfl _ _ 28 rfl w.heap.size 40 Tryz.und_parts Tryz.info_part (by decide) _ [] [] rfl hnil (ElsP.nil _) ps _ _ _ rfl HL.out (fun h => by cases h) h1 HPA.out (by simp; omega) (by simp) ?_; intro v' w1 ys hL hE hA hnn; have hbw1 := hbw.trans hA.bel; clear hnn hA)
    go_ret
    exact ⟨_, rfl, ⟨ys, hL, hE⟩, hbw1⟩

set_option maxRecDepth 20000 in
set_option maxHeartbeats 8000000 in
theorem copied_own (vX : Value) (ps : List (Nat × Int)) (r : Int) (w : World) (hX : TermR w vX ps r) :
    Calls Tryz.prog 70 #[vX] w fun e w' => ∃ v, e = .returned v ∧ TOwn w.heap.size w' v ps r ∧ Below w.heap.size w w' := by
  obtain ⟨pX, qX, rX, xX, aX, nX, cX, rfl, hX⟩ := hX
  have oX := ((Blk.new w 33 #[.slice pX qX rX, .bool xX, .slice aX nX cX]).alloc (.cells #[.slice none 0 0, .bool false, .slice none 0 0] 33 (0, 0)))
  have oR := (Blk.new (w.alloc (.cells #[.slice pX qX rX, .bool xX, .slice aX nX cX] 33 (0, 0))) 33 #[.slice none 0 0, .bool false, .slice none 0 0])
  simp only [World.size_alloc] at oR
  have hbw : Below w.heap.size w ((w.alloc (.cells #[.slice pX qX rX, .bool xX, .slice aX nX cX] 33 (0, 0))).alloc (.cells #[.slice none 0 0, .bool false, .slice none 0 0] 33 (0, 0))) := by go_grown
  replace hX := hX.below hbw
  have ltX := oX.lt
  have lwX : w.heap.size ≤ w.heap.size := by omega
  have ltR := oR.lt
  have lwR : w.heap.size ≤ w.heap.size + 1 := by omega
  go_enter Tryz.func70, Tryz.ntmps70
  have hlen := hX.n_le
  go_wp2
  generalize ((w.alloc (.cells #[.slice pX qX rX, .bool xX, .slice aX nX cX] 33 (0, 0))).alloc (.cells #[.slice none 0 0, .bool false, .slice none 0 0] 33 (0, 0))) = W0 at hbw oX oR ltX ltR hX ⊢
  have geR : w.heap.size ≤ w.heap.size + 1 := lwR
  have neRX : w.heap.size + 1 ≠ w.heap.size := by omega
  have hbW := hbw
  refine wp_region_M (by kernel_rfl) [3, 4, 5, 6, 7, 8] [none, none, none, some 3, some 4, some 5, some 6, some 7, some 8] (fun U => by kernel_rfl) (fun L U wr => Below w.heap.size w wr ∧ KeepP W0 wr ∧ W0.heap.size ≤ wr.heap.size ∧ Blk 33 wr (w.heap.size) #[.slice pX qX rX, .bool xX, .slice aX nX cX] ∧ BlkV 33 wr (w.heap.size + 1) (bif L 6 then U 8 else .agg #[.slice none 0 0, .bool false, .slice none 0 0]) ∧ (L 0 = true → IS (.pointer (some ⟨w.heap.size, 0, none⟩)) (U 3) wr) ∧ (L 1 = true → IS (.slice pX qX rX) (U 4) wr) ∧ (L 2 = true → PTO w.heap.size ps (U 5) wr) ∧ (L 3 = true → IS (.pointer (some ⟨w.heap.size, 1, none⟩)) (U 6) wr) ∧ (L 4 = true → IS (.agg #[.bool xX, .slice aX nX cX]) (U 7) wr) ∧ (L 5 = true → TRO w.heap.size ps r (U 8) wr) ∧ (L 6 = true → L 5 = true)) (by kernel_rfl) ?_ ?_ ?_
  · exact fun U => ⟨hbw.drew, KeepP.below (Below.refl _ _).drew, Nat.le_refl _, oX.drew, ⟨_, rfl, oR.drew⟩, (fun h => by cases h), (fun h => by cases h), (fun h => by cases h), (fun h => by cases h), (fun h => by cases h), (fun h => by cases h), (fun h => by cases h)⟩
  · refine StepsU.run rfl ?_ ?_
    · intro L U wr hF hlk haf A K hA hK
      have HA : Hid (A = putAll _ _ U) := hA
      clear hA
      simp [Aft, Region.binds] at haf
      obtain ⟨fb, fk, fs, oX, rR, f0, f1, f2, f3, f4, f5, s6⟩ := hF
      have e1 : A.tmps[1]? = some (.pointer (some ⟨w.heap.size, 0, none⟩)) := by rw [HA.out]; kernel_rfl
      refine ⟨?_⟩
      go_simp
      refine hK (upd U 3 (.pointer (some ⟨w.heap.size, 0, none⟩))) _ _ ?_ ?_
      · rw [HA.out]; kernel_rfl
      · exact ⟨fb, fk, fs, oX, rR, (fun _ => rfl), f1, f2, f3, f4, f5, s6⟩
    refine StepsU.run rfl ?_ ?_
    · intro L U wr hF hlk haf A K hA hK
      have HA : Hid (A = putAll _ _ U) := hA
      clear hA
      simp [Aft, Region.binds] at haf
      obtain ⟨fb, fk, fs, oX, rR, f0, f1, f2, f3, f4, f5, s6⟩ := hF
      have g0 := f0 (by simp [haf])
      have e3 := rd HA.out 3 (by kernel_rfl) g0
      have c0 := oX.cell 0
      simp at c0
      refine ⟨?_⟩
      go_simp
      refine hK (upd U 4 (.slice pX qX rX)) _ _ ?_ ?_
      · rw [HA.out]; kernel_rfl
      · exact ⟨fb, fk, fs, oX, rR, f0, (fun _ => rfl), f2, f3, f4, f5, s6⟩
    refine StepsU.run rfl ?_ ?_
    · intro L U wr hF hlk haf A K hA hK
      have HA : Hid (A = putAll _ _ U) := hA
      clear hA
      simp [Aft, Region.binds] at haf
      obtain ⟨fb, fk, fs, oX, rR, f0, f1, f2, f3, f4, f5, s6⟩ := hF
      have g1 := f1 (by simp [haf])
      have e4 := rd HA.out 4 (by kernel_rfl) g1
      refine ⟨?_⟩
      go_simp
      refine (clone_own _ _ _ _ _ (hX.arr.keepP fk) hX.len hX.cap1 hX.cap2 hX.none (by omega)).mono ?_
      rintro e w1 ⟨v, rfl, hr, hb⟩
      go_simp
      refine hK (upd U 5 v) _ _ ?_ ?_
      · rw [HA.out]; kernel_rfl
      · exact ⟨(fb.step hb (Nat.le_refl _)), (fk.trans (KeepP.below hb)), (Nat.le_trans fs hb.size), (oX.stay hb), (rR.stay hb), (mvP mp_is (KeepP.below hb) f0), (mvP mp_is (KeepP.below hb) f1), (fun _ => (by obtain ⟨xs, h1, h2⟩ := hr; exact ⟨xs, h1.mono fb.size, h2⟩)), (mvP mp_is (KeepP.below hb) f3), (mvP mp_is (KeepP.below hb) f4), (mvP mp_tro (KeepP.below hb) f5), s6⟩
    refine StepsU.run rfl ?_ ?_
    · intro L U wr hF hlk haf A K hA hK
      have HA : Hid (A = putAll _ _ U) := hA
      clear hA
      simp [Aft, Region.binds] at haf
      obtain ⟨fb, fk, fs, oX, rR, f0, f1, f2, f3, f4, f5, s6⟩ := hF
      have e1 : A.tmps[1]? = some (.pointer (some ⟨w.heap.size, 0, none⟩)) := by rw [HA.out]; kernel_rfl
      refine ⟨?_⟩
      go_simp
      refine hK (upd U 6 (.pointer (some ⟨w.heap.size, 1, none⟩))) _ _ ?_ ?_
      · rw [HA.out]; kernel_rfl
      · exact ⟨fb, fk, fs, oX, rR, f0, f1, f2, (fun _ => rfl), f4, f5, s6⟩
    refine StepsU.run rfl ?_ ?_
    · intro L U wr hF hlk haf A K hA hK
      have HA : Hid (A = putAll _ _ U) := hA
      clear hA
      simp [Aft, Region.binds] at haf
      obtain ⟨fb, fk, fs, oX, rR, f0, f1, f2, f3, f4, f5, s6⟩ := hF
      have g3 := f3 (by simp [haf])
      have e6 := rd HA.out 6 (by kernel_rfl) g3
      have c1 := oX.cell 1
      have c2 := oX.cell 2
      simp at c1
      simp at c2
      refine ⟨?_⟩
      go_simp
      refine hK (upd U 7 (.agg #[.bool xX, .slice aX nX cX])) _ _ ?_ ?_
      · rw [HA.out]; kernel_rfl
      · exact ⟨fb, fk, fs, oX, rR, f0, f1, f2, f3, (fun _ => rfl), f5, s6⟩
    refine StepsU.run rfl ?_ ?_
    · intro L U wr hF hlk haf A K hA hK
      have HA : Hid (A = putAll _ _ U) := hA
      clear hA
      simp [Aft, Region.binds] at haf
      obtain ⟨fb, fk, fs, oX, rR, f0, f1, f2, f3, f4, f5, s6⟩ := hF
      have g2 := f2 (by simp [haf])
      have g4 := f4 (by simp [haf])
      obtain ⟨xs, hL2, hE2⟩ := g2
      obtain ⟨ao, cap, hv, h1, h2, h3, h4⟩ := hL2.parr hE2 rfl
      obtain ⟨n, hn9⟩ : ∃ n, n = ps.length := ⟨_, rfl⟩
      rw [hv] at hL2
      rw [← hn9] at hv hL2 h1
      have H0 : Hid (ps.length = n) := hn9.symm
      clear hn9
      have e5 := rd HA.out 5 (by kernel_rfl) hv
      have e7 := rd HA.out 7 (by kernel_rfl) g4
      refine ⟨?_⟩
      go_simp
      have hs6 : L 6 = false := by cases h : L 6 with | false => rfl | true => rw [s6 h] at hlk; cases hlk
      refine hK (upd U 8 (.agg #[.slice ao n cap, .bool xX, .slice aX nX cX])) _ _ ?_ ?_
      · rw [HA.out]; kernel_rfl
      · exact ⟨fb, fk, fs, oX, (flip_v (P := fun v => BlkV _ _ _ v) hs6 rR), f0, f1, f2, f3, f4, (fun _ => ⟨_, _, _, _, _, _, _, xs, rfl, ⟨H0.out, h1, h2, h3, h4, hX.rest.keepP fk, hX.fine⟩, hL2, hE2⟩), (fun _ => rfl)⟩
    refine StepsU.run rfl ?_ StepsU.nil
    · intro L U wr hF hlk haf A K hA hK
      have HA : Hid (A = putAll _ _ U) := hA
      clear hA
      simp [Aft, Region.binds] at haf
      obtain ⟨fb, fk, fs, oX, rR, f0, f1, f2, f3, f4, f5, s6⟩ := hF
      have g5 := f5 (by simp [haf])
      obtain ⟨yp, yq, yr, yx, ya, yn, yc, hsrc⟩ := TOwn.shape g5
      have e8 := rd HA.out 8 (by kernel_rfl) hsrc
      have e2 : A.tmps[2]? = some (.pointer (some ⟨w.heap.size + 1, 0, none⟩)) := by rw [HA.out]; kernel_rfl
      have rV := rR
      rw [hlk, cond_false] at rV
      obtain ⟨cs, hcs, hblk⟩ := rV
      injection hcs with hcs
      subst hcs
      have q0 := hblk.frozen 0
      have q1 := hblk.frozen 1
      have q2 := hblk.frozen 2
      have c0 := hblk.cell 0
      have c1 := hblk.cell 1
      have c2 := hblk.cell 2
      simp at c0
      simp at c1
      simp at c2
      have hlt := hblk.lt
      refine ⟨?_⟩
      go_simp
      refine hK U _ _ ?_ ?_
      · exact HA.out
      · exact ⟨(below_stores geR [.slice yp yq yr, .bool yx, .slice ya yn yc] 0 fb), (fk.trans (keepP_stores (by decide) (by decide) [.slice yp yq yr, .bool yx, .slice ya yn yc] 0 hblk (nuT _ _ _ _ _ _ _) (nuT _ _ _ _ _ _ _))), (by simp; exact fs), (oX.otherS neRX 0 [.slice yp yq yr, .bool yx, .slice ya yn yc]), (by simp only [cond_true, Bool.true_or, beq_self_eq_true]; exact ⟨_, hsrc, hblk.overS [.slice yp yq yr, .bool yx, .slice ya yn yc] 0 rfl⟩), (mvP mp_is (keepP_stores (by decide) (by decide) [.slice yp yq yr, .bool yx, .slice ya yn yc] 0 hblk (nuT _ _ _ _ _ _ _) (nuT _ _ _ _ _ _ _)) f0), (mvP mp_is (keepP_stores (by decide) (by decide) [.slice yp yq yr, .bool yx, .slice ya yn yc] 0 hblk (nuT _ _ _ _ _ _ _) (nuT _ _ _ _ _ _ _)) f1), (mvP mp_pto (keepP_stores (by decide) (by decide) [.slice yp yq yr, .bool yx, .slice ya yn yc] 0 hblk (nuT _ _ _ _ _ _ _) (nuT _ _ _ _ _ _ _)) f2), (mvP mp_is (keepP_stores (by decide) (by decide) [.slice yp yq yr, .bool yx, .slice ya yn yc] 0 hblk (nuT _ _ _ _ _ _ _) (nuT _ _ _ _ _ _ _)) f3), (mvP mp_is (keepP_stores (by decide) (by decide) [.slice yp yq yr, .bool yx, .slice ya yn yc] 0 hblk (nuT _ _ _ _ _ _ _) (nuT _ _ _ _ _ _ _)) f4), (mvP mp_tro (keepP_stores (by decide) (by decide) [.slice yp yq yr, .bool yx, .slice ya yn yc] 0 hblk (nuT _ _ _ _ _ _ _) (nuT _ _ _ _ _ _ _)) f5), (fun _ => by simp [haf])⟩
  clear hbw oX oR
  intro L U1 V1 hall hF
  obtain ⟨hbw, fk, fs, oX, rR, f0, f1, f2, f3, f4, f5, s6⟩ := hF
  clear s6
  have g0 := f0 (hall 0 (by decide))
  have g1 := f1 (hall 1 (by decide))
  have g2 := f2 (hall 2 (by decide))
  have g3 := f3 (hall 3 (by decide))
  have g4 := f4 (hall 4 (by decide))
  have g5 := f5 (hall 5 (by decide))
  rw [hall 6 (by decide), cond_true] at rR
  clear hall f0 f1 f2 f3 f4 f5
  replace hX := hX.keepP fk
  obtain ⟨csR, hcsR, oR⟩ := rR
  obtain ⟨pR, qR, rR, xR, aR, nR, cR, hvR⟩ := TOwn.shape g5
  have hR : TOwn _ _ _ _ _ := g5
  rw [hvR] at hR hcsR
  injection hcsR with hcsR
  subst hcsR
  clear hvR
  replace ltR := oR.lt
  replace ltX := oX.lt
  try clear g0
  try clear g1
  try clear g2
  try clear g3
  try clear g4
  try clear g5
  clear hbW
  simp only [setM_some, setM_none, setM_nil]
  clear fk fs
  obtain ⟨Rc0, Rc1, Rc2⟩ := oR.three
  obtain ⟨Rk0, Rk1, Rk2⟩ := oR.frozen3
  try simp only []
  try go_at_K
  repeat (first | go_values | go_skip | go_guarded | go_step | go_upon)
  refine bodyPost_ret (v := .agg #[.slice pR qR rR, .bool xR, .slice aR nR cR]) (by simp [results, Tryz.results70, go_sem, Rc0, Rc1, Rc2]) rfl ?_
  exact ⟨_, rfl, hR, hbw⟩

/-- The bits of a number beside 2. -/
theorem bits_t (va : Value) (x : Int) (w : World) (ha : AInt w va x) :
    Calls Tryz.prog 81 #[va] w fun e w' => ∃ n : Nat, e = .returned (.int .i64 n) ∧ ((n : Int) < 2 ↔ x.natAbs < 2) ∧ Below w.heap.size w w' := by
  obtain ⟨neg, xs, hv, hx, hlim⟩ := ha
  have h := bits_any va neg xs w hv
  obtain ⟨_, _, _, _, _, _, hd, hn, _⟩ := hv
  have e1 : x.natAbs = val 4294967296 xs := by rw [hx]; unfold sv; split <;> omega
  refine h.mono ?_
  rintro e w' ⟨rfl, hb⟩
  refine ⟨blen xs, rfl, ?_, hb⟩
  have h1 := blen_le_iff hd hn 1
  rw [e1]
  omega
theorem cmf : ∀ (l : List (Nat × Int)) (g : Int), 0 ≤ g → 0 ≤ l.foldl (fun g p => ((Int.gcd g p.2 : Nat) : Int)) g ∧ l.foldl (fun g p => ((Int.gcd g p.2 : Nat) : Int)) g ∣ g ∧ ∀ p ∈ l, l.foldl (fun g p => ((Int.gcd g p.2 : Nat) : Int)) g ∣ p.2
  | [], g, hg => ⟨hg, Int.dvd_refl _, fun p hp => by cases hp⟩
  | q :: l, g, hg => by
    obtain ⟨h1, h2, h3⟩ := cmf l ((Int.gcd g q.2 : Nat) : Int) (Int.natCast_nonneg _)
    refine ⟨h1, Int.dvd_trans h2 (Int.gcd_dvd_left ..), fun p hp => ?_⟩
    rcases List.mem_cons.1 hp with rfl | hp
    · exact Int.dvd_trans h2 (Int.gcd_dvd_right ..)
    · exact h3 p hp
theorem cm_dvd (l : List (Nat × Int)) : ∀ p ∈ l, cm l ∣ p.2 := (cmf l 0 (Int.le_refl 0)).2.2
/-- The coefficients divided. -/
def divP (l : List (Nat × Int)) (g : Int) : List (Nat × Int) := l.map fun p => (p.1, p.2.fdiv g)
theorem fdiv_dvd {z g : Int} (hg : g ≠ 0) (h : g ∣ z) : z.fdiv g * g = z := by
  obtain ⟨c, rfl⟩ := h
  rw [Int.mul_fdiv_cancel_left _ hg, Int.mul_comm]
theorem divP_fine {l : List (Nat × Int)} {g : Int} (h : Fine l) (hg : g ≠ 0) (hd : ∀ p ∈ l, g ∣ p.2) : Fine (divP l g) := by
  refine ⟨?_, fun p hp => ?_⟩
  · have h1 := h.1
    unfold Rise divP at *
    rw [List.pairwise_map]
    exact h1
  · unfold divP at hp
    obtain ⟨q, hq, rfl⟩ := List.mem_map.1 hp
    obtain ⟨k1, k2, k3⟩ := h.2 q hq
    have e := fdiv_dvd hg (hd q hq)
    refine ⟨fun h0 => ?_, ?_, k3⟩
    · simp at h0; rw [h0] at e; simp at e; exact k1 e.symm
    · have e2 : (q.2.fdiv g).natAbs * g.natAbs = q.2.natAbs := by rw [← Int.natAbs_mul, e]
      have e3 : 1 ≤ g.natAbs := by omega
      have e4 : (q.2.fdiv g).natAbs * 1 ≤ (q.2.fdiv g).natAbs * g.natAbs := Nat.mul_le_mul_left _ e3
      simp only []
      omega
/-- The first k divided. -/
def mixP (l : List (Nat × Int)) (g : Int) (k : Nat) : List (Nat × Int) := l.mapIdx fun i p => if i < k then (p.1, p.2.fdiv g) else p
theorem mixP_getD (l : List (Nat × Int)) (g : Int) (k i : Nat) : (mixP l g k).getD i (0, 0) = if i < k then ((l.getD i (0, 0)).1, (l.getD i (0, 0)).2.fdiv g) else l.getD i (0, 0) := by
  unfold mixP
  rw [List.getD_eq_getElem?_getD, List.getD_eq_getElem?_getD, List.getElem?_mapIdx]
  cases l[i]? with
  | none => simp
  | some p => simp
theorem mixP_length (l : List (Nat × Int)) (g : Int) (k : Nat) : (mixP l g k).length = l.length := by unfold mixP; rw [List.length_mapIdx]
theorem mixP_zero (l : List (Nat × Int)) (g : Int) : mixP l g 0 = l := by
  unfold mixP
  refine List.ext_getElem? fun i => ?_
  rw [List.getElem?_mapIdx]
  cases l[i]? <;> simp
theorem mixP_full (l : List (Nat × Int)) (g : Int) (k : Nat) (h : l.length ≤ k) : mixP l g k = divP l g := by
  unfold mixP divP
  refine List.ext_getElem? fun i => ?_
  rw [List.getElem?_mapIdx, List.getElem?_map]
  by_cases hi : i < l.length
  · rw [List.getElem?_eq_getElem hi]; simp; omega
  · rw [List.getElem?_eq_none (by omega)]; rfl
theorem ElsP.put2 {w : World} {xs : List Value} {ps qs : List (Nat × Int)} {k : Nat} {x : Bool} {a : Option Addr} {m c : Nat} (h : ElsP w xs ps) (hx : xs.length = ps.length * 3) (hk : k < ps.length) (hl : qs.length = ps.length) (hq : ∀ i, i ≠ k → qs.getD i (0, 0) = ps.getD i (0, 0)) (hv : (qs.getD k (0, 0)).1 = (ps.getD k (0, 0)).1) (hz : AInt w (.agg #[.bool x, .slice a m c]) (qs.getD k (0, 0)).2) :
    ElsP w (xs.take (k * 3 + 1) ++ [.bool x, .slice a m c] ++ xs.drop (k * 3 + 1 + 2)) qs := by
  have hlen : (xs.take (k * 3 + 1)).length = k * 3 + 1 := by rw [List.length_take]; omega
  have lo : ∀ j, j < k * 3 + 1 → (xs.take (k * 3 + 1) ++ [Value.bool x, .slice a m c] ++ xs.drop (k * 3 + 1 + 2))[j]? = xs[j]? := fun j hj => by
    rw [List.append_assoc, List.getElem?_append_left (by omega), List.getElem?_take]; simp [hj]
  have hi : ∀ j, k * 3 + 3 ≤ j → (xs.take (k * 3 + 1) ++ [Value.bool x, .slice a m c] ++ xs.drop (k * 3 + 1 + 2))[j]? = xs[j]? := fun j hj => by
    rw [List.getElem?_append_right (by simp; omega), List.getElem?_drop]
    congr 1
    simp; omega
  intro i hi'
  rw [hl] at hi'
  by_cases hik : i = k
  · subst hik
    obtain ⟨s, a', n, c', h1, h2, h3, h4⟩ := h i hi'
    refine ⟨x, a, m, c, ?_, ?_, ?_, hz⟩
    · rw [lo _ (by omega), h1, hv]
    · rw [List.append_assoc, List.getElem?_append_right (by omega), hlen]; simp
    · rw [List.append_assoc, List.getElem?_append_right (by omega), hlen, show i * 3 + 2 - (i * 3 + 1) = 1 by omega]; simp
  · obtain ⟨s, a', n, c', h1, h2, h3, h4⟩ := h i hi'
    rw [hq i hik]
    by_cases hlt : i < k
    · exact ⟨s, a', n, c', by rw [lo _ (by omega), h1], by rw [lo _ (by omega), h2], by rw [lo _ (by omega), h3], h4⟩
    · exact ⟨s, a', n, c', by rw [hi _ (by omega), h1], by rw [hi _ (by omega), h2], by rw [hi _ (by omega), h3], h4⟩
/-- A row whose parts are the call's own. -/
def ROwn (base : Nat) (w : World) (v : Value) (ps : List (Nat × Int)) (m : Int) : Prop := ∃ p q r x a n c y d l f xs, v = .agg #[.slice p q r, .bool x, .slice a n c, .bool y, .slice d l f] ∧ TP w p q r x a n c ps 0 ∧ LstG 3 116 base w (.slice p q r) q xs ∧ ElsP w xs ps ∧ AInt w (.agg #[.bool y, .slice d l f]) m
def ROO (base : Nat) (ps : List (Nat × Int)) (m : Int) : Value → World → Prop := fun u w => ROwn base w u ps m
theorem ROwn.shape {base : Nat} {w : World} {v : Value} {ps : List (Nat × Int)} {m : Int} (h : ROwn base w v ps m) : ∃ p q r x a n c y d l f, v = .agg #[.slice p q r, .bool x, .slice a n c, .bool y, .slice d l f] := by
  obtain ⟨p, q, r, x, a, n, c, y, d, l, f, xs, rfl, _⟩ := h
  exact ⟨p, q, r, x, a, n, c, y, d, l, f, rfl⟩
theorem ROwn.keepP {base : Nat} {w w' : World} {v : Value} {ps : List (Nat × Int)} {m : Int} (h : ROwn base w v ps m) (hk : KeepP w w') : ROwn base w' v ps m := by
  obtain ⟨p, q, r, x, a, n, c, y, d, l, f, xs, rfl, h1, h2, h3, h4⟩ := h
  exact ⟨p, q, r, x, a, n, c, y, d, l, f, xs, rfl, h1.keepP hk, h2.keepP hk, h3.keep hk.n, h4.keepP hk⟩
theorem ROwn.below {base : Nat} {w w' : World} {v : Value} {ps : List (Nat × Int)} {m : Int} (h : ROwn base w v ps m) (hb : Below w.heap.size w w') : ROwn base w' v ps m := h.keepP (KeepP.below hb)
theorem mp_roo {base : Nat} {ps : List (Nat × Int)} {m : Int} : MonoP (ROO base ps m) := fun _ _ _ hk h => ROwn.keepP h hk
theorem TOwn.mono {base base' : Nat} {w : World} {v : Value} {ps : List (Nat × Int)} {r : Int} (h : TOwn base w v ps r) (hb : base' ≤ base) : TOwn base' w v ps r := by
  obtain ⟨p, q, k, x, a, n, c, xs, rfl, h1, h2, h3⟩ := h
  exact ⟨p, q, k, x, a, n, c, xs, rfl, h1, h2.mono hb, h3⟩
theorem LstG.at3 {base : Nat} {w : World} {g n cap : Nat} {xs : List Value} {ps : List (Nat × Int)} (h : LstG 3 116 base w (.slice (some ⟨g, 0, none⟩) n cap) n xs) (he : ElsP w xs ps) (k : Nat) (hk : k < n) (hl : ps.length = n) :
    ∃ s a m c, w.cell? ⟨g, k * 3, none⟩ = some (.int .i64 ((ps.getD k (0, 0)).1 : Nat)) ∧ w.cell? ⟨g, k * 3 + 1, none⟩ = some (.bool s) ∧ w.cell? ⟨g, k * 3 + 2, none⟩ = some (.slice a m c) ∧ AInt w (.agg #[.bool s, .slice a m c]) (ps.getD k (0, 0)).2 := by
  obtain ⟨s, a, m, c, h1, h2, h3, h4⟩ := he k (by omega)
  obtain ⟨u0, c0, d0⟩ := h.cell (k * 3) (by omega)
  obtain ⟨u1, c1, d1⟩ := h.cell (k * 3 + 1) (by omega)
  obtain ⟨u2, c2, d2⟩ := h.cell (k * 3 + 2) (by omega)
  rw [d0] at h1; rw [d1] at h2; rw [d2] at h3
  injection h1 with h1; injection h2 with h2; injection h3 with h3
  subst h1 h2 h3
  exact ⟨s, a, m, c, c0, c1, c2, h4⟩
/-- What Tight makes of a row. -/
def tgP (a : List (Nat × Int)) : List (Nat × Int) := if (cm a).natAbs < 2 then a else divP a (cm a)
def tgM (a : List (Nat × Int)) (m : Int) : Int := if (cm a).natAbs < 2 then m else m.fdiv (cm a)

set_option maxRecDepth 20000 in
set_option maxHeartbeats 8000000 in
theorem tight_any (vX : Value) (a : List (Nat × Int)) (m : Int) (w : World) (hX : RowR w vX a m) :
    Calls Tryz.prog 47 #[vX] w fun e w' => ∃ v, e = .returned v ∧ RowR w' v (tgP a) (tgM a m) ∧ Below w.heap.size w w' := by
  obtain ⟨pX, qX, rX, xX, aX, nX, cX, yX, dX, lX, fX, rfl, hX, hM⟩ := hX
  have oX := ((Blk.new w 82 #[.slice pX qX rX, .bool xX, .slice aX nX cX, .bool yX, .slice dX lX fX]).alloc (.cells #[.slice none 0 0, .bool false, .slice none 0 0, .bool false, .slice none 0 0] 82 (0, 0)))
  have oR := (Blk.new (w.alloc (.cells #[.slice pX qX rX, .bool xX, .slice aX nX cX, .bool yX, .slice dX lX fX] 82 (0, 0))) 82 #[.slice none 0 0, .bool false, .slice none 0 0, .bool false, .slice none 0 0])
  simp only [World.size_alloc] at oR
  have hbw : Below w.heap.size w ((w.alloc (.cells #[.slice pX qX rX, .bool xX, .slice aX nX cX, .bool yX, .slice dX lX fX] 82 (0, 0))).alloc (.cells #[.slice none 0 0, .bool false, .slice none 0 0, .bool false, .slice none 0 0] 82 (0, 0))) := by go_grown
  replace hX := hX.below hbw
  have ltX := oX.lt
  have lwX : w.heap.size ≤ w.heap.size := by omega
  have ltR := oR.lt
  have lwR : w.heap.size ≤ w.heap.size + 1 := by omega
  go_enter Tryz.func47, Tryz.ntmps47
  replace hM := hM.below hbw
  have HLN : Hid (a.length = qX) := hX.len
  have HFN : Hid (Fine a) := hX.fine
  have hlen := hX.n_le
  obtain ⟨Xc0, Xc1, Xc2, Xc3, Xc4⟩ := oX.five
  obtain ⟨Xk0, Xk1, Xk2, Xk3, Xk4⟩ := oX.frozen5
  go_wp2_with fail
  refine (common_any _ a 0 _ hX.val).mono ?_
  rintro e w1 ⟨xG, aG, nG, cG, rfl, hG, hb⟩
  clear Xc0 Xc1 Xc2 Xc3 Xc4 Xk0 Xk1 Xk2 Xk3 Xk4
  replace oX := oX.stay hb
  replace ltX := oX.lt
  replace oR := oR.stay hb
  replace ltR := oR.lt
  replace hX := hX.below hb
  replace hM := hM.below hb
  replace hbw := hbw.step hb (Nat.le_refl _)
  clear hb
  have hn := below_new w1 (.cells #[.bool xG, .slice aG nG cG] 31 (0, 0))
  have oG := Blk.new w1 31 #[.bool xG, .slice aG nG cG]
  have neXG : w.heap.size ≠ w1.heap.size := by have := ltX; (try simp at this); omega
  have neRG : w.heap.size + 1 ≠ w1.heap.size := by have := ltR; (try simp at this); omega
  have lwG : w.heap.size ≤ w1.heap.size := by have := hbw.size; (try simp at this); omega
  replace oX := oX.stay hn
  replace ltX := oX.lt
  replace oR := oR.stay hn
  replace ltR := oR.lt
  replace hX := hX.below hn
  replace hM := hM.below hn
  replace hG := hG.below hn
  replace hbw := hbw.step hn (Nat.le_refl _)
  clear hn
  have ltG := oG.lt
  go_wp2
  generalize (w1.alloc (.cells #[.bool xG, .slice aG nG cG] 31 (0, 0))) = W1 at hbw oX oR oG ltX ltR ltG hX hM hG ⊢
  have hbW := hbw
  refine wp_region_M (by kernel_rfl) [4, 10, 11, 12, 13, 14, 15] [none, none, none, none, some 4, none, none, none, none, none, some 10, some 11, some 12, some 13, some 14, some 15] (fun U => by kernel_rfl) (fun L U wr => Below w.heap.size w wr ∧ KeepP W1 wr ∧ W1.heap.size ≤ wr.heap.size ∧ Blk 82 wr (w.heap.size) #[.slice pX qX rX, .bool xX, .slice aX nX cX, .bool yX, .slice dX lX fX] ∧ Blk 82 wr (w.heap.size + 1) #[.slice none 0 0, .bool false, .slice none 0 0, .bool false, .slice none 0 0] ∧ Blk 31 wr (w1.heap.size) #[.bool xG, .slice aG nG cG] ∧ (L 0 = true → IS (.pointer (some ⟨w.heap.size, 0, none⟩)) (U 10) wr) ∧ (L 1 = true → IS (.agg #[.slice pX qX rX, .bool xX, .slice aX nX cX]) (U 11) wr) ∧ (L 2 = true → TRO w.heap.size a 0 (U 12) wr) ∧ (L 3 = true → IS (.pointer (some ⟨w.heap.size, 3, none⟩)) (U 13) wr) ∧ (L 4 = true → IS (.agg #[.bool yX, .slice dX lX fX]) (U 14) wr) ∧ (L 5 = true → ROO w.heap.size a m (U 15) wr) ∧ (L 6 = true → NEWU 82 W1.heap.size wr (U 4) (bif L 7 then U 15 else .agg #[.slice none 0 0, .bool false, .slice none 0 0, .bool false, .slice none 0 0])) ∧ (L 7 = true → L 5 = true) ∧ (L 7 = true → L 6 = true)) (by kernel_rfl) ?_ ?_ ?_
  · exact fun U => ⟨hbw.drew, KeepP.below (Below.refl _ _).drew, Nat.le_refl _, oX.drew, oR.drew, oG.drew, (fun h => by cases h), (fun h => by cases h), (fun h => by cases h), (fun h => by cases h), (fun h => by cases h), (fun h => by cases h), (fun h => by cases h), (fun h => by cases h), (fun h => by cases h)⟩
  · refine StepsU.run rfl ?_ ?_
    · intro L U wr hF hlk haf A K hA hK
      have HA : Hid (A = putAll _ _ U) := hA
      clear hA
      simp [Aft, Region.binds] at haf
      obtain ⟨fb, fk, fs, oX, oR, oG, f0, f1, f2, f3, f4, f5, f6, s7, m6⟩ := hF
      have e1 : A.tmps[1]? = some (.pointer (some ⟨w.heap.size, 0, none⟩)) := by rw [HA.out]; kernel_rfl
      refine ⟨?_⟩
      go_simp
      refine hK (upd U 10 (.pointer (some ⟨w.heap.size, 0, none⟩))) _ _ ?_ ?_
      · rw [HA.out]; kernel_rfl
      · exact ⟨fb, fk, fs, oX, oR, oG, (fun _ => rfl), f1, f2, f3, f4, f5, f6, s7, m6⟩
    refine StepsU.run rfl ?_ ?_
    · intro L U wr hF hlk haf A K hA hK
      have HA : Hid (A = putAll _ _ U) := hA
      clear hA
      simp [Aft, Region.binds] at haf
      obtain ⟨fb, fk, fs, oX, oR, oG, f0, f1, f2, f3, f4, f5, f6, s7, m6⟩ := hF
      have g0 := f0 (by simp [haf])
      have e10 := rd HA.out 10 (by kernel_rfl) g0
      have c0 := oX.cell 0
      have c1 := oX.cell 1
      have c2 := oX.cell 2
      simp at c0
      simp at c1
      simp at c2
      refine ⟨?_⟩
      go_simp
      refine hK (upd U 11 (.agg #[.slice pX qX rX, .bool xX, .slice aX nX cX])) _ _ ?_ ?_
      · rw [HA.out]; kernel_rfl
      · exact ⟨fb, fk, fs, oX, oR, oG, f0, (fun _ => rfl), f2, f3, f4, f5, f6, s7, m6⟩
    refine StepsU.run rfl ?_ ?_
    · intro L U wr hF hlk haf A K hA hK
      have HA : Hid (A = putAll _ _ U) := hA
      clear hA
      simp [Aft, Region.binds] at haf
      obtain ⟨fb, fk, fs, oX, oR, oG, f0, f1, f2, f3, f4, f5, f6, s7, m6⟩ := hF
      have g1 := f1 (by simp [haf])
      have e11 := rd HA.out 11 (by kernel_rfl) g1
      refine ⟨?_⟩
      go_simp
      refine (copied_own _ a 0 _ (hX.keepP fk).val).mono ?_
      rintro e w1 ⟨v, rfl, hr, hb⟩
      go_simp
      refine hK (upd U 12 v) _ _ ?_ ?_
      · rw [HA.out]; kernel_rfl
      · exact ⟨(fb.step hb (Nat.le_refl _)), (fk.trans (KeepP.below hb)), (Nat.le_trans fs hb.size), (oX.stay hb), (oR.stay hb), (oG.stay hb), (mvP mp_is (KeepP.below hb) f0), (mvP mp_is (KeepP.below hb) f1), (fun _ => (TOwn.mono hr fb.size)), (mvP mp_is (KeepP.below hb) f3), (mvP mp_is (KeepP.below hb) f4), (mvP mp_roo (KeepP.below hb) f5), (fun h => (f6 h).below hb), s7, m6⟩
    refine StepsU.run rfl ?_ ?_
    · intro L U wr hF hlk haf A K hA hK
      have HA : Hid (A = putAll _ _ U) := hA
      clear hA
      simp [Aft, Region.binds] at haf
      obtain ⟨fb, fk, fs, oX, oR, oG, f0, f1, f2, f3, f4, f5, f6, s7, m6⟩ := hF
      have e1 : A.tmps[1]? = some (.pointer (some ⟨w.heap.size, 0, none⟩)) := by rw [HA.out]; kernel_rfl
      refine ⟨?_⟩
      go_simp
      refine hK (upd U 13 (.pointer (some ⟨w.heap.size, 3, none⟩))) _ _ ?_ ?_
      · rw [HA.out]; kernel_rfl
      · exact ⟨fb, fk, fs, oX, oR, oG, f0, f1, f2, (fun _ => rfl), f4, f5, f6, s7, m6⟩
    refine StepsU.run rfl ?_ ?_
    · intro L U wr hF hlk haf A K hA hK
      have HA : Hid (A = putAll _ _ U) := hA
      clear hA
      simp [Aft, Region.binds] at haf
      obtain ⟨fb, fk, fs, oX, oR, oG, f0, f1, f2, f3, f4, f5, f6, s7, m6⟩ := hF
      have g3 := f3 (by simp [haf])
      have e13 := rd HA.out 13 (by kernel_rfl) g3
      have c3 := oX.cell 3
      have c4 := oX.cell 4
      simp at c3
      simp at c4
      refine ⟨?_⟩
      go_simp
      refine hK (upd U 14 (.agg #[.bool yX, .slice dX lX fX])) _ _ ?_ ?_
      · rw [HA.out]; kernel_rfl
      · exact ⟨fb, fk, fs, oX, oR, oG, f0, f1, f2, f3, (fun _ => rfl), f5, f6, s7, m6⟩
    refine StepsU.run rfl ?_ ?_
    · intro L U wr hF hlk haf A K hA hK
      have HA : Hid (A = putAll _ _ U) := hA
      clear hA
      simp [Aft, Region.binds] at haf
      obtain ⟨fb, fk, fs, oX, oR, oG, f0, f1, f2, f3, f4, f5, f6, s7, m6⟩ := hF
      have g2 := f2 (by simp [haf])
      have g4 := f4 (by simp [haf])
      obtain ⟨z1, z2, z3, z4, z5, z6, z7, xs9, hv, hT1, hT2, hT3⟩ := g2
      have e12 := rd HA.out 12 (by kernel_rfl) hv
      have e14 := rd HA.out 14 (by kernel_rfl) g4
      refine ⟨?_⟩
      go_simp
      have hs7 : L 7 = false := by cases h : L 7 with | false => rfl | true => rw [s7 h] at hlk; cases hlk
      refine hK (upd U 15 (.agg #[.slice z1 z2 z3, .bool z4, .slice z5 z6 z7, .bool yX, .slice dX lX fX])) _ _ ?_ ?_
      · rw [HA.out]; kernel_rfl
      · exact ⟨fb, fk, fs, oX, oR, oG, f0, f1, f2, f3, f4, (fun _ => ⟨_, _, _, _, _, _, _, _, _, _, _, xs9, rfl, hT1, hT2, hT3, hM.keepP fk⟩), (fun h => flip_v (P := fun v => NEWU _ _ _ _ v) hs7 (f6 h)), (fun _ => rfl), m6⟩
    refine StepsU.run rfl ?_ ?_
    · intro L U wr hF hlk haf A K hA hK
      have HA : Hid (A = putAll _ _ U) := hA
      clear hA
      simp [Aft, Region.binds] at haf
      obtain ⟨fb, fk, fs, oX, oR, oG, f0, f1, f2, f3, f4, f5, f6, s7, m6⟩ := hF
      have hst : L 7 = false := by cases h : L 7 with | false => rfl | true => rw [m6 h] at hlk; cases hlk
      refine ⟨?_⟩
      go_simp
      have hb := below_new wr (.cells #[.slice none 0 0, .bool false, .slice none 0 0, .bool false, .slice none 0 0] 82 (0, 0))
      refine hK (upd U 4 (.pointer (some ⟨wr.heap.size, 0, none⟩))) _ _ ?_ ?_
      · rw [HA.out]; kernel_rfl
      · exact ⟨(fb.step hb (Nat.le_refl _)), (fk.trans (KeepP.below hb)), (Nat.le_trans fs hb.size), (oX.stay hb), (oR.stay hb), (oG.stay hb), (mvP mp_is (KeepP.below hb) f0), (mvP mp_is (KeepP.below hb) f1), (mvP mp_tro (KeepP.below hb) f2), (mvP mp_is (KeepP.below hb) f3), (mvP mp_is (KeepP.below hb) f4), (mvP mp_roo (KeepP.below hb) f5), (fun _ => newU_zero (by simp [hst]) (NEWU.mk fs (nuR _ _ _ _ _ _ _ _ _ _ _))), s7, (fun _ => rfl)⟩
    refine StepsU.run rfl ?_ StepsU.nil
    · intro L U wr hF hlk haf A K hA hK
      have HA : Hid (A = putAll _ _ U) := hA
      clear hA
      simp [Aft, Region.binds] at haf
      obtain ⟨fb, fk, fs, oX, oR, oG, f0, f1, f2, f3, f4, f5, f6, s7, m6⟩ := hF
      have g5 := f5 (by simp [haf])
      obtain ⟨yp, yq, yr, yx, ya, yn, yc, yy, yd, yl, yf, hsrc⟩ := ROwn.shape g5
      have e15 := rd HA.out 15 (by kernel_rfl) hsrc
      have g6 := f6 (by simp [haf])
      rw [hlk, cond_false] at g6
      obtain ⟨b, cs, hp, hBb, hcs, hblk, hN⟩ := g6
      injection hcs with hcs
      subst hcs
      have e4 := rd HA.out 4 (by kernel_rfl) hp
      have q0 := hblk.frozen 0
      have q1 := hblk.frozen 1
      have q2 := hblk.frozen 2
      have q3 := hblk.frozen 3
      have q4 := hblk.frozen 4
      have c0 := hblk.cell 0
      have c1 := hblk.cell 1
      have c2 := hblk.cell 2
      have c3 := hblk.cell 3
      have c4 := hblk.cell 4
      simp at c0
      simp at c1
      simp at c2
      simp at c3
      simp at c4
      have hlt := hblk.lt
      refine ⟨?_⟩
      go_simp
      refine hK U _ _ ?_ ?_
      · exact HA.out
      · exact ⟨(below_stores (Nat.le_trans (by exact hbW.size) hBb) [.slice yp yq yr, .bool yx, .slice ya yn yc, .bool yy, .slice yd yl yf] 0 fb), (fk.trans (keepP_stores (by decide) (by decide) [.slice yp yq yr, .bool yx, .slice ya yn yc, .bool yy, .slice yd yl yf] 0 hblk (nuR _ _ _ _ _ _ _ _ _ _ _) (nuR _ _ _ _ _ _ _ _ _ _ _))), (by simp; exact fs), (oX.otherS (Nat.ne_of_gt (Nat.lt_of_lt_of_le ltX hBb)) 0 [.slice yp yq yr, .bool yx, .slice ya yn yc, .bool yy, .slice yd yl yf]), (oR.otherS (Nat.ne_of_gt (Nat.lt_of_lt_of_le ltR hBb)) 0 [.slice yp yq yr, .bool yx, .slice ya yn yc, .bool yy, .slice yd yl yf]), (oG.otherS (Nat.ne_of_gt (Nat.lt_of_lt_of_le ltG hBb)) 0 [.slice yp yq yr, .bool yx, .slice ya yn yc, .bool yy, .slice yd yl yf]), (mvP mp_is (keepP_stores (by decide) (by decide) [.slice yp yq yr, .bool yx, .slice ya yn yc, .bool yy, .slice yd yl yf] 0 hblk (nuR _ _ _ _ _ _ _ _ _ _ _) (nuR _ _ _ _ _ _ _ _ _ _ _)) f0), (mvP mp_is (keepP_stores (by decide) (by decide) [.slice yp yq yr, .bool yx, .slice ya yn yc, .bool yy, .slice yd yl yf] 0 hblk (nuR _ _ _ _ _ _ _ _ _ _ _) (nuR _ _ _ _ _ _ _ _ _ _ _)) f1), (mvP mp_tro (keepP_stores (by decide) (by decide) [.slice yp yq yr, .bool yx, .slice ya yn yc, .bool yy, .slice yd yl yf] 0 hblk (nuR _ _ _ _ _ _ _ _ _ _ _) (nuR _ _ _ _ _ _ _ _ _ _ _)) f2), (mvP mp_is (keepP_stores (by decide) (by decide) [.slice yp yq yr, .bool yx, .slice ya yn yc, .bool yy, .slice yd yl yf] 0 hblk (nuR _ _ _ _ _ _ _ _ _ _ _) (nuR _ _ _ _ _ _ _ _ _ _ _)) f3), (mvP mp_is (keepP_stores (by decide) (by decide) [.slice yp yq yr, .bool yx, .slice ya yn yc, .bool yy, .slice yd yl yf] 0 hblk (nuR _ _ _ _ _ _ _ _ _ _ _) (nuR _ _ _ _ _ _ _ _ _ _ _)) f4), (mvP mp_roo (keepP_stores (by decide) (by decide) [.slice yp yq yr, .bool yx, .slice ya yn yc, .bool yy, .slice yd yl yf] 0 hblk (nuR _ _ _ _ _ _ _ _ _ _ _) (nuR _ _ _ _ _ _ _ _ _ _ _)) f5), (fun _ => by simp only [cond_true, Bool.true_or, beq_self_eq_true]; exact storedU_new hp hsrc (NEWU.overS hBb hblk [.slice yp yq yr, .bool yx, .slice ya yn yc, .bool yy, .slice yd yl yf] rfl (nuR _ _ _ _ _ _ _ _ _ _ _))), (fun _ => by simp [haf]), (fun _ => by simp [haf])⟩
  clear hbw oX oR oG
  intro L U2 V2 hall hF
  obtain ⟨hbw, fk, fs, oX, oR, oG, f0, f1, f2, f3, f4, f5, f6, s7, m6⟩ := hF
  clear s7 m6
  have g0 := f0 (hall 0 (by decide))
  have g1 := f1 (hall 1 (by decide))
  have g2 := f2 (hall 2 (by decide))
  have g3 := f3 (hall 3 (by decide))
  have g4 := f4 (hall 4 (by decide))
  have g5 := f5 (hall 5 (by decide))
  have g6 := f6 (hall 6 (by decide))
  rw [hall 7 (by decide), cond_true] at g6
  clear hall f0 f1 f2 f3 f4 f5 f6
  replace hX := hX.keepP fk
  replace hM := hM.keepP fk
  replace hG := hG.keepP fk
  obtain ⟨bT, csT, hpT, lbT, hcsT, oT, -⟩ := g6
  obtain ⟨pT, qT, rT, xT, aT, nT, cT, yT, dT, lT, fT, hvT⟩ := ROwn.shape g5
  have hT : ROwn _ _ _ _ _ := g5
  rw [hvT] at hT hcsT
  injection hcsT with hcsT
  subst hcsT
  clear hvT
  have ltT := oT.lt
  have neXT : w.heap.size ≠ bT := Nat.ne_of_lt (Nat.lt_of_lt_of_le ltX lbT)
  have neRT : w.heap.size + 1 ≠ bT := Nat.ne_of_lt (Nat.lt_of_lt_of_le ltR lbT)
  have neGT : w1.heap.size ≠ bT := Nat.ne_of_lt (Nat.lt_of_lt_of_le ltG lbT)
  have lwT : w.heap.size ≤ bT := Nat.le_trans hbW.size lbT
  replace ltX := oX.lt
  replace ltR := oR.lt
  replace ltG := oG.lt
  clear lbT
  try clear g0
  try clear g1
  try clear g2
  try clear g3
  try clear g4
  try clear g5
  clear hbW
  simp only [setM_some, setM_none, setM_nil]
  rw [hpT]
  clear hpT
  clear fk fs
  obtain ⟨Gc0, Gc1, Gk0, Gk1⟩ := oG.two
  go_wp2_with fail
  refine (bits_t _ _ _ hG).mono ?_
  rintro e w3 ⟨bn, rfl, hbn, hb⟩
  clear Gc0 Gc1 Gk0 Gk1
  replace oX := oX.stay hb
  replace ltX := oX.lt
  replace oR := oR.stay hb
  replace ltR := oR.lt
  replace oG := oG.stay hb
  replace ltG := oG.lt
  replace oT := oT.stay hb
  replace ltT := oT.lt
  replace hX := hX.below hb
  replace hM := hM.below hb
  replace hG := hG.below hb
  replace hT := hT.below hb
  replace hbw := hbw.step hb (Nat.le_refl _)
  clear hb
  by_cases hg : (cm a).natAbs < 2
  · have hb2 : (bn : Int) < 2 := hbn.2 hg
    have HG : Hid ((cm a).natAbs < 2) := hg
    clear hg hbn
    obtain ⟨Tc0, Tc1, Tc2, Tc3, Tc4⟩ := oT.five
    obtain ⟨Tk0, Tk1, Tk2, Tk3, Tk4⟩ := oT.frozen5
    obtain ⟨Rc0, Rc1, Rc2, Rc3, Rc4⟩ := oR.five
    obtain ⟨Rk0, Rk1, Rk2, Rk3, Rk4⟩ := oR.frozen5
    try simp only []
    try go_at_K
    repeat (first | go_values | go_skip | go_guarded | go_step | go_upon)
    refine bodyPost_ret (v := .agg #[.slice pT qT rT, .bool xT, .slice aT nT cT, .bool yT, .slice dT lT fT]) (by simp [results, Tryz.results47, go_sem, Rc0, Rc1, Rc2, Rc3, Rc4]) rfl ?_
    obtain ⟨K1, B1, _⟩ := resR (by decide) (by decide) oR hbw lwR pT qT rT xT aT nT cT yT dT lT fT
    rw [show tgP a = a from if_pos HG.out, show tgM a m = m from if_pos HG.out]
    obtain ⟨_, _, _, _, _, _, _, _, _, _, _, xs9, hv, h1, h2, h3, h4⟩ := hT
    cases hv
    exact ⟨_, rfl, ⟨_, _, _, _, _, _, _, _, _, _, _, rfl, h1.keepP K1, h4.keepP K1⟩, B1⟩
  · have hb2 : ¬ (bn : Int) < 2 := fun h => hg (hbn.1 h)
    have HG : Hid (¬ (cm a).natAbs < 2) := hg
    have HG0 : Hid (cm a ≠ 0) := fun h => hg (by rw [h]; decide)
    clear hg hbn
    obtain ⟨_, _, _, _, _, _, _, _, _, _, _, xs0, hv, h1T, hL0, hE0, hMT⟩ := hT
    cases hv
    have hTr := h1T.rest
    have HTL : Hid (a.length = qT) := h1T.len
    have hqT := h1T.n_le
    clear h1T hMT
    obtain ⟨Tc0, Tc1, Tc2, Tc3, Tc4⟩ := oT.five
    obtain ⟨Tk0, Tk1, Tk2, Tk3, Tk4⟩ := oT.frozen5
    go_wp2
    clear Tc0 Tc1 Tc2 Tc3 Tc4 Tk0 Tk1 Tk2 Tk3 Tk4
    go_loopw [24] (fun i wl => ∃ (k : Nat) (xs : List Value), k ≤ qT ∧ i = .int .i64 k ∧ Blk 82 wl (w.heap.size) #[.slice pX qX rX, .bool xX, .slice aX nX cX, .bool yX, .slice dX lX fX] ∧ Blk 82 wl (w.heap.size + 1) #[.slice none 0 0, .bool false, .slice none 0 0, .bool false, .slice none 0 0] ∧ Blk 31 wl (w1.heap.size) #[.bool xG, .slice aG nG cG] ∧ Blk 82 wl (bT) #[.slice pT qT rT, .bool xT, .slice aT nT cT, .bool yT, .slice dT lT fT] ∧ AInt wl (.agg #[.bool xG, .slice aG nG cG]) (cm a) ∧ AInt wl (.agg #[.bool yX, .slice dX lX fX]) m ∧ AInt wl (.agg #[.bool xT, .slice aT nT cT]) 0 ∧ LstG 3 116 w.heap.size wl (.slice pT qT rT) qT xs ∧ ElsP wl xs (mixP a (cm a) k) ∧ Below w.heap.size w wl) (fun i _ => qT - (intOf i).toNat)
    case atStart => exact ⟨0, xs0, Nat.zero_le _, rfl, oX, oR, oG, oT, hG, hM, hTr, hL0, by rw [mixP_zero]; exact hE0, hbw⟩
    case round =>
      rename World => wl
      clear oX oR oG oT hbw hG hM hTr hL0 hE0 ltX ltR ltG ltT hX
      obtain ⟨k, xs, hk, rfl, oX, oR, oG, oT, hG, hM, hTr, hL, hE, hbw⟩ := hrel
      have ltX := oX.lt
      have ltR := oR.lt
      have ltG := oG.lt
      have ltT := oT.lt
      by_cases h0 : k < qT
      · obtain ⟨gL, cL, curL, hvL⟩ : ∃ g cap cur, pT = some ⟨g, 0, none⟩ ∧ rT = cap ∧ cur = cap := by
          rcases hL.2 with ⟨_, h⟩ | ⟨g, cap, cur, h, _⟩
          · omega
          · injection h with h1 h2 h3; exact ⟨g, cap, cap, h1, h3, rfl⟩
        obtain ⟨rfl, rfl, -⟩ := hvL
        clear curL
        obtain ⟨sE, aE, mE, cE, A0, A1, A2, hEz⟩ := hL.at3 hE k h0 (by rw [mixP_length]; exact HTL.out)
        rw [mixP_getD, if_neg (Nat.lt_irrefl k)] at A0 hEz
        obtain ⟨pv, hpv⟩ : ∃ x9, x9 = (a.getD k (0, 0)).1 := ⟨_, rfl⟩
        obtain ⟨pz, hpz⟩ : ∃ x9, x9 = (a.getD k (0, 0)).2 := ⟨_, rfl⟩
        rw [← hpv] at A0
        rw [← hpz] at hEz
        have HPV : Hid (a.getD k (0, 0) = (pv, pz)) := by show _ = _; rw [hpv, hpz]
        clear hpv hpz
        have ltL := (hL.lt _ rfl).2
        have geL := (hL.lt _ rfl).1
        have naX : gL ≠ w.heap.size := fun h => hL.blk oX (by decide) (by rw [← h]; rfl)
        have naR : gL ≠ w.heap.size + 1 := fun h => hL.blk oR (by decide) (by rw [← h]; rfl)
        have naG : gL ≠ w1.heap.size := fun h => hL.blk oG (by decide) (by rw [← h]; rfl)
        have naT : gL ≠ bT := fun h => hL.blk oT (by decide) (by rw [← h]; rfl)
        have naP : gL ≠ wl.heap.size := Nat.ne_of_lt ltL
        obtain ⟨Tc0, Tc1, Tc2, Tc3, Tc4⟩ := oT.five
        obtain ⟨Tk0, Tk1, Tk2, Tk3, Tk4⟩ := oT.frozen5
        go_wp2
        have hn := below_new wl (.cells #[.int .i64 (pv : Nat), .bool sE, .slice aE mE cE] 116 (0, 0))
        have oP := Blk.new wl 116 #[.int .i64 (pv : Nat), .bool sE, .slice aE mE cE]
        have neXP : w.heap.size ≠ wl.heap.size := by have := ltX; (try simp at this); omega
        have neRP : w.heap.size + 1 ≠ wl.heap.size := by have := ltR; (try simp at this); omega
        have neGP : w1.heap.size ≠ wl.heap.size := by have := ltG; (try simp at this); omega
        have neTP : bT ≠ wl.heap.size := by have := ltT; (try simp at this); omega
        have lwP : w.heap.size ≤ wl.heap.size := by have := hbw.size; (try simp at this); omega
        replace oX := oX.stay hn
        replace ltX := oX.lt
        replace oR := oR.stay hn
        replace ltR := oR.lt
        replace oG := oG.stay hn
        replace ltG := oG.lt
        replace oT := oT.stay hn
        replace ltT := oT.lt
        replace hG := hG.below hn
        replace hM := hM.below hn
        replace hTr := hTr.below hn
        replace hL := hL.below hn
        replace hEz := hEz.below hn
        replace hbw := hbw.step hn (Nat.le_refl _)
        clear hn
        have ltP := oP.lt
        replace hE := hE.keep (KeepN.below (below_new wl (.cells #[.int .i64 (pv : Nat), .bool sE, .slice aE mE cE] 116 (0, 0))))
        clear A0 A1 A2
        clear Tc0 Tc1 Tc2 Tc3 Tc4 Tk0 Tk1 Tk2 Tk3 Tk4
        have hLg := Nat.le_refl w.heap.size
        have HXL : Hid (xs.length = qT * 3) := hL.1
        generalize (wl.alloc (.cells #[.int .i64 (pv : Nat), .bool sE, .slice aE mE cE] 116 (0, 0))) = W at hbw oX oR oG oT oP ltX ltR ltG ltT ltP hG hM hTr hL hEz hE ⊢
        have hbW := hbw
        refine wp_region_M (by kernel_rfl) [29, 30, 31, 32, 33, 34, 35, 36, 37, 38] [none, none, none, none, none, none, none, none, none, none, none, none, none, none, none, none, none, none, none, none, none, none, none, none, none, none, none, none, none, some 29, some 30, some 31, some 32, some 33, some 34, some 35, some 36, some 37, some 38] (fun U => by kernel_rfl) (fun L U wr => Below w.heap.size w wr ∧ KeepN W wr ∧ W.heap.size ≤ wr.heap.size ∧ Blk 82 wr (w.heap.size) #[.slice pX qX rX, .bool xX, .slice aX nX cX, .bool yX, .slice dX lX fX] ∧ Blk 82 wr (w.heap.size + 1) #[.slice none 0 0, .bool false, .slice none 0 0, .bool false, .slice none 0 0] ∧ Blk 31 wr (w1.heap.size) #[.bool xG, .slice aG nG cG] ∧ Blk 82 wr (bT) #[.slice (some ⟨gL, 0, none⟩) qT rT, .bool xT, .slice aT nT cT, .bool yT, .slice dT lT fT] ∧ Blk 116 wr (wl.heap.size) #[.int .i64 (pv : Nat), .bool sE, .slice aE mE cE] ∧ (L 10 = false → LstG 3 116 w.heap.size wr (.slice (some ⟨gL, 0, none⟩) qT rT) qT xs) ∧ (L 10 = true → PUT2 w.heap.size (.slice (some ⟨gL, 0, none⟩) qT rT) qT xs k (pz.fdiv (cm a)) wr) ∧ (L 0 = true → IS (.pointer (some ⟨bT, 0, none⟩)) (U 29) wr) ∧ (L 1 = true → IS (.pointer (some ⟨bT, 0, none⟩)) (U 30) wr) ∧ (L 2 = true → IS (.slice (some ⟨gL, 0, none⟩) qT rT) (U 31) wr) ∧ (L 3 = true → IS (.int .i64 k) (U 32) wr) ∧ (L 4 = true → IS (.pointer (some ⟨wl.heap.size, 1, none⟩)) (U 33) wr) ∧ (L 5 = true → IS (.agg #[.bool sE, .slice aE mE cE]) (U 34) wr) ∧ (L 6 = true → IS (.agg #[.bool xG, .slice aG nG cG]) (U 35) wr) ∧ (L 7 = true → INT (pz.fdiv (cm a)) (U 36) wr) ∧ (L 8 = true → IS (.pointer (some ⟨gL, k * 3, none⟩)) (U 37) wr) ∧ (L 9 = true → IS (.pointer (some ⟨gL, k * 3 + 1, none⟩)) (U 38) wr)) (by kernel_rfl) ?_ ?_ ?_
        · exact fun U => ⟨hbw.drew, KeepN.below (Below.refl _ _).drew, Nat.le_refl _, oX.drew, oR.drew, oG.drew, oT.drew, oP.drew, (fun _ => hL.below (Below.refl _ _).drew), (fun h => by cases h), (fun h => by cases h), (fun h => by cases h), (fun h => by cases h), (fun h => by cases h), (fun h => by cases h), (fun h => by cases h), (fun h => by cases h), (fun h => by cases h), (fun h => by cases h), (fun h => by cases h)⟩
        · refine StepsU.run rfl ?_ ?_
          · intro L U wr hF hlk haf A K hA hK
            have HA : Hid (A = putAll _ _ U) := hA
            clear hA
            simp [Aft, Region.binds] at haf
            obtain ⟨fb, fk, fs, oX, oR, oG, oT, oP, fl, fq, f0, f1, f2, f3, f4, f5, f6, f7, f8, f9⟩ := hF
            have e4 : A.tmps[4]? = some (.pointer (some ⟨bT, 0, none⟩)) := by rw [HA.out]; kernel_rfl
            refine ⟨?_⟩
            go_simp
            refine hK (upd U 29 (.pointer (some ⟨bT, 0, none⟩))) _ _ ?_ ?_
            · rw [HA.out]; kernel_rfl
            · exact ⟨fb, fk, fs, oX, oR, oG, oT, oP, fl, fq, (fun _ => rfl), f1, f2, f3, f4, f5, f6, f7, f8, f9⟩
          refine StepsU.run rfl ?_ ?_
          · intro L U wr hF hlk haf A K hA hK
            have HA : Hid (A = putAll _ _ U) := hA
            clear hA
            simp [Aft, Region.binds] at haf
            obtain ⟨fb, fk, fs, oX, oR, oG, oT, oP, fl, fq, f0, f1, f2, f3, f4, f5, f6, f7, f8, f9⟩ := hF
            have g0 := f0 (by simp [haf])
            have e29 := rd HA.out 29 (by kernel_rfl) g0
            refine ⟨?_⟩
            go_simp
            refine hK (upd U 30 (.pointer (some ⟨bT, 0, none⟩))) _ _ ?_ ?_
            · rw [HA.out]; kernel_rfl
            · exact ⟨fb, fk, fs, oX, oR, oG, oT, oP, fl, fq, f0, (fun _ => rfl), f2, f3, f4, f5, f6, f7, f8, f9⟩
          refine StepsU.run rfl ?_ ?_
          · intro L U wr hF hlk haf A K hA hK
            have HA : Hid (A = putAll _ _ U) := hA
            clear hA
            simp [Aft, Region.binds] at haf
            obtain ⟨fb, fk, fs, oX, oR, oG, oT, oP, fl, fq, f0, f1, f2, f3, f4, f5, f6, f7, f8, f9⟩ := hF
            have g1 := f1 (by simp [haf])
            have e30 := rd HA.out 30 (by kernel_rfl) g1
            have c0 := oT.cell 0
            simp at c0
            refine ⟨?_⟩
            go_simp
            refine hK (upd U 31 (.slice (some ⟨gL, 0, none⟩) qT rT)) _ _ ?_ ?_
            · rw [HA.out]; kernel_rfl
            · exact ⟨fb, fk, fs, oX, oR, oG, oT, oP, fl, fq, f0, f1, (fun _ => rfl), f3, f4, f5, f6, f7, f8, f9⟩
          refine StepsU.run rfl ?_ ?_
          · intro L U wr hF hlk haf A K hA hK
            have HA : Hid (A = putAll _ _ U) := hA
            clear hA
            simp [Aft, Region.binds] at haf
            obtain ⟨fb, fk, fs, oX, oR, oG, oT, oP, fl, fq, f0, f1, f2, f3, f4, f5, f6, f7, f8, f9⟩ := hF
            have e5 : A.tmps[5]? = some (.int .i64 k) := by rw [HA.out]; kernel_rfl
            refine ⟨?_⟩
            go_simp
            refine hK (upd U 32 (.int .i64 k)) _ _ ?_ ?_
            · rw [HA.out]; kernel_rfl
            · exact ⟨fb, fk, fs, oX, oR, oG, oT, oP, fl, fq, f0, f1, f2, (fun _ => rfl), f4, f5, f6, f7, f8, f9⟩
          refine StepsU.run rfl ?_ ?_
          · intro L U wr hF hlk haf A K hA hK
            have HA : Hid (A = putAll _ _ U) := hA
            clear hA
            simp [Aft, Region.binds] at haf
            obtain ⟨fb, fk, fs, oX, oR, oG, oT, oP, fl, fq, f0, f1, f2, f3, f4, f5, f6, f7, f8, f9⟩ := hF
            have e6 : A.tmps[6]? = some (.pointer (some ⟨wl.heap.size, 0, none⟩)) := by rw [HA.out]; kernel_rfl
            refine ⟨?_⟩
            go_simp
            refine hK (upd U 33 (.pointer (some ⟨wl.heap.size, 1, none⟩))) _ _ ?_ ?_
            · rw [HA.out]; kernel_rfl
            · exact ⟨fb, fk, fs, oX, oR, oG, oT, oP, fl, fq, f0, f1, f2, f3, (fun _ => rfl), f5, f6, f7, f8, f9⟩
          refine StepsU.run rfl ?_ ?_
          · intro L U wr hF hlk haf A K hA hK
            have HA : Hid (A = putAll _ _ U) := hA
            clear hA
            simp [Aft, Region.binds] at haf
            obtain ⟨fb, fk, fs, oX, oR, oG, oT, oP, fl, fq, f0, f1, f2, f3, f4, f5, f6, f7, f8, f9⟩ := hF
            have g4 := f4 (by simp [haf])
            have e33 := rd HA.out 33 (by kernel_rfl) g4
            have c1 := oP.cell 1
            have c2 := oP.cell 2
            simp at c1
            simp at c2
            refine ⟨?_⟩
            go_simp
            refine hK (upd U 34 (.agg #[.bool sE, .slice aE mE cE])) _ _ ?_ ?_
            · rw [HA.out]; kernel_rfl
            · exact ⟨fb, fk, fs, oX, oR, oG, oT, oP, fl, fq, f0, f1, f2, f3, f4, (fun _ => rfl), f6, f7, f8, f9⟩
          refine StepsU.run rfl ?_ ?_
          · intro L U wr hF hlk haf A K hA hK
            have HA : Hid (A = putAll _ _ U) := hA
            clear hA
            simp [Aft, Region.binds] at haf
            obtain ⟨fb, fk, fs, oX, oR, oG, oT, oP, fl, fq, f0, f1, f2, f3, f4, f5, f6, f7, f8, f9⟩ := hF
            have e3 : A.tmps[3]? = some (.pointer (some ⟨w1.heap.size, 0, none⟩)) := by rw [HA.out]; kernel_rfl
            have c0 := oG.cell 0
            have c1 := oG.cell 1
            simp at c0
            simp at c1
            refine ⟨?_⟩
            go_simp
            refine hK (upd U 35 (.agg #[.bool xG, .slice aG nG cG])) _ _ ?_ ?_
            · rw [HA.out]; kernel_rfl
            · exact ⟨fb, fk, fs, oX, oR, oG, oT, oP, fl, fq, f0, f1, f2, f3, f4, f5, (fun _ => rfl), f7, f8, f9⟩
          refine StepsU.run rfl ?_ ?_
          · intro L U wr hF hlk haf A K hA hK
            have HA : Hid (A = putAll _ _ U) := hA
            clear hA
            simp [Aft, Region.binds] at haf
            obtain ⟨fb, fk, fs, oX, oR, oG, oT, oP, fl, fq, f0, f1, f2, f3, f4, f5, f6, f7, f8, f9⟩ := hF
            have g5 := f5 (by simp [haf])
            have e34 := rd HA.out 34 (by kernel_rfl) g5
            have g6 := f6 (by simp [haf])
            have e35 := rd HA.out 35 (by kernel_rfl) g6
            refine ⟨?_⟩
            go_simp
            refine (rounded_any _ _ pz (cm a) (pz.fdiv (cm a)) _ (hEz.keepN fk) (hG.keepN fk) HG0.out rfl).mono ?_
            rintro e w1 ⟨u1, u2, u3, u4, rfl, hr, hb⟩
            go_simp
            refine hK (upd U 36 (.agg #[.bool u1, .slice u2 u3 u4])) _ _ ?_ ?_
            · rw [HA.out]; kernel_rfl
            · exact ⟨(fb.step hb (Nat.le_refl _)), (fk.trans (KeepN.below hb)), (Nat.le_trans fs hb.size), (oX.stay hb), (oR.stay hb), (oG.stay hb), (oT.stay hb), (oP.stay hb), (fun h => (fl h).below hb), (fun h => (fq h).below hb), (mvN mn_is (KeepN.below hb) f0), (mvN mn_is (KeepN.below hb) f1), (mvN mn_is (KeepN.below hb) f2), (mvN mn_is (KeepN.below hb) f3), (mvN mn_is (KeepN.below hb) f4), (mvN mn_is (KeepN.below hb) f5), (mvN mn_is (KeepN.below hb) f6), (fun _ => hr), (mvN mn_is (KeepN.below hb) f8), (mvN mn_is (KeepN.below hb) f9)⟩
          refine StepsU.run rfl ?_ ?_
          · intro L U wr hF hlk haf A K hA hK
            have HA : Hid (A = putAll _ _ U) := hA
            clear hA
            simp [Aft, Region.binds] at haf
            obtain ⟨fb, fk, fs, oX, oR, oG, oT, oP, fl, fq, f0, f1, f2, f3, f4, f5, f6, f7, f8, f9⟩ := hF
            have g2 := f2 (by simp [haf])
            have g3 := f3 (by simp [haf])
            have e31 := rd HA.out 31 (by kernel_rfl) g2
            have e32 := rd HA.out 32 (by kernel_rfl) g3
            refine ⟨?_⟩
            go_simp
            refine hK (upd U 37 (.pointer (some ⟨gL, k * 3, none⟩))) _ _ ?_ ?_
            · rw [HA.out]; kernel_rfl
            · exact ⟨fb, fk, fs, oX, oR, oG, oT, oP, fl, fq, f0, f1, f2, f3, f4, f5, f6, f7, (fun _ => rfl), f9⟩
          refine StepsU.run rfl ?_ ?_
          · intro L U wr hF hlk haf A K hA hK
            have HA : Hid (A = putAll _ _ U) := hA
            clear hA
            simp [Aft, Region.binds] at haf
            obtain ⟨fb, fk, fs, oX, oR, oG, oT, oP, fl, fq, f0, f1, f2, f3, f4, f5, f6, f7, f8, f9⟩ := hF
            have g8 := f8 (by simp [haf])
            have e37 := rd HA.out 37 (by kernel_rfl) g8
            refine ⟨?_⟩
            go_simp
            refine hK (upd U 38 (.pointer (some ⟨gL, k * 3 + 1, none⟩))) _ _ ?_ ?_
            · rw [HA.out]; kernel_rfl
            · exact ⟨fb, fk, fs, oX, oR, oG, oT, oP, fl, fq, f0, f1, f2, f3, f4, f5, f6, f7, f8, (fun _ => rfl)⟩
          refine StepsU.run rfl ?_ StepsU.nil
          · intro L U wr hF hlk haf A K hA hK
            have HA : Hid (A = putAll _ _ U) := hA
            clear hA
            simp [Aft, Region.binds] at haf
            obtain ⟨fb, fk, fs, oX, oR, oG, oT, oP, fl, fq, f0, f1, f2, f3, f4, f5, f6, f7, f8, f9⟩ := hF
            have g7 := f7 (by simp [haf])
            have g9 := f9 (by simp [haf])
            obtain ⟨yx, ya, ym, yc, hv⟩ := AInt.shape g7
            have hzz : AInt _ _ _ := g7
            rw [hv] at hzz
            have e36 := rd HA.out 36 (by kernel_rfl) hv
            have e38 := rd HA.out 38 (by kernel_rfl) g9
            have hL := fl hlk
            obtain ⟨z1, c1, -⟩ := hL.cell (k * 3 + 1) (by have := h0; omega)
            obtain ⟨z2, c2, -⟩ := hL.cell (k * 3 + 2) (by have := h0; omega)
            have q1 := hL.frozen (k * 3 + 1)
            have q2 := hL.frozen (k * 3 + 2)
            have hKN := keepN_list hL (k * 3 + 1) [.bool yx, .slice ya ym yc] (nuI _ _ _ _)
            have hPU := hL.putA (k * 3 + 1) [.bool yx, .slice ya ym yc] (by have := h0; simp; omega) (nuI _ _ _ _)
            obtain ⟨-, -, -, hgb⟩ := hL.blkG
            have HL2 : Hid (LstG _ _ _ _ _ _ _) := hPU
            clear hPU hL
            refine ⟨?_⟩
            go_simp
            refine hK U _ _ ?_ ?_
            · exact HA.out
            · exact ⟨(below_stores (Nat.le_trans hLg hgb) [.bool yx, .slice ya ym yc] (k * 3 + 1) fb), (fk.trans hKN), (by simp; exact fs), (oX.otherS naX (k * 3 + 1) [.bool yx, .slice ya ym yc]), (oR.otherS naR (k * 3 + 1) [.bool yx, .slice ya ym yc]), (oG.otherS naG (k * 3 + 1) [.bool yx, .slice ya ym yc]), (oT.otherS naT (k * 3 + 1) [.bool yx, .slice ya ym yc]), (oP.otherS naP (k * 3 + 1) [.bool yx, .slice ya ym yc]), (fun h => by cases h), (fun _ => ⟨yx, ya, ym, yc, HL2.out, hzz.keepN hKN⟩), (mvN mn_is hKN f0), (mvN mn_is hKN f1), (mvN mn_is hKN f2), (mvN mn_is hKN f3), (mvN mn_is hKN f4), (mvN mn_is hKN f5), (mvN mn_is hKN f6), (mvN mn_int hKN f7), (mvN mn_is hKN f8), (mvN mn_is hKN f9)⟩
        clear hbw oX oR oG oT oP hL
        intro L U V hall hF
        obtain ⟨hbw, fk, fs, oX, oR, oG, oT, oP, fl, fq, f0, f1, f2, f3, f4, f5, f6, f7, f8, f9⟩ := hF
        clear fl
        have g0 := f0 (hall 0 (by decide))
        have g1 := f1 (hall 1 (by decide))
        have g2 := f2 (hall 2 (by decide))
        have g3 := f3 (hall 3 (by decide))
        have g4 := f4 (hall 4 (by decide))
        have g5 := f5 (hall 5 (by decide))
        have g6 := f6 (hall 6 (by decide))
        have g7 := f7 (hall 7 (by decide))
        have g8 := f8 (hall 8 (by decide))
        have g9 := f9 (hall 9 (by decide))
        have hQ := fq (hall 10 (by decide))
        clear fq
        clear hall f0 f1 f2 f3 f4 f5 f6 f7 f8 f9
        replace ltX := oX.lt
        replace ltR := oR.lt
        replace ltG := oG.lt
        replace ltT := oT.lt
        replace ltP := oP.lt
        try clear g0
        try clear g1
        try clear g2
        try clear g3
        try clear g4
        try clear g5
        try clear g6
        try clear g7
        try clear g8
        try clear g9
        clear hbW
        simp only [setM_some, setM_none, setM_nil]
        obtain ⟨x2, a2, m2, c2, hL2, hz2⟩ := hQ
        have hE2 := (hE.keep fk).put2 (qs := mixP a (cm a) (k + 1)) (k := k) (x := x2) (a := a2) (m := m2) (c := c2) (by rw [HXL.out, mixP_length, HTL.out]) (by rw [mixP_length, HTL.out]; exact h0) (by rw [mixP_length, mixP_length]) (fun i hi => by rw [mixP_getD, mixP_getD]; exact (by by_cases h : i < k; (rw [if_pos h, if_pos (by omega)]); (rw [if_neg h, if_neg (by omega)]))) (by rw [mixP_getD, mixP_getD, if_pos (by omega), if_neg (by omega)]) (by rw [mixP_getD, if_pos (by omega), HPV.out]; exact hz2)
        replace hG := hG.keepN fk
        replace hM := hM.keepN fk
        replace hTr := hTr.keepN fk
        clear hE fk fs oP ltP
        go_wp2
        go_roundw
        case rel => exact ⟨k + 1, _, by omega, by go_num, oX, oR, oG, oT, hG, hM, hTr, hL2, hE2, hbw⟩
        case measure => simp [intOf]; omega
      · have hkq : k = qT := by omega
        subst hkq
        have HPA := hL.parr (ps := divP a (cm a)) (by rw [← mixP_full a (cm a) k (by rw [HTL.out]; exact Nat.le_refl _)]; exact hE) (by unfold divP; rw [List.length_map]; exact HTL.out)
        clear hE hk h0
        obtain ⟨ao9, cap9, hv9, q1, q2, q3, q4⟩ := HPA
        cases hv9
        clear hL
        obtain ⟨Xc0, Xc1, Xc2, Xc3, Xc4⟩ := oX.five
        obtain ⟨Xk0, Xk1, Xk2, Xk3, Xk4⟩ := oX.frozen5
        obtain ⟨Gc0, Gc1, Gk0, Gk1⟩ := oG.two
        go_wp2_with fail
        refine (rounded_any _ _ m (cm a) (m.fdiv (cm a)) _ hM hG HG0.out rfl).mono ?_
        rintro e w4 ⟨xQ, aQ, nQ, cQ, rfl, hQ, hb⟩
        clear Xc0 Xc1 Xc2 Xc3 Xc4 Xk0 Xk1 Xk2 Xk3 Xk4
        clear Gc0 Gc1 Gk0 Gk1
        replace oX := oX.stay hb
        replace ltX := oX.lt
        replace oR := oR.stay hb
        replace ltR := oR.lt
        replace oG := oG.stay hb
        replace ltG := oG.lt
        replace oT := oT.stay hb
        replace ltT := oT.lt
        replace hG := hG.below hb
        replace hM := hM.below hb
        replace hTr := hTr.below hb
        replace q4 := q4.below hb
        replace hbw := hbw.step hb (Nat.le_refl _)
        clear hb
        obtain ⟨Tc0, Tc1, Tc2, Tc3, Tc4⟩ := oT.five
        obtain ⟨Tk0, Tk1, Tk2, Tk3, Tk4⟩ := oT.frozen5
        obtain ⟨Rc0, Rc1, Rc2, Rc3, Rc4⟩ := oR.five
        obtain ⟨Rk0, Rk1, Rk2, Rk3, Rk4⟩ := oR.frozen5
        have K0 := keepP_stores (by decide) (by decide) [.bool xQ, .slice aQ nQ cQ] 3 oT (nuR _ _ _ _ _ _ _ _ _ _ _) (nuI _ _ _ _)
        have oT1 : Blk 82 _ bT #[.slice pT k rT, .bool xT, .slice aT nT cT, .bool xQ, .slice aQ nQ cQ] := oT.overS [.bool xQ, .slice aQ nQ cQ] 3 rfl
        have B0 := below_stores lwT [.bool xQ, .slice aQ nQ cQ] 3 hbw
        have oR1 := oR.otherS neRT.symm 3 [.bool xQ, .slice aQ nQ cQ]
        obtain ⟨Z0, Z1, Z2, Z3, Z4⟩ := oT1.five
        obtain ⟨z0, z1, z2, z3, z4⟩ := oR1.frozen5
        obtain ⟨y0, y1, y2, y3, y4⟩ := oR1.five
        have ltR1 := oR1.lt
        try simp only []
        try go_at_K
        repeat (first | go_values | go_skip | go_guarded | go_step | go_upon)
        refine bodyPost_ret (v := .agg #[.slice pT k rT, .bool xT, .slice aT nT cT, .bool xQ, .slice aQ nQ cQ]) (by simp [results, Tryz.results47, go_sem, Rc0, Rc1, Rc2, Rc3, Rc4]) rfl ?_
        obtain ⟨K1, B1, _⟩ := resR (by decide) (by decide) oR1 B0 lwR pT k rT xT aT nT cT xQ aQ nQ cQ
        rw [show tgP a = divP a (cm a) from if_neg HG.out, show tgM a m = m.fdiv (cm a) from if_neg HG.out]
        exact ⟨_, rfl, ⟨_, _, _, _, _, _, _, _, _, _, _, rfl, ⟨by unfold divP; rw [List.length_map]; exact HTL.out, q1, q2, q3, (q4.keepP K0).keepP K1, (hTr.keepP K0).keepP K1, divP_fine HFN.out HG0.out (cm_dvd a)⟩, (hQ.keepP K0).keepP K1⟩, B1⟩

end Go.Proofs.YteefniagebcagaaGreatDoor
/- Contracts of linear's sumOf and Read; they prove no statement of the seat. -/
namespace Go.Proofs.YteefniagebcagaaGreatDoor
open Go.RowKit
set_option linter.unusedVariables false

/-- Those that aren't 0. -/
def nz (c : List (Nat × Int)) : List (Nat × Int) := c.filter fun p => decide (p.2 ≠ 0)
theorem nz_fine {c : List (Nat × Int)} (hr : Rise c) (hv : ∀ p ∈ c, p.1 < 4096) (hl : ∀ p ∈ c, p.2.natAbs < lim) : Fine (nz c) := by
  refine ⟨List.Pairwise.filter _ hr, fun p hp => ?_⟩
  unfold nz at hp
  obtain ⟨h1, h2⟩ := List.mem_filter.1 hp
  exact ⟨by simpa using h2, hl p h1, hv p h1⟩
theorem nz_take {c : List (Nat × Int)} {k v : Nat} {z : Int} (hk : k < c.length) (hp : c.getD k (0, 0) = (v, z)) : nz (c.take (k + 1)) = nz (c.take k) ++ (if z ≠ 0 then [(v, z)] else []) := by
  unfold nz
  rw [List.take_succ_eq_append_getElem hk, List.filter_append]
  rw [List.getD_eq_getElem?_getD, List.getElem?_eq_getElem hk] at hp
  simp at hp
  rw [hp]
  by_cases h : z = 0
  · simp [h]
  · simp [h]
theorem MEl.lims {w : World} : ∀ {l : List (Nat × Value)} {c : List (Nat × Int)}, MEl w l c → ∀ p ∈ c, p.2.natAbs < lim
  | [], [], _ => fun p hp => by cases hp
  | p :: l, q :: c, h => fun x hx => by
    rcases List.mem_cons.1 hx with rfl | hx
    · exact h.2.1.lt
    · exact MEl.lims h.2.2 x hx
  | [], _ :: _, h => h.elim
  | _ :: _, [], h => h.elim
theorem MEl.length {w : World} {l : List (Nat × Value)} {c : List (Nat × Int)} (h : MEl w l c) : l.length = c.length := by
  have := congrArg List.length h.keys
  simpa using this

set_option maxRecDepth 20000 in
set_option maxHeartbeats 8000000 in
theorem sumOf_any (b nn : Nat) (l : List (Nat × Value)) (cs : List (Nat × Int)) (w : World) (hm : MapR w b nn l) (hc : MEl w l cs) (hr : Rise cs) (hv : ∀ p ∈ cs, p.1 < 4096) :
    Calls Tryz.prog 79 #[.map (some b)] w fun e w' => ∃ v, e = .returned v ∧ TermR w' v (nz cs) 0 ∧ Below w.heap.size w w' := by
  have HML : Hid (MapR w b nn l) := hm
  have HMl : Hid (MEl w l cs) := hc
  have HR : Hid (Rise cs) := hr
  have HV : Hid (∀ p ∈ cs, p.1 < 4096) := hv
  obtain ⟨n, hn9⟩ : ∃ n, n = cs.length := ⟨_, rfl⟩
  have HLN : Hid (cs.length = n) := hn9.symm
  have hlen : n ≤ 4096 := by rw [hn9]; rcases rise_len cs 0 hr (fun p hp => ⟨Nat.zero_le _, hv p hp⟩) with h | h; (omega); (rw [h]; simp)
  have HLL : Hid (l.length ≤ 10000) := by have := hc.length; show _ ≤ _; omega
  have HKS : Hid ((l.map (·.1)) = cs.map (·.1)) := hc.keys
  have HPW : Hid ((cs.map (·.1)).Pairwise (· < ·)) := by show List.Pairwise _ _; rw [List.pairwise_map]; exact hr
  clear hm hc hr hv hn9
  have oR := (Blk.new w 33 #[.slice none 0 0, .bool false, .slice none 0 0])
  have hbw : Below w.heap.size w (w.alloc (.cells #[.slice none 0 0, .bool false, .slice none 0 0] 33 (0, 0))) := by go_grown
  have ltR := oR.lt
  have lwR : w.heap.size ≤ w.heap.size := by omega
  go_enter Tryz.func79, Tryz.ntmps79
  go_wp2_with (first | (go_at_call 120; refine (keys_h b _).mono ?_; rintro e w1 ⟨rfl, rfl⟩) | (go_at_call 119; refine (sorted_n b nn l _ (HML.out.below hbw) HLL.out _ n HKS.out (by rw [List.length_map]; exact HLN.out) HPW.out (w.heap.size + 1) (by simp)).mono ?_; rintro e w2 ⟨ao, cK, rfl, hKA, k1, k2, hb2⟩))
  replace oR := oR.stay hb2
  replace hbw := hbw.step hb2 (Nat.le_refl _)
  clear hb2 ltR
  unfold maxLen at k2
  go_loopw [3, 10] (fun pl i wl => ∃ (k : Nat) (xs : List Value), k ≤ n ∧ i = .int .i64 k ∧ Blk 33 wl w.heap.size #[.slice none 0 0, .bool false, .slice none 0 0] ∧ KA wl ao (cs.map (·.1)) ∧ LstG 3 116 w.heap.size wl pl (nz (cs.take k)).length xs ∧ ElsP wl xs (nz (cs.take k)) ∧ Below w.heap.size w wl) (fun _ i _ => n - (intOf i).toNat)
  case atStart => exact ⟨0, [], Nat.zero_le _, rfl, oR, hKA, LstG.nil _ _ _ _, ElsP.nil _, hbw⟩
  case round =>
    rename World => wl
    clear hbw oR hKA
    obtain ⟨k, xs, hk, hi9, oR, hKA, hL, hE, hbw⟩ := hrel
    subst hi9
    have ltR := oR.lt
    by_cases h0 : k < n
    · obtain ⟨gE, had, A0⟩ := hKA.at k (by rw [List.length_map, HLN.out]; exact h0)
      subst had
      obtain ⟨pv, hpv⟩ : ∃ x9, x9 = (cs.getD k (0, 0)).1 := ⟨_, rfl⟩
      obtain ⟨pz, hpz⟩ : ∃ x9, x9 = (cs.getD k (0, 0)).2 := ⟨_, rfl⟩
      have HPV : Hid (cs.getD k (0, 0) = (pv, pz)) := by show _ = _; rw [hpv, hpz]
      clear hpv hpz
      have e9 : (cs.map (·.1)).getD k 0 = pv := by
        have h9 := HPV.out
        rw [List.getD_eq_getElem?_getD, List.getElem?_eq_getElem (by rw [HLN.out]; exact h0)] at h9
        simp at h9
        rw [List.getD_eq_getElem?_getD, List.getElem?_map, List.getElem?_eq_getElem (by rw [HLN.out]; exact h0), h9]; rfl
      rw [e9] at A0
      clear e9
      have HPM : Hid ((pv, pz) ∈ cs) := by
        have h9 := HPV.out
        rw [List.getD_eq_getElem?_getD, List.getElem?_eq_getElem (by rw [HLN.out]; exact h0)] at h9
        simp at h9
        rw [← h9]
        exact List.getElem_mem _
      have hv3 : pv < 4096 := HV.out _ HPM.out
      have hEz : AInt wl (lookL l pv (.agg #[.bool false, .slice none 0 0])) pz := by
        have h9 := (HMl.out.below hbw).look (v := pv) (AInt.zero _)
        rw [coef_mem HR.out HPM.out] at h9
        exact h9
      obtain ⟨xE, aE, mE, cE, hv9⟩ := hEz.shape
      have HLK : Hid (lookL l pv (.agg #[.bool false, .slice none 0 0]) = .agg #[.bool xE, .slice aE mE cE]) := hv9
      rw [hv9] at hEz
      clear hv9
      have hLm := HML.out.below hbw
      go_wp2_with (at_lookup; refine wpList_lookup_m _ rfl _ _ rfl b nn l pv rfl hLm rfl hv3 ?_; rw [HLK.out])
      refine (sign_h _ pz _ hEz).mono ?_
      rintro e w2 ⟨rfl, hb⟩
      replace hE := hE.keep (KeepN.below hb)
      replace hKA := hKA.keepN (KeepN.below hb)
      clear A0
      replace oR := oR.stay hb
      replace ltR := oR.lt
      replace hL := hL.below hb
      replace hEz := hEz.below hb
      replace hLm := hLm.below hb
      replace hbw := hbw.step hb (Nat.le_refl _)
      clear hb
      by_cases hz0 : pz = 0
      · have hs : (pz.sign != 0) = false := by rw [hz0]; rfl
        have HN : Hid (nz (cs.take (k + 1)) = nz (cs.take k)) := by
          have h9 := nz_take (by rw [HLN.out]; exact h0) HPV.out
          rw [if_neg (not_not_intro hz0), List.append_nil] at h9
          exact h9
        clear hz0
        go_wp2
        go_roundw
        case rel => exact ⟨k + 1, xs, by omega, by go_num, oR, hKA, by rw [HN.out]; exact hL, by rw [HN.out]; exact hE, hbw⟩
        case measure => simp [intOf]; omega
      · have hs : (pz.sign != 0) = true := by rw [bne_iff_ne]; exact fun h => hz0 (Int.sign_eq_zero_iff_zero.1 h)
        have HN : Hid (nz (cs.take (k + 1)) = nz (cs.take k) ++ [(pv, pz)]) := by
          have h9 := nz_take (by rw [HLN.out]; exact h0) HPV.out
          rw [if_pos hz0] at h9
          exact h9
        clear hz0
        have hb3 := below_new w2 (.cells #[.int .i64 (pv : Nat), .bool xE, .slice aE mE cE] 116 (0, 0))
        have oB := Blk.new w2 116 #[.int .i64 (pv : Nat), .bool xE, .slice aE mE cE]
        have hL3 := hL.below hb3
        have hbw3 := hbw.step hb3 (Nat.le_refl _)
        have hnl : (nz (cs.take k)).length ≤ k := by
          have h9 := List.length_filter_le (fun p : Nat × Int => decide (p.2 ≠ 0)) (cs.take k)
          rw [List.length_take] at h9
          exact Nat.le_trans h9 (Nat.min_le_left _ _)
        go_wp2_with (first | (at_lookup; refine wpList_lookup_m _ rfl _ _ rfl b nn l pv rfl hLm rfl hv3 ?_; rw [HLK.out]) | (at_builtin; refine wpList_append_g rfl _ _ 28 rfl 3 w.heap.size 116 (.agg #[.int .i64 0, .bool false, .slice none 0 0]) 40 Tryz.und_parts Tryz.info_part (by decide) rfl (by decide) (nuP _ _ _ _ _) (by decide) _ _ _ rfl hL3 ⟨w2.heap.size, 0, none⟩ 1 1 [.int .i64 (pv : Nat), .bool xE, .slice aE mE cE] rfl rfl (by intro j u hj; match j, hj with | 0, hj => (simp at hj; subst hj; exact oB.cell 0) | 1, hj => (simp at hj; subst hj; exact oB.cell 1) | 2, hj => (simp at hj; subst hj; exact oB.cell 2) | j + 3, hj => (simp at hj)) (by intro u hu; simp at hu; rcases hu with rfl | rfl | rfl <;> rfl) (nuP _ _ _ _ _) (Or.inl (by decide)) (by omega) hbw3.size ?_; intro v8 w8 hL8 hA8 hn8))
        have hb8 := hA8.bel
        have hK8 := (KeepN.below hb3).trans hA8.keep
        have oR8 : Blk 33 w8 w.heap.size #[.slice none 0 0, .bool false, .slice none 0 0] := (hA8.other _ (oR.stay hb3).lt (hL3.blk (oR.stay hb3) (by decide))).trans (oR.stay hb3)
        have hE8 := (hE.keep hK8).app (by rw [hL.1]) (ElsP.one (v := pv) (z := pz) (hEz.keepN hK8))
        have hKA8 := hKA.keepN hK8
        go_roundw
        case rel => exact ⟨k + 1, _, by omega, by go_num, oR8, hKA8, by rw [HN.out, List.length_append]; exact hL8, by rw [HN.out]; exact hE8, hbw3.trans hb8⟩
        case measure => simp [intOf]; omega
    · have hkq : k = n := by omega
      subst hkq
      have HTK : Hid (cs.take k = cs) := List.take_of_length_le (by rw [HLN.out]; exact Nat.le_refl _)
      rw [HTK.out] at hL hE
      have HFN : Hid (Fine (nz cs)) := nz_fine HR.out HV.out HMl.out.lims
      obtain ⟨aP, cP, rfl, q1, q2, q3, q4⟩ := hL.parr hE rfl
      obtain ⟨nP, hnP⟩ : ∃ x, x = (nz cs).length := ⟨_, rfl⟩
      have HNP : Hid ((nz cs).length = nP) := hnP.symm
      rw [← hnP] at q1 ⊢
      clear hnP
      obtain ⟨Rc0, Rc1, Rc2⟩ := oR.three
      obtain ⟨Rk0, Rk1, Rk2⟩ := oR.frozen3
      try simp only []
      try go_at_K
      repeat (first | go_values | go_skip | go_guarded | go_step | go_upon)
      refine bodyPost_ret (v := .agg #[.slice aP nP cP, .bool false, .slice none 0 0]) (by simp [results, Tryz.results79, go_sem, Rc0, Rc1, Rc2]) rfl ?_
      obtain ⟨K1, B1, _⟩ := resT (by decide) (by decide) oR hbw lwR aP nP cP false none 0 0
      exact ⟨_, rfl, ⟨_, _, _, _, _, _, _, rfl, ⟨HNP.out, q1, q2, q3, q4.keepP K1, AInt.zero _, HFN.out⟩⟩, B1⟩

end Go.Proofs.YteefniagebcagaaGreatDoor
