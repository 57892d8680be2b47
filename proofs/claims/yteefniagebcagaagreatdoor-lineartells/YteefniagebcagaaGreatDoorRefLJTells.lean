/- Contracts of suretyref03's Show and of suretylaw03's same; they prove no statement of the seat. -/
import Derived.Test.YteefniagebcagaaGreatDoorRefXJTells
import Derived.Test.YteefniagebcagaaGreatDoorRefDJTells
import Derived.Test.YteefniagebcagaaGreatDoorJoin18Tells
namespace Go.Proofs.YteefniagebcagaaGreatDoor
open Go.RowKit
set_option linter.unusedVariables false

def shK (a : List (Nat × Int)) (k : Nat) : ByteArray := ⟨(Lib.join ((a.take k).map (fun p => (pT p.1 p.2).data.toList)) [32, 43, 32]).toArray⟩
theorem inter_two (sep y z : List UInt8) (l : List (List UInt8)) : sep.intercalate (y :: z :: l) = y ++ (sep ++ sep.intercalate (z :: l)) := by
  simp [List.intercalate]
theorem inter_snoc (sep x : List UInt8) : ∀ (l : List (List UInt8)) (y : List UInt8), sep.intercalate (y :: (l ++ [x])) = sep.intercalate (y :: l) ++ (sep ++ x)
  | [], y => by simp [List.intercalate]
  | z :: l, y => by rw [List.cons_append, inter_two, inter_two, inter_snoc sep x l z]; simp only [List.append_assoc]
theorem join_snoc (sep : List UInt8) (l : List (List UInt8)) (x : List UInt8) (h : l ≠ []) : Lib.join (l ++ [x]) sep = Lib.join l sep ++ (sep ++ x) := by
  cases l with
  | nil => exact absurd rfl h
  | cons y l => exact inter_snoc sep x l y
theorem join_one (sep x : List UInt8) : Lib.join [x] sep = x := by
  show sep.intercalate [x] = x
  simp [List.intercalate]
theorem ba_mk (l m : List UInt8) : (⟨(l ++ m).toArray⟩ : ByteArray) = ⟨l.toArray⟩ ++ ⟨m.toArray⟩ := by
  apply ByteArray.ext
  rw [ByteArray.data_append]
  simp
theorem ba_id (s : ByteArray) : (⟨s.data.toList.toArray⟩ : ByteArray) = s := by
  apply ByteArray.ext
  simp
theorem shK_zero (a : List (Nat × Int)) : shK a 0 = ⟨#[]⟩ := rfl
theorem shK_one {a : List (Nat × Int)} {pv : Nat} {pz : Int} (hk : 0 < a.length) (hp : a.getD 0 (0, 0) = (pv, pz)) : shK a 1 = pT pv pz := by
  unfold shK
  rw [take_one hk hp, List.take_zero, List.nil_append, List.map_cons, List.map_nil, join_one, ba_id]
theorem shK_step {a : List (Nat × Int)} {k pv : Nat} {pz : Int} (h0 : 0 < k) (hk : k < a.length) (hp : a.getD k (0, 0) = (pv, pz)) : shK a (k + 1) = shK a k ++ ⟨#[32, 43, 32]⟩ ++ pT pv pz := by
  unfold shK
  have hne : (a.take k).map (fun p => (pT p.1 p.2).data.toList) ≠ [] := by
    intro h
    have := congrArg List.length h
    rw [List.length_map, List.length_take, List.length_nil] at this
    omega
  rw [take_one hk hp, List.map_append, List.map_cons, List.map_nil, join_snoc _ _ _ hne, ba_mk, ba_mk, ba_id, ByteArray.append_assoc]
theorem shK_size {a : List (Nat × Int)} (h : Fine a) (k : Nat) (hk : k ≤ 4096) : (shK a k).size ≤ 5000000 := by
  have h1 := join_len [32, 43, 32] 1000 ((a.take k).map (fun p => (pT p.1 p.2).data.toList)) (fun x hx => by
    obtain ⟨p, hp, rfl⟩ := List.mem_map.1 hx
    have hf := h.2 p (List.mem_of_mem_take hp)
    exact pT_size hf.2.1 hf.2.2)
  have h2 : ((a.take k).map (fun p => (pT p.1 p.2).data.toList)).length ≤ k := by rw [List.length_map, List.length_take]; omega
  show (Lib.join ((a.take k).map (fun p => (pT p.1 p.2).data.toList)) [32, 43, 32]).toArray.size ≤ _
  rw [List.size_toArray]
  have h3 : ([32, 43, 32] : List UInt8).length + 1000 = 1003 := rfl
  rw [h3] at h1
  have := Nat.mul_le_mul_right 1003 h2
  omega
theorem tT_nil (r : Int) : tT [] r = nT r := by
  unfold tT lT
  rw [if_pos (Or.inr rfl), List.map_nil, List.nil_append, List.map_cons, List.map_nil, join_one, ba_id]
theorem tT_zero {a : List (Nat × Int)} (h : a ≠ []) : tT a 0 = shK a a.length := by
  unfold tT lT shK
  rw [if_neg (fun k => k.elim (fun k => k rfl) h), List.append_nil, List.take_of_length_le (Nat.le_refl _), List.map_map]
  rfl
theorem tT_rest {a : List (Nat × Int)} {r : Int} (h : a ≠ []) (hr : r ≠ 0) : tT a r = shK a a.length ++ ⟨#[32, 43, 32]⟩ ++ nT r := by
  unfold tT lT shK
  have hne : (a.map fun p => pT p.1 p.2).map (fun x => x.data.toList) ≠ [] := by simpa using h
  rw [if_pos (Or.inl hr), List.map_append, List.map_cons, List.map_nil, join_snoc _ _ _ hne, ba_mk, ba_mk, ba_id, List.take_of_length_le (Nat.le_refl _), List.map_map, ByteArray.append_assoc]
  rfl

theorem ba_empty (s : ByteArray) : (⟨#[]⟩ : ByteArray) ++ s = s := by
  apply ByteArray.ext
  rw [ByteArray.data_append]
  simp

set_option maxRecDepth 20000 in
set_option maxHeartbeats 8000000 in
theorem rtext_any (vX : Value) (a : List (Nat × Int)) (r : Int) (w : World) (hX : RTermR w vX a r) :
    Calls Tryz.prog 20 #[vX] w fun e w' => e = .returned (.string (tT a r)) ∧ Below w.heap.size w w' := by
  obtain ⟨pX, qX, rX, xX, aX, nX, cX, rfl, hX⟩ := hX
  have ha0 := hX.arr
  have hr0 := hX.rest
  have oX := (Blk.new w 41 #[.slice pX qX rX, .bool xX, .slice aX nX cX])
  have hbw : Below w.heap.size w (w.alloc (.cells #[.slice pX qX rX, .bool xX, .slice aX nX cX] 41 (0, 0))) := by go_grown
  replace hX := hX.below hbw
  have ltX := oX.lt
  have lwX : w.heap.size ≤ w.heap.size := by omega
  go_enter Tryz.func20, Tryz.ntmps20
  have HX : Hid (QArr w pX a) := ha0
  have HLN : Hid (a.length = qX) := hX.len
  have hlen := hX.n_le
  have HFA : Hid (Fine a) := hX.fine
  have HRS : Hid (RNum w (.agg #[.bool xX, .slice aX nX cX]) r 400) := hr0
  have HNR : Hid (nX = 0 ↔ r = 0) := hX.rest.len.1
  have HRZ : Hid (r.natAbs < lim) := hX.rlim
  clear ha0 hX hr0
  obtain ⟨Xc0, Xc1, Xc2⟩ := oX.three
  obtain ⟨Xk0, Xk1, Xk2⟩ := oX.frozen3
  go_wp2
  go_loopw [3, 4] (fun u3 i wl => ∃ (k : Nat), k ≤ qX ∧ u3 = .string (shK a k) ∧ i = .int .i64 k ∧ Blk 41 wl w.heap.size #[.slice pX qX rX, .bool xX, .slice aX nX cX] ∧ Below w.heap.size w wl) (fun _ i _ => qX - (intOf i).toNat)
  case atStart => exact ⟨0, Nat.zero_le _, rfl, rfl, oX, hbw⟩
  case round =>
    rename World => wl
    clear oX hbw ltX Xc0 Xc1 Xc2 Xk0 Xk1 Xk2
    obtain ⟨k, hk, h3, h8, oX, hbw⟩ := hrel
    subst h3
    subst h8
    have ltX := oX.lt
    by_cases h0 : k < qX
    · obtain ⟨gE, oE, sE, aE, mE, cE, had, k1, k2, k3, k4⟩ := HX.out.at k (by rw [HLN.out]; exact h0)
      subst had
      obtain ⟨pv, hpv⟩ : ∃ x9, x9 = (a.getD k (0, 0)).1 := ⟨_, rfl⟩
      obtain ⟨pz, hpz⟩ : ∃ x9, x9 = (a.getD k (0, 0)).2 := ⟨_, rfl⟩
      rw [← hpv] at k1
      rw [← hpz] at k4
      have HPV : Hid (a.getD k (0, 0) = (pv, pz)) := by show _ = _; rw [hpv, hpz]
      clear hpv hpz
      have HPF : Hid (pz ≠ 0 ∧ pz.natAbs < lim ∧ pv < 4096) := HFA.out.at (by rw [HLN.out]; exact h0) HPV.out
      have hpl : pv < 4096 := HPF.out.2.2
      have hn1 := nT_size HPF.out.2.1
      have hn2 : (nT ((pv : Nat) : Int)).size ≤ 400 := nT_size (var_lim hpl)
      have hS0 := shK_size HFA.out k (by omega)
      by_cases hk0 : k = 0
      · have hki : ¬ (0 : Int) < k := by omega
        have HS1 : Hid (shK a (k + 1) = shK a k ++ nT pz ++ ⟨#[42, 120]⟩ ++ nT (pv : Nat)) := by
          show _ = _
          subst hk0
          rw [shK_one (by rw [HLN.out]; exact h0) HPV.out, shK_zero, ba_empty]
          rfl
        clear hk0
        generalize shK a k = S1 at HS1 hS0 ⊢
        have hS1 := hS0
        obtain ⟨Xc0, Xc1, Xc2⟩ := oX.three
        obtain ⟨Xk0, Xk1, Xk2⟩ := oX.frozen3
        go_wp2
        clear Xc0 Xc1 Xc2 Xk0 Xk1 Xk2
        have hbW := hbw
        refine wp_region_M2 (by kernel_rfl) [3, 16, 17, 18, 19, 20, 21, 22, 23, 24, 25, 26, 27, 28, 29, 30, 31, 32, 33, 34] [none, none, none, some 3, none, none, none, none, none, none, none, none, none, none, none, none, some 16, some 17, some 18, some 19, some 20, some 21, some 22, some 23, some 24, some 25, some 26, some 27, some 28, some 29, some 30, some 31, some 32, some 33, some 34] (fun U => by kernel_rfl) (fun L U wr => Below w.heap.size w wr ∧ KeepB wl wr ∧ wl.heap.size ≤ wr.heap.size ∧ Blk 41 wr (w.heap.size) #[.slice (some ⟨gE, oE, none⟩) qX rX, .bool xX, .slice aX nX cX] ∧ (L 19 = false → U 3 = (.string S1)) ∧ (L 0 = true → IS (.string S1) (U 16) wr) ∧ (L 1 = true → IS (.pointer (some ⟨w.heap.size, 0, none⟩)) (U 17) wr) ∧ (L 2 = true → IS (.slice (some ⟨gE, oE, none⟩) qX rX) (U 18) wr) ∧ (L 3 = true → IS (.int .i64 k) (U 19) wr) ∧ (L 4 = true → IS (.pointer (some ⟨gE, oE + k * 3, none⟩)) (U 20) wr) ∧ (L 5 = true → IS (.pointer (some ⟨gE, oE + k * 3 + 1, none⟩)) (U 21) wr) ∧ (L 6 = true → IS (.agg #[.bool sE, .slice aE mE cE]) (U 22) wr) ∧ (L 7 = true → IS (.string (nT pz)) (U 23) wr) ∧ (L 8 = true → IS (.string (S1 ++ nT pz)) (U 24) wr) ∧ (L 9 = true → IS (.string (S1 ++ nT pz ++ ⟨#[42, 120]⟩)) (U 25) wr) ∧ (L 10 = true → IS (.pointer (some ⟨w.heap.size, 0, none⟩)) (U 26) wr) ∧ (L 11 = true → IS (.slice (some ⟨gE, oE, none⟩) qX rX) (U 27) wr) ∧ (L 12 = true → IS (.int .i64 k) (U 28) wr) ∧ (L 13 = true → IS (.pointer (some ⟨gE, oE + k * 3, none⟩)) (U 29) wr) ∧ (L 14 = true → IS (.pointer (some ⟨gE, oE + k * 3, none⟩)) (U 30) wr) ∧ (L 15 = true → IS (.int .i64 (pv : Nat)) (U 31) wr) ∧ (L 16 = true → RNM (pv : Nat) 20 (U 32) wr) ∧ (L 17 = true → IS (.string (nT (pv : Nat))) (U 33) wr) ∧ (L 18 = true → IS (.string (S1 ++ nT pz ++ ⟨#[42, 120]⟩ ++ nT (pv : Nat))) (U 34) wr) ∧ (L 19 = true → IS (.string (S1 ++ nT pz ++ ⟨#[42, 120]⟩ ++ nT (pv : Nat))) (U 3) wr) ∧ (L 19 = true → L 0 = true)) (by kernel_rfl) ?_ ?_ ?_
        · exact ⟨hbw.drew, KeepB.below (Below.refl _ _).drew, Nat.le_refl _, oX.drew, (fun _ => rfl), (fun h => by cases h), (fun h => by cases h), (fun h => by cases h), (fun h => by cases h), (fun h => by cases h), (fun h => by cases h), (fun h => by cases h), (fun h => by cases h), (fun h => by cases h), (fun h => by cases h), (fun h => by cases h), (fun h => by cases h), (fun h => by cases h), (fun h => by cases h), (fun h => by cases h), (fun h => by cases h), (fun h => by cases h), (fun h => by cases h), (fun h => by cases h), (fun h => by cases h), (fun h => by cases h)⟩
        · refine StepsU.run rfl ?_ ?_
          · intro L U wr hF hlk haf A K hA hK
            have HA : Hid (A = putAll _ _ U) := hA
            clear hA
            simp [Aft, Region.binds] at haf
            obtain ⟨fb, fk, fs, oX, v3, f0, f1, f2, f3, f4, f5, f6, f7, f8, f9, f10, f11, f12, f13, f14, f15, f16, f17, f18, f19, z19_0⟩ := hF
            have hw : L 19 = false := by cases h : L 19 with | false => rfl | true => rw [z19_0 h] at hlk; cases hlk
            have e3 := rd HA.out 3 (by kernel_rfl) (v3 hw)
            refine ⟨?_⟩
            go_simp
            refine hK (upd U 16 (.string S1)) _ _ ?_ ?_
            · rw [HA.out]; kernel_rfl
            · exact ⟨fb, fk, fs, oX, v3, (fun _ => rfl), f1, f2, f3, f4, f5, f6, f7, f8, f9, f10, f11, f12, f13, f14, f15, f16, f17, f18, f19, (fun _ => rfl)⟩
          refine StepsU.run rfl ?_ ?_
          · intro L U wr hF hlk haf A K hA hK
            have HA : Hid (A = putAll _ _ U) := hA
            clear hA
            simp [Aft, Region.binds] at haf
            obtain ⟨fb, fk, fs, oX, v3, f0, f1, f2, f3, f4, f5, f6, f7, f8, f9, f10, f11, f12, f13, f14, f15, f16, f17, f18, f19, z19_0⟩ := hF
            have e1 : A.tmps[1]? = some (.pointer (some ⟨w.heap.size, 0, none⟩)) := by rw [HA.out]; kernel_rfl
            refine ⟨?_⟩
            go_simp
            refine hK (upd U 17 (.pointer (some ⟨w.heap.size, 0, none⟩))) _ _ ?_ ?_
            · rw [HA.out]; kernel_rfl
            · exact ⟨fb, fk, fs, oX, v3, f0, (fun _ => rfl), f2, f3, f4, f5, f6, f7, f8, f9, f10, f11, f12, f13, f14, f15, f16, f17, f18, f19, z19_0⟩
          refine StepsU.run rfl ?_ ?_
          · intro L U wr hF hlk haf A K hA hK
            have HA : Hid (A = putAll _ _ U) := hA
            clear hA
            simp [Aft, Region.binds] at haf
            obtain ⟨fb, fk, fs, oX, v3, f0, f1, f2, f3, f4, f5, f6, f7, f8, f9, f10, f11, f12, f13, f14, f15, f16, f17, f18, f19, z19_0⟩ := hF
            have g1 := f1 (by simp [haf])
            have e17 := rd HA.out 17 (by kernel_rfl) g1
            have c0 := Blk.cell oX 0
            simp at c0
            refine ⟨?_⟩
            go_simp
            refine hK (upd U 18 (.slice (some ⟨gE, oE, none⟩) qX rX)) _ _ ?_ ?_
            · rw [HA.out]; kernel_rfl
            · exact ⟨fb, fk, fs, oX, v3, f0, f1, (fun _ => rfl), f3, f4, f5, f6, f7, f8, f9, f10, f11, f12, f13, f14, f15, f16, f17, f18, f19, z19_0⟩
          refine StepsU.run rfl ?_ ?_
          · intro L U wr hF hlk haf A K hA hK
            have HA : Hid (A = putAll _ _ U) := hA
            clear hA
            simp [Aft, Region.binds] at haf
            obtain ⟨fb, fk, fs, oX, v3, f0, f1, f2, f3, f4, f5, f6, f7, f8, f9, f10, f11, f12, f13, f14, f15, f16, f17, f18, f19, z19_0⟩ := hF
            have e4 : A.tmps[4]? = some (.int .i64 k) := by rw [HA.out]; kernel_rfl
            refine ⟨?_⟩
            go_simp
            refine hK (upd U 19 (.int .i64 k)) _ _ ?_ ?_
            · rw [HA.out]; kernel_rfl
            · exact ⟨fb, fk, fs, oX, v3, f0, f1, f2, (fun _ => rfl), f4, f5, f6, f7, f8, f9, f10, f11, f12, f13, f14, f15, f16, f17, f18, f19, z19_0⟩
          refine StepsU.run rfl ?_ ?_
          · intro L U wr hF hlk haf A K hA hK
            have HA : Hid (A = putAll _ _ U) := hA
            clear hA
            simp [Aft, Region.binds] at haf
            obtain ⟨fb, fk, fs, oX, v3, f0, f1, f2, f3, f4, f5, f6, f7, f8, f9, f10, f11, f12, f13, f14, f15, f16, f17, f18, f19, z19_0⟩ := hF
            have g2 := f2 (by simp [haf])
            have g3 := f3 (by simp [haf])
            have e18 := rd HA.out 18 (by kernel_rfl) g2
            have e19 := rd HA.out 19 (by kernel_rfl) g3
            refine ⟨?_⟩
            go_simp
            refine hK (upd U 20 (.pointer (some ⟨gE, oE + k * 3, none⟩))) _ _ ?_ ?_
            · rw [HA.out]; kernel_rfl
            · exact ⟨fb, fk, fs, oX, v3, f0, f1, f2, f3, (fun _ => rfl), f5, f6, f7, f8, f9, f10, f11, f12, f13, f14, f15, f16, f17, f18, f19, z19_0⟩
          refine StepsU.run rfl ?_ ?_
          · intro L U wr hF hlk haf A K hA hK
            have HA : Hid (A = putAll _ _ U) := hA
            clear hA
            simp [Aft, Region.binds] at haf
            obtain ⟨fb, fk, fs, oX, v3, f0, f1, f2, f3, f4, f5, f6, f7, f8, f9, f10, f11, f12, f13, f14, f15, f16, f17, f18, f19, z19_0⟩ := hF
            have g4 := f4 (by simp [haf])
            have e20 := rd HA.out 20 (by kernel_rfl) g4
            refine ⟨?_⟩
            go_simp
            refine hK (upd U 21 (.pointer (some ⟨gE, oE + k * 3 + 1, none⟩))) _ _ ?_ ?_
            · rw [HA.out]; kernel_rfl
            · exact ⟨fb, fk, fs, oX, v3, f0, f1, f2, f3, f4, (fun _ => rfl), f6, f7, f8, f9, f10, f11, f12, f13, f14, f15, f16, f17, f18, f19, z19_0⟩
          refine StepsU.run rfl ?_ ?_
          · intro L U wr hF hlk haf A K hA hK
            have HA : Hid (A = putAll _ _ U) := hA
            clear hA
            simp [Aft, Region.binds] at haf
            obtain ⟨fb, fk, fs, oX, v3, f0, f1, f2, f3, f4, f5, f6, f7, f8, f9, f10, f11, f12, f13, f14, f15, f16, f17, f18, f19, z19_0⟩ := hF
            have g5 := f5 (by simp [haf])
            have kA1 := (fb.cell (p := ⟨gE, oE + k * 3 + 1, none⟩) (World.block_lt_of_cell? w _ k2)).trans k2
            have kA2 := (fb.cell (p := ⟨gE, oE + k * 3 + 2, none⟩) (World.block_lt_of_cell? w _ k3)).trans k3
            have e21 := rd HA.out 21 (by kernel_rfl) g5
            refine ⟨?_⟩
            go_simp
            refine hK (upd U 22 (.agg #[.bool sE, .slice aE mE cE])) _ _ ?_ ?_
            · rw [HA.out]; kernel_rfl
            · exact ⟨fb, fk, fs, oX, v3, f0, f1, f2, f3, f4, f5, (fun _ => rfl), f7, f8, f9, f10, f11, f12, f13, f14, f15, f16, f17, f18, f19, z19_0⟩
          refine StepsU.run rfl ?_ ?_
          · intro L U wr hF hlk haf A K hA hK
            have HA : Hid (A = putAll _ _ U) := hA
            clear hA
            simp [Aft, Region.binds] at haf
            obtain ⟨fb, fk, fs, oX, v3, f0, f1, f2, f3, f4, f5, f6, f7, f8, f9, f10, f11, f12, f13, f14, f15, f16, f17, f18, f19, z19_0⟩ := hF
            have g6 := f6 (by simp [haf])
            have e22 := rd HA.out 22 (by kernel_rfl) g6
            refine ⟨?_⟩
            go_simp
            refine (rshow_h _ pz 900 _ (k4.below fb) (by decide)).mono ?_
            rintro e w1 ⟨rfl, hb⟩
            go_simp
            refine hK (upd U 23 (.string (nT pz))) _ _ ?_ ?_
            · rw [HA.out]; kernel_rfl
            · exact ⟨(fb.step hb (Nat.le_refl _)), (fk.trans (KeepB.below hb)), (Nat.le_trans fs hb.size), (oX.stay hb), v3, (mvB mb_is (KeepB.below hb) f0), (mvB mb_is (KeepB.below hb) f1), (mvB mb_is (KeepB.below hb) f2), (mvB mb_is (KeepB.below hb) f3), (mvB mb_is (KeepB.below hb) f4), (mvB mb_is (KeepB.below hb) f5), (mvB mb_is (KeepB.below hb) f6), (fun _ => rfl), (mvB mb_is (KeepB.below hb) f8), (mvB mb_is (KeepB.below hb) f9), (mvB mb_is (KeepB.below hb) f10), (mvB mb_is (KeepB.below hb) f11), (mvB mb_is (KeepB.below hb) f12), (mvB mb_is (KeepB.below hb) f13), (mvB mb_is (KeepB.below hb) f14), (mvB mb_is (KeepB.below hb) f15), (mvB mb_rnm (KeepB.below hb) f16), (mvB mb_is (KeepB.below hb) f17), (mvB mb_is (KeepB.below hb) f18), (mvB mb_is (KeepB.below hb) f19), z19_0⟩
          refine StepsU.run rfl ?_ ?_
          · intro L U wr hF hlk haf A K hA hK
            have HA : Hid (A = putAll _ _ U) := hA
            clear hA
            simp [Aft, Region.binds] at haf
            obtain ⟨fb, fk, fs, oX, v3, f0, f1, f2, f3, f4, f5, f6, f7, f8, f9, f10, f11, f12, f13, f14, f15, f16, f17, f18, f19, z19_0⟩ := hF
            have g0 := f0 (by simp [haf])
            have g7 := f7 (by simp [haf])
            have hsz9 : ¬ 9223372036854775807 < S1.size + (nT pz).size := by have := hS1; have := hn1; have := hn2; omega
            have e16 := rd HA.out 16 (by kernel_rfl) g0
            have e23 := rd HA.out 23 (by kernel_rfl) g7
            refine ⟨?_⟩
            go_simp
            refine hK (upd U 24 (.string (S1 ++ nT pz))) _ _ ?_ ?_
            · rw [HA.out]; kernel_rfl
            · exact ⟨fb, fk, fs, oX, v3, f0, f1, f2, f3, f4, f5, f6, f7, (fun _ => rfl), f9, f10, f11, f12, f13, f14, f15, f16, f17, f18, f19, z19_0⟩
          refine StepsU.run rfl ?_ ?_
          · intro L U wr hF hlk haf A K hA hK
            have HA : Hid (A = putAll _ _ U) := hA
            clear hA
            simp [Aft, Region.binds] at haf
            obtain ⟨fb, fk, fs, oX, v3, f0, f1, f2, f3, f4, f5, f6, f7, f8, f9, f10, f11, f12, f13, f14, f15, f16, f17, f18, f19, z19_0⟩ := hF
            have g8 := f8 (by simp [haf])
            have hsz9 : ¬ 9223372036854775807 < S1.size + (nT pz).size + 2 := by have := hS1; have := hn1; have := hn2; omega
            have e24 := rd HA.out 24 (by kernel_rfl) g8
            refine ⟨?_⟩
            go_simp
            refine hK (upd U 25 (.string (S1 ++ nT pz ++ ⟨#[42, 120]⟩))) _ _ ?_ ?_
            · rw [HA.out]; kernel_rfl
            · exact ⟨fb, fk, fs, oX, v3, f0, f1, f2, f3, f4, f5, f6, f7, f8, (fun _ => rfl), f10, f11, f12, f13, f14, f15, f16, f17, f18, f19, z19_0⟩
          refine StepsU.run rfl ?_ ?_
          · intro L U wr hF hlk haf A K hA hK
            have HA : Hid (A = putAll _ _ U) := hA
            clear hA
            simp [Aft, Region.binds] at haf
            obtain ⟨fb, fk, fs, oX, v3, f0, f1, f2, f3, f4, f5, f6, f7, f8, f9, f10, f11, f12, f13, f14, f15, f16, f17, f18, f19, z19_0⟩ := hF
            have e1 : A.tmps[1]? = some (.pointer (some ⟨w.heap.size, 0, none⟩)) := by rw [HA.out]; kernel_rfl
            refine ⟨?_⟩
            go_simp
            refine hK (upd U 26 (.pointer (some ⟨w.heap.size, 0, none⟩))) _ _ ?_ ?_
            · rw [HA.out]; kernel_rfl
            · exact ⟨fb, fk, fs, oX, v3, f0, f1, f2, f3, f4, f5, f6, f7, f8, f9, (fun _ => rfl), f11, f12, f13, f14, f15, f16, f17, f18, f19, z19_0⟩
          refine StepsU.run rfl ?_ ?_
          · intro L U wr hF hlk haf A K hA hK
            have HA : Hid (A = putAll _ _ U) := hA
            clear hA
            simp [Aft, Region.binds] at haf
            obtain ⟨fb, fk, fs, oX, v3, f0, f1, f2, f3, f4, f5, f6, f7, f8, f9, f10, f11, f12, f13, f14, f15, f16, f17, f18, f19, z19_0⟩ := hF
            have g10 := f10 (by simp [haf])
            have e26 := rd HA.out 26 (by kernel_rfl) g10
            have c0 := Blk.cell oX 0
            simp at c0
            refine ⟨?_⟩
            go_simp
            refine hK (upd U 27 (.slice (some ⟨gE, oE, none⟩) qX rX)) _ _ ?_ ?_
            · rw [HA.out]; kernel_rfl
            · exact ⟨fb, fk, fs, oX, v3, f0, f1, f2, f3, f4, f5, f6, f7, f8, f9, f10, (fun _ => rfl), f12, f13, f14, f15, f16, f17, f18, f19, z19_0⟩
          refine StepsU.run rfl ?_ ?_
          · intro L U wr hF hlk haf A K hA hK
            have HA : Hid (A = putAll _ _ U) := hA
            clear hA
            simp [Aft, Region.binds] at haf
            obtain ⟨fb, fk, fs, oX, v3, f0, f1, f2, f3, f4, f5, f6, f7, f8, f9, f10, f11, f12, f13, f14, f15, f16, f17, f18, f19, z19_0⟩ := hF
            have e4 : A.tmps[4]? = some (.int .i64 k) := by rw [HA.out]; kernel_rfl
            refine ⟨?_⟩
            go_simp
            refine hK (upd U 28 (.int .i64 k)) _ _ ?_ ?_
            · rw [HA.out]; kernel_rfl
            · exact ⟨fb, fk, fs, oX, v3, f0, f1, f2, f3, f4, f5, f6, f7, f8, f9, f10, f11, (fun _ => rfl), f13, f14, f15, f16, f17, f18, f19, z19_0⟩
          refine StepsU.run rfl ?_ ?_
          · intro L U wr hF hlk haf A K hA hK
            have HA : Hid (A = putAll _ _ U) := hA
            clear hA
            simp [Aft, Region.binds] at haf
            obtain ⟨fb, fk, fs, oX, v3, f0, f1, f2, f3, f4, f5, f6, f7, f8, f9, f10, f11, f12, f13, f14, f15, f16, f17, f18, f19, z19_0⟩ := hF
            have g11 := f11 (by simp [haf])
            have g12 := f12 (by simp [haf])
            have e27 := rd HA.out 27 (by kernel_rfl) g11
            have e28 := rd HA.out 28 (by kernel_rfl) g12
            refine ⟨?_⟩
            go_simp
            refine hK (upd U 29 (.pointer (some ⟨gE, oE + k * 3, none⟩))) _ _ ?_ ?_
            · rw [HA.out]; kernel_rfl
            · exact ⟨fb, fk, fs, oX, v3, f0, f1, f2, f3, f4, f5, f6, f7, f8, f9, f10, f11, f12, (fun _ => rfl), f14, f15, f16, f17, f18, f19, z19_0⟩
          refine StepsU.run rfl ?_ ?_
          · intro L U wr hF hlk haf A K hA hK
            have HA : Hid (A = putAll _ _ U) := hA
            clear hA
            simp [Aft, Region.binds] at haf
            obtain ⟨fb, fk, fs, oX, v3, f0, f1, f2, f3, f4, f5, f6, f7, f8, f9, f10, f11, f12, f13, f14, f15, f16, f17, f18, f19, z19_0⟩ := hF
            have g13 := f13 (by simp [haf])
            have e29 := rd HA.out 29 (by kernel_rfl) g13
            refine ⟨?_⟩
            go_simp
            refine hK (upd U 30 (.pointer (some ⟨gE, oE + k * 3, none⟩))) _ _ ?_ ?_
            · rw [HA.out]; kernel_rfl
            · exact ⟨fb, fk, fs, oX, v3, f0, f1, f2, f3, f4, f5, f6, f7, f8, f9, f10, f11, f12, f13, (fun _ => rfl), f15, f16, f17, f18, f19, z19_0⟩
          refine StepsU.run rfl ?_ ?_
          · intro L U wr hF hlk haf A K hA hK
            have HA : Hid (A = putAll _ _ U) := hA
            clear hA
            simp [Aft, Region.binds] at haf
            obtain ⟨fb, fk, fs, oX, v3, f0, f1, f2, f3, f4, f5, f6, f7, f8, f9, f10, f11, f12, f13, f14, f15, f16, f17, f18, f19, z19_0⟩ := hF
            have g14 := f14 (by simp [haf])
            have kA0 := (fb.cell (p := ⟨gE, oE + k * 3, none⟩) (World.block_lt_of_cell? w _ k1)).trans k1
            have e30 := rd HA.out 30 (by kernel_rfl) g14
            refine ⟨?_⟩
            go_simp
            refine hK (upd U 31 (.int .i64 (pv : Nat))) _ _ ?_ ?_
            · rw [HA.out]; kernel_rfl
            · exact ⟨fb, fk, fs, oX, v3, f0, f1, f2, f3, f4, f5, f6, f7, f8, f9, f10, f11, f12, f13, f14, (fun _ => rfl), f16, f17, f18, f19, z19_0⟩
          refine StepsU.run rfl ?_ ?_
          · intro L U wr hF hlk haf A K hA hK
            have HA : Hid (A = putAll _ _ U) := hA
            clear hA
            simp [Aft, Region.binds] at haf
            obtain ⟨fb, fk, fs, oX, v3, f0, f1, f2, f3, f4, f5, f6, f7, f8, f9, f10, f11, f12, f13, f14, f15, f16, f17, f18, f19, z19_0⟩ := hF
            have g15 := f15 (by simp [haf])
            have e31 := rd HA.out 31 (by kernel_rfl) g15
            refine ⟨?_⟩
            go_simp
            refine (rfrom_any (pv : Nat) _ (by omega) (by omega)).mono ?_
            rintro e w1 ⟨u1, u2, u3, u4, rfl, hr, hb⟩
            go_simp
            refine hK (upd U 32 (.agg #[.bool u1, .slice u2 u3 u4])) _ _ ?_ ?_
            · rw [HA.out]; kernel_rfl
            · exact ⟨(fb.step hb (Nat.le_refl _)), (fk.trans (KeepB.below hb)), (Nat.le_trans fs hb.size), (oX.stay hb), v3, (mvB mb_is (KeepB.below hb) f0), (mvB mb_is (KeepB.below hb) f1), (mvB mb_is (KeepB.below hb) f2), (mvB mb_is (KeepB.below hb) f3), (mvB mb_is (KeepB.below hb) f4), (mvB mb_is (KeepB.below hb) f5), (mvB mb_is (KeepB.below hb) f6), (mvB mb_is (KeepB.below hb) f7), (mvB mb_is (KeepB.below hb) f8), (mvB mb_is (KeepB.below hb) f9), (mvB mb_is (KeepB.below hb) f10), (mvB mb_is (KeepB.below hb) f11), (mvB mb_is (KeepB.below hb) f12), (mvB mb_is (KeepB.below hb) f13), (mvB mb_is (KeepB.below hb) f14), (mvB mb_is (KeepB.below hb) f15), (fun _ => hr), (mvB mb_is (KeepB.below hb) f17), (mvB mb_is (KeepB.below hb) f18), (mvB mb_is (KeepB.below hb) f19), z19_0⟩
          refine StepsU.run rfl ?_ ?_
          · intro L U wr hF hlk haf A K hA hK
            have HA : Hid (A = putAll _ _ U) := hA
            clear hA
            simp [Aft, Region.binds] at haf
            obtain ⟨fb, fk, fs, oX, v3, f0, f1, f2, f3, f4, f5, f6, f7, f8, f9, f10, f11, f12, f13, f14, f15, f16, f17, f18, f19, z19_0⟩ := hF
            have g16 := f16 (by simp [haf])
            have e32 := rd HA.out 32 (by kernel_rfl) rfl
            refine ⟨?_⟩
            go_simp
            refine (rshow_h _ (pv : Nat) 20 _ g16 (by decide)).mono ?_
            rintro e w1 ⟨rfl, hb⟩
            go_simp
            refine hK (upd U 33 (.string (nT (pv : Nat)))) _ _ ?_ ?_
            · rw [HA.out]; kernel_rfl
            · exact ⟨(fb.step hb (Nat.le_refl _)), (fk.trans (KeepB.below hb)), (Nat.le_trans fs hb.size), (oX.stay hb), v3, (mvB mb_is (KeepB.below hb) f0), (mvB mb_is (KeepB.below hb) f1), (mvB mb_is (KeepB.below hb) f2), (mvB mb_is (KeepB.below hb) f3), (mvB mb_is (KeepB.below hb) f4), (mvB mb_is (KeepB.below hb) f5), (mvB mb_is (KeepB.below hb) f6), (mvB mb_is (KeepB.below hb) f7), (mvB mb_is (KeepB.below hb) f8), (mvB mb_is (KeepB.below hb) f9), (mvB mb_is (KeepB.below hb) f10), (mvB mb_is (KeepB.below hb) f11), (mvB mb_is (KeepB.below hb) f12), (mvB mb_is (KeepB.below hb) f13), (mvB mb_is (KeepB.below hb) f14), (mvB mb_is (KeepB.below hb) f15), (mvB mb_rnm (KeepB.below hb) f16), (fun _ => rfl), (mvB mb_is (KeepB.below hb) f18), (mvB mb_is (KeepB.below hb) f19), z19_0⟩
          refine StepsU.run rfl ?_ ?_
          · intro L U wr hF hlk haf A K hA hK
            have HA : Hid (A = putAll _ _ U) := hA
            clear hA
            simp [Aft, Region.binds] at haf
            obtain ⟨fb, fk, fs, oX, v3, f0, f1, f2, f3, f4, f5, f6, f7, f8, f9, f10, f11, f12, f13, f14, f15, f16, f17, f18, f19, z19_0⟩ := hF
            have g9 := f9 (by simp [haf])
            have g17 := f17 (by simp [haf])
            have hsz9 : ¬ 9223372036854775807 < S1.size + (nT pz).size + 2 + (nT (pv : Nat)).size := by have := hS1; have := hn1; have := hn2; omega
            have e25 := rd HA.out 25 (by kernel_rfl) g9
            have e33 := rd HA.out 33 (by kernel_rfl) g17
            refine ⟨?_⟩
            go_simp
            refine hK (upd U 34 (.string (S1 ++ nT pz ++ ⟨#[42, 120]⟩ ++ nT (pv : Nat)))) _ _ ?_ ?_
            · rw [HA.out]; kernel_rfl
            · exact ⟨fb, fk, fs, oX, v3, f0, f1, f2, f3, f4, f5, f6, f7, f8, f9, f10, f11, f12, f13, f14, f15, f16, f17, (fun _ => rfl), f19, z19_0⟩
          refine StepsU.run rfl ?_ StepsU.nil
          · intro L U wr hF hlk haf A K hA hK
            have HA : Hid (A = putAll _ _ U) := hA
            clear hA
            simp [Aft, Region.binds] at haf
            obtain ⟨fb, fk, fs, oX, v3, f0, f1, f2, f3, f4, f5, f6, f7, f8, f9, f10, f11, f12, f13, f14, f15, f16, f17, f18, f19, z19_0⟩ := hF
            have g18 := f18 (by simp [haf])
            have e34 := rd HA.out 34 (by kernel_rfl) rfl
            refine ⟨?_⟩
            go_simp
            refine hK (upd U 3 (U 34)) _ _ ?_ ?_
            · rw [HA.out]; kernel_rfl
            · exact ⟨fb, fk, fs, oX, (fun h => by cases h), f0, f1, f2, f3, f4, f5, f6, f7, f8, f9, f10, f11, f12, f13, f14, f15, f16, f17, f18, (fun _ => g18), (fun _ => by simp [haf])⟩
        clear hbw oX
        intro L U1 V1 hall hF
        obtain ⟨hbw, fk, fs, oX, v3, f0, f1, f2, f3, f4, f5, f6, f7, f8, f9, f10, f11, f12, f13, f14, f15, f16, f17, f18, f19, z19_0⟩ := hF
        clear v3 z19_0
        have g0 := f0 (hall 0 (by decide))
        have g1 := f1 (hall 1 (by decide))
        have g2 := f2 (hall 2 (by decide))
        have g3 := f3 (hall 3 (by decide))
        have g4 := f4 (hall 4 (by decide))
        have g5 := f5 (hall 5 (by decide))
        have g6 := f6 (hall 6 (by decide))
        have g7 := f7 (hall 7 (by decide))
        have g8 := f8 (hall 8 (by decide))
        have g9 := f9 (hall 9 (by decide))
        have g10 := f10 (hall 10 (by decide))
        have g11 := f11 (hall 11 (by decide))
        have g12 := f12 (hall 12 (by decide))
        have g13 := f13 (hall 13 (by decide))
        have g14 := f14 (hall 14 (by decide))
        have g15 := f15 (hall 15 (by decide))
        have g16 := f16 (hall 16 (by decide))
        have g17 := f17 (hall 17 (by decide))
        have g18 := f18 (hall 18 (by decide))
        have g19 := f19 (hall 19 (by decide))
        clear hall f0 f1 f2 f3 f4 f5 f6 f7 f8 f9 f10 f11 f12 f13 f14 f15 f16 f17 f18 f19
        replace ltX := oX.lt
        try clear g0
        try clear g1
        try clear g2
        try clear g3
        try clear g4
        try clear g5
        try clear g6
        try clear g7
        try clear g8
        try clear g9
        try clear g10
        try clear g11
        try clear g12
        try clear g13
        try clear g14
        try clear g15
        try clear g16
        try clear g17
        try clear g18
        clear hbW
        simp only [setM_some, setM_none, setM_nil]
        clear fk fs
        have e3 : U1 3 = _ := g19
        rw [e3]
        clear g19 e3
        go_wp2
        go_roundw
        case rel => exact ⟨k + 1, by omega, by rw [HS1.out], by go_num, oX, hbw⟩
        case measure => simp [intOf]; omega
      · have hki : (0 : Int) < k := by omega
        have HS1 : Hid (shK a (k + 1) = shK a k ++ ⟨#[32, 43, 32]⟩ ++ nT pz ++ ⟨#[42, 120]⟩ ++ nT (pv : Nat)) := by
          show _ = _
          rw [shK_step (by omega) (by rw [HLN.out]; exact h0) HPV.out]
          unfold pT
          simp only [ByteArray.append_assoc]
        clear hk0
        generalize shK a k = S0 at HS1 hS0 ⊢
        have hs3 : ¬ 9223372036854775807 < S0.size + 3 := by omega
        obtain ⟨Xc0, Xc1, Xc2⟩ := oX.three
        obtain ⟨Xk0, Xk1, Xk2⟩ := oX.frozen3
        go_wp2
        clear Xc0 Xc1 Xc2 Xk0 Xk1 Xk2
        have hS1 : (S0 ++ ⟨#[32, 43, 32]⟩ : ByteArray).size ≤ 6000000 := by rw [ByteArray.size_append]; show _ + 3 ≤ _; omega
        generalize (S0 ++ ⟨#[32, 43, 32]⟩ : ByteArray) = S1 at HS1 hS1 ⊢
        have hbW := hbw
        refine wp_region_M2 (by kernel_rfl) [3, 16, 17, 18, 19, 20, 21, 22, 23, 24, 25, 26, 27, 28, 29, 30, 31, 32, 33, 34] [none, none, none, some 3, none, none, none, none, none, none, none, none, none, none, none, none, some 16, some 17, some 18, some 19, some 20, some 21, some 22, some 23, some 24, some 25, some 26, some 27, some 28, some 29, some 30, some 31, some 32, some 33, some 34] (fun U => by kernel_rfl) (fun L U wr => Below w.heap.size w wr ∧ KeepB wl wr ∧ wl.heap.size ≤ wr.heap.size ∧ Blk 41 wr (w.heap.size) #[.slice (some ⟨gE, oE, none⟩) qX rX, .bool xX, .slice aX nX cX] ∧ (L 19 = false → U 3 = (.string S1)) ∧ (L 0 = true → IS (.string S1) (U 16) wr) ∧ (L 1 = true → IS (.pointer (some ⟨w.heap.size, 0, none⟩)) (U 17) wr) ∧ (L 2 = true → IS (.slice (some ⟨gE, oE, none⟩) qX rX) (U 18) wr) ∧ (L 3 = true → IS (.int .i64 k) (U 19) wr) ∧ (L 4 = true → IS (.pointer (some ⟨gE, oE + k * 3, none⟩)) (U 20) wr) ∧ (L 5 = true → IS (.pointer (some ⟨gE, oE + k * 3 + 1, none⟩)) (U 21) wr) ∧ (L 6 = true → IS (.agg #[.bool sE, .slice aE mE cE]) (U 22) wr) ∧ (L 7 = true → IS (.string (nT pz)) (U 23) wr) ∧ (L 8 = true → IS (.string (S1 ++ nT pz)) (U 24) wr) ∧ (L 9 = true → IS (.string (S1 ++ nT pz ++ ⟨#[42, 120]⟩)) (U 25) wr) ∧ (L 10 = true → IS (.pointer (some ⟨w.heap.size, 0, none⟩)) (U 26) wr) ∧ (L 11 = true → IS (.slice (some ⟨gE, oE, none⟩) qX rX) (U 27) wr) ∧ (L 12 = true → IS (.int .i64 k) (U 28) wr) ∧ (L 13 = true → IS (.pointer (some ⟨gE, oE + k * 3, none⟩)) (U 29) wr) ∧ (L 14 = true → IS (.pointer (some ⟨gE, oE + k * 3, none⟩)) (U 30) wr) ∧ (L 15 = true → IS (.int .i64 (pv : Nat)) (U 31) wr) ∧ (L 16 = true → RNM (pv : Nat) 20 (U 32) wr) ∧ (L 17 = true → IS (.string (nT (pv : Nat))) (U 33) wr) ∧ (L 18 = true → IS (.string (S1 ++ nT pz ++ ⟨#[42, 120]⟩ ++ nT (pv : Nat))) (U 34) wr) ∧ (L 19 = true → IS (.string (S1 ++ nT pz ++ ⟨#[42, 120]⟩ ++ nT (pv : Nat))) (U 3) wr) ∧ (L 19 = true → L 0 = true)) (by kernel_rfl) ?_ ?_ ?_
        · exact ⟨hbw.drew, KeepB.below (Below.refl _ _).drew, Nat.le_refl _, oX.drew, (fun _ => rfl), (fun h => by cases h), (fun h => by cases h), (fun h => by cases h), (fun h => by cases h), (fun h => by cases h), (fun h => by cases h), (fun h => by cases h), (fun h => by cases h), (fun h => by cases h), (fun h => by cases h), (fun h => by cases h), (fun h => by cases h), (fun h => by cases h), (fun h => by cases h), (fun h => by cases h), (fun h => by cases h), (fun h => by cases h), (fun h => by cases h), (fun h => by cases h), (fun h => by cases h), (fun h => by cases h)⟩
        · refine StepsU.run rfl ?_ ?_
          · intro L U wr hF hlk haf A K hA hK
            have HA : Hid (A = putAll _ _ U) := hA
            clear hA
            simp [Aft, Region.binds] at haf
            obtain ⟨fb, fk, fs, oX, v3, f0, f1, f2, f3, f4, f5, f6, f7, f8, f9, f10, f11, f12, f13, f14, f15, f16, f17, f18, f19, z19_0⟩ := hF
            have hw : L 19 = false := by cases h : L 19 with | false => rfl | true => rw [z19_0 h] at hlk; cases hlk
            have e3 := rd HA.out 3 (by kernel_rfl) (v3 hw)
            refine ⟨?_⟩
            go_simp
            refine hK (upd U 16 (.string S1)) _ _ ?_ ?_
            · rw [HA.out]; kernel_rfl
            · exact ⟨fb, fk, fs, oX, v3, (fun _ => rfl), f1, f2, f3, f4, f5, f6, f7, f8, f9, f10, f11, f12, f13, f14, f15, f16, f17, f18, f19, (fun _ => rfl)⟩
          refine StepsU.run rfl ?_ ?_
          · intro L U wr hF hlk haf A K hA hK
            have HA : Hid (A = putAll _ _ U) := hA
            clear hA
            simp [Aft, Region.binds] at haf
            obtain ⟨fb, fk, fs, oX, v3, f0, f1, f2, f3, f4, f5, f6, f7, f8, f9, f10, f11, f12, f13, f14, f15, f16, f17, f18, f19, z19_0⟩ := hF
            have e1 : A.tmps[1]? = some (.pointer (some ⟨w.heap.size, 0, none⟩)) := by rw [HA.out]; kernel_rfl
            refine ⟨?_⟩
            go_simp
            refine hK (upd U 17 (.pointer (some ⟨w.heap.size, 0, none⟩))) _ _ ?_ ?_
            · rw [HA.out]; kernel_rfl
            · exact ⟨fb, fk, fs, oX, v3, f0, (fun _ => rfl), f2, f3, f4, f5, f6, f7, f8, f9, f10, f11, f12, f13, f14, f15, f16, f17, f18, f19, z19_0⟩
          refine StepsU.run rfl ?_ ?_
          · intro L U wr hF hlk haf A K hA hK
            have HA : Hid (A = putAll _ _ U) := hA
            clear hA
            simp [Aft, Region.binds] at haf
            obtain ⟨fb, fk, fs, oX, v3, f0, f1, f2, f3, f4, f5, f6, f7, f8, f9, f10, f11, f12, f13, f14, f15, f16, f17, f18, f19, z19_0⟩ := hF
            have g1 := f1 (by simp [haf])
            have e17 := rd HA.out 17 (by kernel_rfl) g1
            have c0 := Blk.cell oX 0
            simp at c0
            refine ⟨?_⟩
            go_simp
            refine hK (upd U 18 (.slice (some ⟨gE, oE, none⟩) qX rX)) _ _ ?_ ?_
            · rw [HA.out]; kernel_rfl
            · exact ⟨fb, fk, fs, oX, v3, f0, f1, (fun _ => rfl), f3, f4, f5, f6, f7, f8, f9, f10, f11, f12, f13, f14, f15, f16, f17, f18, f19, z19_0⟩
          refine StepsU.run rfl ?_ ?_
          · intro L U wr hF hlk haf A K hA hK
            have HA : Hid (A = putAll _ _ U) := hA
            clear hA
            simp [Aft, Region.binds] at haf
            obtain ⟨fb, fk, fs, oX, v3, f0, f1, f2, f3, f4, f5, f6, f7, f8, f9, f10, f11, f12, f13, f14, f15, f16, f17, f18, f19, z19_0⟩ := hF
            have e4 : A.tmps[4]? = some (.int .i64 k) := by rw [HA.out]; kernel_rfl
            refine ⟨?_⟩
            go_simp
            refine hK (upd U 19 (.int .i64 k)) _ _ ?_ ?_
            · rw [HA.out]; kernel_rfl
            · exact ⟨fb, fk, fs, oX, v3, f0, f1, f2, (fun _ => rfl), f4, f5, f6, f7, f8, f9, f10, f11, f12, f13, f14, f15, f16, f17, f18, f19, z19_0⟩
          refine StepsU.run rfl ?_ ?_
          · intro L U wr hF hlk haf A K hA hK
            have HA : Hid (A = putAll _ _ U) := hA
            clear hA
            simp [Aft, Region.binds] at haf
            obtain ⟨fb, fk, fs, oX, v3, f0, f1, f2, f3, f4, f5, f6, f7, f8, f9, f10, f11, f12, f13, f14, f15, f16, f17, f18, f19, z19_0⟩ := hF
            have g2 := f2 (by simp [haf])
            have g3 := f3 (by simp [haf])
            have e18 := rd HA.out 18 (by kernel_rfl) g2
            have e19 := rd HA.out 19 (by kernel_rfl) g3
            refine ⟨?_⟩
            go_simp
            refine hK (upd U 20 (.pointer (some ⟨gE, oE + k * 3, none⟩))) _ _ ?_ ?_
            · rw [HA.out]; kernel_rfl
            · exact ⟨fb, fk, fs, oX, v3, f0, f1, f2, f3, (fun _ => rfl), f5, f6, f7, f8, f9, f10, f11, f12, f13, f14, f15, f16, f17, f18, f19, z19_0⟩
          refine StepsU.run rfl ?_ ?_
          · intro L U wr hF hlk haf A K hA hK
            have HA : Hid (A = putAll _ _ U) := hA
            clear hA
            simp [Aft, Region.binds] at haf
            obtain ⟨fb, fk, fs, oX, v3, f0, f1, f2, f3, f4, f5, f6, f7, f8, f9, f10, f11, f12, f13, f14, f15, f16, f17, f18, f19, z19_0⟩ := hF
            have g4 := f4 (by simp [haf])
            have e20 := rd HA.out 20 (by kernel_rfl) g4
            refine ⟨?_⟩
            go_simp
            refine hK (upd U 21 (.pointer (some ⟨gE, oE + k * 3 + 1, none⟩))) _ _ ?_ ?_
            · rw [HA.out]; kernel_rfl
            · exact ⟨fb, fk, fs, oX, v3, f0, f1, f2, f3, f4, (fun _ => rfl), f6, f7, f8, f9, f10, f11, f12, f13, f14, f15, f16, f17, f18, f19, z19_0⟩
          refine StepsU.run rfl ?_ ?_
          · intro L U wr hF hlk haf A K hA hK
            have HA : Hid (A = putAll _ _ U) := hA
            clear hA
            simp [Aft, Region.binds] at haf
            obtain ⟨fb, fk, fs, oX, v3, f0, f1, f2, f3, f4, f5, f6, f7, f8, f9, f10, f11, f12, f13, f14, f15, f16, f17, f18, f19, z19_0⟩ := hF
            have g5 := f5 (by simp [haf])
            have kA1 := (fb.cell (p := ⟨gE, oE + k * 3 + 1, none⟩) (World.block_lt_of_cell? w _ k2)).trans k2
            have kA2 := (fb.cell (p := ⟨gE, oE + k * 3 + 2, none⟩) (World.block_lt_of_cell? w _ k3)).trans k3
            have e21 := rd HA.out 21 (by kernel_rfl) g5
            refine ⟨?_⟩
            go_simp
            refine hK (upd U 22 (.agg #[.bool sE, .slice aE mE cE])) _ _ ?_ ?_
            · rw [HA.out]; kernel_rfl
            · exact ⟨fb, fk, fs, oX, v3, f0, f1, f2, f3, f4, f5, (fun _ => rfl), f7, f8, f9, f10, f11, f12, f13, f14, f15, f16, f17, f18, f19, z19_0⟩
          refine StepsU.run rfl ?_ ?_
          · intro L U wr hF hlk haf A K hA hK
            have HA : Hid (A = putAll _ _ U) := hA
            clear hA
            simp [Aft, Region.binds] at haf
            obtain ⟨fb, fk, fs, oX, v3, f0, f1, f2, f3, f4, f5, f6, f7, f8, f9, f10, f11, f12, f13, f14, f15, f16, f17, f18, f19, z19_0⟩ := hF
            have g6 := f6 (by simp [haf])
            have e22 := rd HA.out 22 (by kernel_rfl) g6
            refine ⟨?_⟩
            go_simp
            refine (rshow_h _ pz 900 _ (k4.below fb) (by decide)).mono ?_
            rintro e w1 ⟨rfl, hb⟩
            go_simp
            refine hK (upd U 23 (.string (nT pz))) _ _ ?_ ?_
            · rw [HA.out]; kernel_rfl
            · exact ⟨(fb.step hb (Nat.le_refl _)), (fk.trans (KeepB.below hb)), (Nat.le_trans fs hb.size), (oX.stay hb), v3, (mvB mb_is (KeepB.below hb) f0), (mvB mb_is (KeepB.below hb) f1), (mvB mb_is (KeepB.below hb) f2), (mvB mb_is (KeepB.below hb) f3), (mvB mb_is (KeepB.below hb) f4), (mvB mb_is (KeepB.below hb) f5), (mvB mb_is (KeepB.below hb) f6), (fun _ => rfl), (mvB mb_is (KeepB.below hb) f8), (mvB mb_is (KeepB.below hb) f9), (mvB mb_is (KeepB.below hb) f10), (mvB mb_is (KeepB.below hb) f11), (mvB mb_is (KeepB.below hb) f12), (mvB mb_is (KeepB.below hb) f13), (mvB mb_is (KeepB.below hb) f14), (mvB mb_is (KeepB.below hb) f15), (mvB mb_rnm (KeepB.below hb) f16), (mvB mb_is (KeepB.below hb) f17), (mvB mb_is (KeepB.below hb) f18), (mvB mb_is (KeepB.below hb) f19), z19_0⟩
          refine StepsU.run rfl ?_ ?_
          · intro L U wr hF hlk haf A K hA hK
            have HA : Hid (A = putAll _ _ U) := hA
            clear hA
            simp [Aft, Region.binds] at haf
            obtain ⟨fb, fk, fs, oX, v3, f0, f1, f2, f3, f4, f5, f6, f7, f8, f9, f10, f11, f12, f13, f14, f15, f16, f17, f18, f19, z19_0⟩ := hF
            have g0 := f0 (by simp [haf])
            have g7 := f7 (by simp [haf])
            have hsz9 : ¬ 9223372036854775807 < S1.size + (nT pz).size := by have := hS1; have := hn1; have := hn2; omega
            have e16 := rd HA.out 16 (by kernel_rfl) g0
            have e23 := rd HA.out 23 (by kernel_rfl) g7
            refine ⟨?_⟩
            go_simp
            refine hK (upd U 24 (.string (S1 ++ nT pz))) _ _ ?_ ?_
            · rw [HA.out]; kernel_rfl
            · exact ⟨fb, fk, fs, oX, v3, f0, f1, f2, f3, f4, f5, f6, f7, (fun _ => rfl), f9, f10, f11, f12, f13, f14, f15, f16, f17, f18, f19, z19_0⟩
          refine StepsU.run rfl ?_ ?_
          · intro L U wr hF hlk haf A K hA hK
            have HA : Hid (A = putAll _ _ U) := hA
            clear hA
            simp [Aft, Region.binds] at haf
            obtain ⟨fb, fk, fs, oX, v3, f0, f1, f2, f3, f4, f5, f6, f7, f8, f9, f10, f11, f12, f13, f14, f15, f16, f17, f18, f19, z19_0⟩ := hF
            have g8 := f8 (by simp [haf])
            have hsz9 : ¬ 9223372036854775807 < S1.size + (nT pz).size + 2 := by have := hS1; have := hn1; have := hn2; omega
            have e24 := rd HA.out 24 (by kernel_rfl) g8
            refine ⟨?_⟩
            go_simp
            refine hK (upd U 25 (.string (S1 ++ nT pz ++ ⟨#[42, 120]⟩))) _ _ ?_ ?_
            · rw [HA.out]; kernel_rfl
            · exact ⟨fb, fk, fs, oX, v3, f0, f1, f2, f3, f4, f5, f6, f7, f8, (fun _ => rfl), f10, f11, f12, f13, f14, f15, f16, f17, f18, f19, z19_0⟩
          refine StepsU.run rfl ?_ ?_
          · intro L U wr hF hlk haf A K hA hK
            have HA : Hid (A = putAll _ _ U) := hA
            clear hA
            simp [Aft, Region.binds] at haf
            obtain ⟨fb, fk, fs, oX, v3, f0, f1, f2, f3, f4, f5, f6, f7, f8, f9, f10, f11, f12, f13, f14, f15, f16, f17, f18, f19, z19_0⟩ := hF
            have e1 : A.tmps[1]? = some (.pointer (some ⟨w.heap.size, 0, none⟩)) := by rw [HA.out]; kernel_rfl
            refine ⟨?_⟩
            go_simp
            refine hK (upd U 26 (.pointer (some ⟨w.heap.size, 0, none⟩))) _ _ ?_ ?_
            · rw [HA.out]; kernel_rfl
            · exact ⟨fb, fk, fs, oX, v3, f0, f1, f2, f3, f4, f5, f6, f7, f8, f9, (fun _ => rfl), f11, f12, f13, f14, f15, f16, f17, f18, f19, z19_0⟩
          refine StepsU.run rfl ?_ ?_
          · intro L U wr hF hlk haf A K hA hK
            have HA : Hid (A = putAll _ _ U) := hA
            clear hA
            simp [Aft, Region.binds] at haf
            obtain ⟨fb, fk, fs, oX, v3, f0, f1, f2, f3, f4, f5, f6, f7, f8, f9, f10, f11, f12, f13, f14, f15, f16, f17, f18, f19, z19_0⟩ := hF
            have g10 := f10 (by simp [haf])
            have e26 := rd HA.out 26 (by kernel_rfl) g10
            have c0 := Blk.cell oX 0
            simp at c0
            refine ⟨?_⟩
            go_simp
            refine hK (upd U 27 (.slice (some ⟨gE, oE, none⟩) qX rX)) _ _ ?_ ?_
            · rw [HA.out]; kernel_rfl
            · exact ⟨fb, fk, fs, oX, v3, f0, f1, f2, f3, f4, f5, f6, f7, f8, f9, f10, (fun _ => rfl), f12, f13, f14, f15, f16, f17, f18, f19, z19_0⟩
          refine StepsU.run rfl ?_ ?_
          · intro L U wr hF hlk haf A K hA hK
            have HA : Hid (A = putAll _ _ U) := hA
            clear hA
            simp [Aft, Region.binds] at haf
            obtain ⟨fb, fk, fs, oX, v3, f0, f1, f2, f3, f4, f5, f6, f7, f8, f9, f10, f11, f12, f13, f14, f15, f16, f17, f18, f19, z19_0⟩ := hF
            have e4 : A.tmps[4]? = some (.int .i64 k) := by rw [HA.out]; kernel_rfl
            refine ⟨?_⟩
            go_simp
            refine hK (upd U 28 (.int .i64 k)) _ _ ?_ ?_
            · rw [HA.out]; kernel_rfl
            · exact ⟨fb, fk, fs, oX, v3, f0, f1, f2, f3, f4, f5, f6, f7, f8, f9, f10, f11, (fun _ => rfl), f13, f14, f15, f16, f17, f18, f19, z19_0⟩
          refine StepsU.run rfl ?_ ?_
          · intro L U wr hF hlk haf A K hA hK
            have HA : Hid (A = putAll _ _ U) := hA
            clear hA
            simp [Aft, Region.binds] at haf
            obtain ⟨fb, fk, fs, oX, v3, f0, f1, f2, f3, f4, f5, f6, f7, f8, f9, f10, f11, f12, f13, f14, f15, f16, f17, f18, f19, z19_0⟩ := hF
            have g11 := f11 (by simp [haf])
            have g12 := f12 (by simp [haf])
            have e27 := rd HA.out 27 (by kernel_rfl) g11
            have e28 := rd HA.out 28 (by kernel_rfl) g12
            refine ⟨?_⟩
            go_simp
            refine hK (upd U 29 (.pointer (some ⟨gE, oE + k * 3, none⟩))) _ _ ?_ ?_
            · rw [HA.out]; kernel_rfl
            · exact ⟨fb, fk, fs, oX, v3, f0, f1, f2, f3, f4, f5, f6, f7, f8, f9, f10, f11, f12, (fun _ => rfl), f14, f15, f16, f17, f18, f19, z19_0⟩
          refine StepsU.run rfl ?_ ?_
          · intro L U wr hF hlk haf A K hA hK
            have HA : Hid (A = putAll _ _ U) := hA
            clear hA
            simp [Aft, Region.binds] at haf
            obtain ⟨fb, fk, fs, oX, v3, f0, f1, f2, f3, f4, f5, f6, f7, f8, f9, f10, f11, f12, f13, f14, f15, f16, f17, f18, f19, z19_0⟩ := hF
            have g13 := f13 (by simp [haf])
            have e29 := rd HA.out 29 (by kernel_rfl) g13
            refine ⟨?_⟩
            go_simp
            refine hK (upd U 30 (.pointer (some ⟨gE, oE + k * 3, none⟩))) _ _ ?_ ?_
            · rw [HA.out]; kernel_rfl
            · exact ⟨fb, fk, fs, oX, v3, f0, f1, f2, f3, f4, f5, f6, f7, f8, f9, f10, f11, f12, f13, (fun _ => rfl), f15, f16, f17, f18, f19, z19_0⟩
          refine StepsU.run rfl ?_ ?_
          · intro L U wr hF hlk haf A K hA hK
            have HA : Hid (A = putAll _ _ U) := hA
            clear hA
            simp [Aft, Region.binds] at haf
            obtain ⟨fb, fk, fs, oX, v3, f0, f1, f2, f3, f4, f5, f6, f7, f8, f9, f10, f11, f12, f13, f14, f15, f16, f17, f18, f19, z19_0⟩ := hF
            have g14 := f14 (by simp [haf])
            have kA0 := (fb.cell (p := ⟨gE, oE + k * 3, none⟩) (World.block_lt_of_cell? w _ k1)).trans k1
            have e30 := rd HA.out 30 (by kernel_rfl) g14
            refine ⟨?_⟩
            go_simp
            refine hK (upd U 31 (.int .i64 (pv : Nat))) _ _ ?_ ?_
            · rw [HA.out]; kernel_rfl
            · exact ⟨fb, fk, fs, oX, v3, f0, f1, f2, f3, f4, f5, f6, f7, f8, f9, f10, f11, f12, f13, f14, (fun _ => rfl), f16, f17, f18, f19, z19_0⟩
          refine StepsU.run rfl ?_ ?_
          · intro L U wr hF hlk haf A K hA hK
            have HA : Hid (A = putAll _ _ U) := hA
            clear hA
            simp [Aft, Region.binds] at haf
            obtain ⟨fb, fk, fs, oX, v3, f0, f1, f2, f3, f4, f5, f6, f7, f8, f9, f10, f11, f12, f13, f14, f15, f16, f17, f18, f19, z19_0⟩ := hF
            have g15 := f15 (by simp [haf])
            have e31 := rd HA.out 31 (by kernel_rfl) g15
            refine ⟨?_⟩
            go_simp
            refine (rfrom_any (pv : Nat) _ (by omega) (by omega)).mono ?_
            rintro e w1 ⟨u1, u2, u3, u4, rfl, hr, hb⟩
            go_simp
            refine hK (upd U 32 (.agg #[.bool u1, .slice u2 u3 u4])) _ _ ?_ ?_
            · rw [HA.out]; kernel_rfl
            · exact ⟨(fb.step hb (Nat.le_refl _)), (fk.trans (KeepB.below hb)), (Nat.le_trans fs hb.size), (oX.stay hb), v3, (mvB mb_is (KeepB.below hb) f0), (mvB mb_is (KeepB.below hb) f1), (mvB mb_is (KeepB.below hb) f2), (mvB mb_is (KeepB.below hb) f3), (mvB mb_is (KeepB.below hb) f4), (mvB mb_is (KeepB.below hb) f5), (mvB mb_is (KeepB.below hb) f6), (mvB mb_is (KeepB.below hb) f7), (mvB mb_is (KeepB.below hb) f8), (mvB mb_is (KeepB.below hb) f9), (mvB mb_is (KeepB.below hb) f10), (mvB mb_is (KeepB.below hb) f11), (mvB mb_is (KeepB.below hb) f12), (mvB mb_is (KeepB.below hb) f13), (mvB mb_is (KeepB.below hb) f14), (mvB mb_is (KeepB.below hb) f15), (fun _ => hr), (mvB mb_is (KeepB.below hb) f17), (mvB mb_is (KeepB.below hb) f18), (mvB mb_is (KeepB.below hb) f19), z19_0⟩
          refine StepsU.run rfl ?_ ?_
          · intro L U wr hF hlk haf A K hA hK
            have HA : Hid (A = putAll _ _ U) := hA
            clear hA
            simp [Aft, Region.binds] at haf
            obtain ⟨fb, fk, fs, oX, v3, f0, f1, f2, f3, f4, f5, f6, f7, f8, f9, f10, f11, f12, f13, f14, f15, f16, f17, f18, f19, z19_0⟩ := hF
            have g16 := f16 (by simp [haf])
            have e32 := rd HA.out 32 (by kernel_rfl) rfl
            refine ⟨?_⟩
            go_simp
            refine (rshow_h _ (pv : Nat) 20 _ g16 (by decide)).mono ?_
            rintro e w1 ⟨rfl, hb⟩
            go_simp
            refine hK (upd U 33 (.string (nT (pv : Nat)))) _ _ ?_ ?_
            · rw [HA.out]; kernel_rfl
            · exact ⟨(fb.step hb (Nat.le_refl _)), (fk.trans (KeepB.below hb)), (Nat.le_trans fs hb.size), (oX.stay hb), v3, (mvB mb_is (KeepB.below hb) f0), (mvB mb_is (KeepB.below hb) f1), (mvB mb_is (KeepB.below hb) f2), (mvB mb_is (KeepB.below hb) f3), (mvB mb_is (KeepB.below hb) f4), (mvB mb_is (KeepB.below hb) f5), (mvB mb_is (KeepB.below hb) f6), (mvB mb_is (KeepB.below hb) f7), (mvB mb_is (KeepB.below hb) f8), (mvB mb_is (KeepB.below hb) f9), (mvB mb_is (KeepB.below hb) f10), (mvB mb_is (KeepB.below hb) f11), (mvB mb_is (KeepB.below hb) f12), (mvB mb_is (KeepB.below hb) f13), (mvB mb_is (KeepB.below hb) f14), (mvB mb_is (KeepB.below hb) f15), (mvB mb_rnm (KeepB.below hb) f16), (fun _ => rfl), (mvB mb_is (KeepB.below hb) f18), (mvB mb_is (KeepB.below hb) f19), z19_0⟩
          refine StepsU.run rfl ?_ ?_
          · intro L U wr hF hlk haf A K hA hK
            have HA : Hid (A = putAll _ _ U) := hA
            clear hA
            simp [Aft, Region.binds] at haf
            obtain ⟨fb, fk, fs, oX, v3, f0, f1, f2, f3, f4, f5, f6, f7, f8, f9, f10, f11, f12, f13, f14, f15, f16, f17, f18, f19, z19_0⟩ := hF
            have g9 := f9 (by simp [haf])
            have g17 := f17 (by simp [haf])
            have hsz9 : ¬ 9223372036854775807 < S1.size + (nT pz).size + 2 + (nT (pv : Nat)).size := by have := hS1; have := hn1; have := hn2; omega
            have e25 := rd HA.out 25 (by kernel_rfl) g9
            have e33 := rd HA.out 33 (by kernel_rfl) g17
            refine ⟨?_⟩
            go_simp
            refine hK (upd U 34 (.string (S1 ++ nT pz ++ ⟨#[42, 120]⟩ ++ nT (pv : Nat)))) _ _ ?_ ?_
            · rw [HA.out]; kernel_rfl
            · exact ⟨fb, fk, fs, oX, v3, f0, f1, f2, f3, f4, f5, f6, f7, f8, f9, f10, f11, f12, f13, f14, f15, f16, f17, (fun _ => rfl), f19, z19_0⟩
          refine StepsU.run rfl ?_ StepsU.nil
          · intro L U wr hF hlk haf A K hA hK
            have HA : Hid (A = putAll _ _ U) := hA
            clear hA
            simp [Aft, Region.binds] at haf
            obtain ⟨fb, fk, fs, oX, v3, f0, f1, f2, f3, f4, f5, f6, f7, f8, f9, f10, f11, f12, f13, f14, f15, f16, f17, f18, f19, z19_0⟩ := hF
            have g18 := f18 (by simp [haf])
            have e34 := rd HA.out 34 (by kernel_rfl) rfl
            refine ⟨?_⟩
            go_simp
            refine hK (upd U 3 (U 34)) _ _ ?_ ?_
            · rw [HA.out]; kernel_rfl
            · exact ⟨fb, fk, fs, oX, (fun h => by cases h), f0, f1, f2, f3, f4, f5, f6, f7, f8, f9, f10, f11, f12, f13, f14, f15, f16, f17, f18, (fun _ => g18), (fun _ => by simp [haf])⟩
        clear hbw oX
        intro L U1 V1 hall hF
        obtain ⟨hbw, fk, fs, oX, v3, f0, f1, f2, f3, f4, f5, f6, f7, f8, f9, f10, f11, f12, f13, f14, f15, f16, f17, f18, f19, z19_0⟩ := hF
        clear v3 z19_0
        have g0 := f0 (hall 0 (by decide))
        have g1 := f1 (hall 1 (by decide))
        have g2 := f2 (hall 2 (by decide))
        have g3 := f3 (hall 3 (by decide))
        have g4 := f4 (hall 4 (by decide))
        have g5 := f5 (hall 5 (by decide))
        have g6 := f6 (hall 6 (by decide))
        have g7 := f7 (hall 7 (by decide))
        have g8 := f8 (hall 8 (by decide))
        have g9 := f9 (hall 9 (by decide))
        have g10 := f10 (hall 10 (by decide))
        have g11 := f11 (hall 11 (by decide))
        have g12 := f12 (hall 12 (by decide))
        have g13 := f13 (hall 13 (by decide))
        have g14 := f14 (hall 14 (by decide))
        have g15 := f15 (hall 15 (by decide))
        have g16 := f16 (hall 16 (by decide))
        have g17 := f17 (hall 17 (by decide))
        have g18 := f18 (hall 18 (by decide))
        have g19 := f19 (hall 19 (by decide))
        clear hall f0 f1 f2 f3 f4 f5 f6 f7 f8 f9 f10 f11 f12 f13 f14 f15 f16 f17 f18 f19
        replace ltX := oX.lt
        try clear g0
        try clear g1
        try clear g2
        try clear g3
        try clear g4
        try clear g5
        try clear g6
        try clear g7
        try clear g8
        try clear g9
        try clear g10
        try clear g11
        try clear g12
        try clear g13
        try clear g14
        try clear g15
        try clear g16
        try clear g17
        try clear g18
        clear hbW
        simp only [setM_some, setM_none, setM_nil]
        clear fk fs
        have e3 : U1 3 = _ := g19
        rw [e3]
        clear g19 e3
        go_wp2
        go_roundw
        case rel => exact ⟨k + 1, by omega, by rw [HS1.out], by go_num, oX, hbw⟩
        case measure => simp [intOf]; omega
    · have hkq : k = qX := by omega
      subst hkq
      by_cases hq : k = 0
      · subst hq
        have HA : Hid (a = []) := List.eq_nil_of_length_eq_zero HLN.out
        obtain ⟨Xc0, Xc1, Xc2⟩ := oX.three
        obtain ⟨Xk0, Xk1, Xk2⟩ := oX.frozen3
        go_wp2_with fail
        refine (rshow_h _ r 400 _ (HRS.out.below hbw) (by decide)).mono ?_
        rintro e w1 ⟨rfl, hb⟩
        clear Xc0 Xc1 Xc2 Xk0 Xk1 Xk2
        replace oX := oX.stay hb
        replace ltX := oX.lt
        replace hbw := hbw.step hb (Nat.le_refl _)
        clear hb
        go_wp2
        go_ret
        rw [HA.out, tT_nil]
        exact ⟨rfl, hbw⟩
      · have hqi : ¬ (k : Int) = 0 := by omega
        have HA : Hid (a ≠ []) := fun h => hq (by rw [← HLN.out, h]; rfl)
        clear hq
        by_cases hr9 : nX = 0
        · have HR0 : Hid (r = 0) := HNR.out.1 hr9
          subst hr9
          obtain ⟨Xc0, Xc1, Xc2⟩ := oX.three
          obtain ⟨Xk0, Xk1, Xk2⟩ := oX.frozen3
          go_wp2
          go_ret
          rw [HR0.out, tT_zero HA.out, HLN.out]
          exact ⟨rfl, hbw⟩
        · have HR0 : Hid (r ≠ 0) := fun h => hr9 (HNR.out.2 h)
          have hri : (0 : Int) < nX := by omega
          clear hr9
          have hS0 := shK_size HFA.out k (by omega)
          have hRL := nT_size HRZ.out
          have HTT : Hid (tT a r = shK a k ++ ⟨#[32, 43, 32]⟩ ++ nT r) := by show _ = _; rw [tT_rest HA.out HR0.out, HLN.out]
          generalize shK a k = S0 at hS0 HTT ⊢
          have hs3 : ¬ 9223372036854775807 < S0.size + 3 := by omega
          have hs4 : ¬ 9223372036854775807 < S0.size + 3 + (nT r).size := by omega
          obtain ⟨Xc0, Xc1, Xc2⟩ := oX.three
          obtain ⟨Xk0, Xk1, Xk2⟩ := oX.frozen3
          go_wp2_with fail
          refine (rshow_h _ r 400 _ (HRS.out.below hbw) (by decide)).mono ?_
          rintro e w1 ⟨rfl, hb⟩
          clear Xc0 Xc1 Xc2 Xk0 Xk1 Xk2
          replace oX := oX.stay hb
          replace ltX := oX.lt
          replace hbw := hbw.step hb (Nat.le_refl _)
          clear hb
          go_wp2
          go_ret
          rw [HTT.out]
          exact ⟨rfl, hbw⟩

end Go.Proofs.YteefniagebcagaaGreatDoor
