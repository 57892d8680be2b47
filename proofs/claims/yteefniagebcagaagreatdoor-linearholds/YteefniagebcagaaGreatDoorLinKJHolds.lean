/- Contracts of slices.Concat for parts and linear's without; they prove no statement of the seat. -/
import Derived.Test.YteefniagebcagaaGreatDoorLinJJHolds
namespace Go.Proofs.YteefniagebcagaaGreatDoor
open Go.RowKit
set_option linter.unusedVariables false

/-- The first k lengths of two. -/
def tot (n m k : Nat) : Nat := if k = 0 then 0 else if k = 1 then n else n + m

set_option maxRecDepth 20000 in
set_option maxHeartbeats 8000000 in
theorem concat_any (g o c : Nat) (va vb : Value) (a b : List (Nat × Int)) (w : World) (c0 : w.cell? ⟨g, o, none⟩ = some va) (c1 : w.cell? ⟨g, o + 1, none⟩ = some vb) (hc : 2 ≤ c) (ha : PTS a va w) (hb : PTS b vb w) (hl1 : a.length ≤ 5000) (hl2 : b.length ≤ 5000) :
    Calls Tryz.prog 110 #[.slice (some ⟨g, o, none⟩) 2 c] w fun e w' => ∃ v, e = .returned v ∧ PTS (a ++ b) v w' ∧ Below w.heap.size w w' := by
  obtain ⟨ao, n, cap, rfl, a1, a2, a3, a4, a5⟩ := ha
  obtain ⟨bo, m, cap2, rfl, b1, b2, b3, b4, b5⟩ := hb
  have HA : Hid (PArr w ao a ∧ a.length = n ∧ (ao = none → cap = 0)) := ⟨a5, a1, a4⟩
  have HB : Hid (PArr w bo b ∧ b.length = m ∧ (bo = none → cap2 = 0)) := ⟨b5, b1, b4⟩
  have hn : n ≤ 5000 := by omega
  have hm : m ≤ 5000 := by omega
  clear a1 a4 a5 b1 b4 b5 hl1 hl2
  unfold maxLen at a3 b3
  go_enter Tryz.func110, Tryz.ntmps110
  go_wp2
  go_loopw [3, 11] (fun sz i wl => ∃ k : Nat, k ≤ 2 ∧ i = .int .i64 k ∧ sz = .int .i64 (tot n m k) ∧ Below w.heap.size w wl) (fun _ i _ => 2 - (intOf i).toNat)
  case atStart => exact ⟨0, by omega, rfl, rfl, Below.refl _ _⟩
  case round =>
    rename World => wl
    obtain ⟨k, hk, rfl, rfl, hbw⟩ := hrel
    have C0 := (hbw.cell (p := ⟨g, o, none⟩) (World.block_lt_of_cell? w _ c0)).trans c0
    have C1 := (hbw.cell (p := ⟨g, o + 1, none⟩) (World.block_lt_of_cell? w _ c1)).trans c1
    have hk3 : k = 0 ∨ k = 1 ∨ k = 2 := by omega
    rcases hk3 with rfl | rfl | rfl
    · have t0 : tot n m 0 = 0 := rfl
      have H1 : Hid (tot n m 1 = n) := rfl
      go_wp2
      go_roundw
      case rel => exact ⟨1, by omega, by go_num, by first | (rw [H1.out]; done) | (rw [H1.out]; go_num), hbw⟩
      case measure => simp [intOf]
    · have t0 : tot n m 1 = n := rfl
      have H1 : Hid (tot n m 2 = n + m) := rfl
      go_wp2
      go_roundw
      case rel => exact ⟨2, by omega, by go_num, by first | (rw [H1.out]; done) | (rw [H1.out]; go_num), hbw⟩
      case measure => simp [intOf]
    · have t0 : tot n m 2 = n + m := rfl
      go_wp2_with fail
      refine (grow_any (n + m) _ (by omega)).mono ?_
      rintro e w1 ⟨v0, rfl, hL0, hne0, hb1⟩
      have hsz := hbw.size
      replace hbw := hbw.step hb1 (Nat.le_refl _)
      replace hL0 := hL0.mono (base' := w.heap.size) hsz
      clear C0 C1 hb1 t0
      go_wp2
      go_loopw [6, 27] (fun v i wl => ∃ (k : Nat) (xs : List Value), k ≤ 2 ∧ i = .int .i64 k ∧ LstG 3 116 w.heap.size wl v ((if k = 0 then [] else if k = 1 then a else a ++ b) : List (Nat × Int)).length xs ∧ ElsP wl xs (if k = 0 then [] else if k = 1 then a else a ++ b) ∧ (0 < n + m → v ≠ .slice none 0 0) ∧ Below w.heap.size w wl) (fun _ i _ => 2 - (intOf i).toNat)
      case atStart => exact ⟨0, [], by omega, rfl, hL0, ElsP.nil _, hne0, hbw⟩
      case round =>
        rename World => wm
        clear hL0 hne0 hbw
        obtain ⟨k, xs, hk, rfl, hL, hE, hne, hbw⟩ := hrel
        have C0 := (hbw.cell (p := ⟨g, o, none⟩) (World.block_lt_of_cell? w _ c0)).trans c0
        have C1 := (hbw.cell (p := ⟨g, o + 1, none⟩) (World.block_lt_of_cell? w _ c1)).trans c1
        have hk3 : k = 0 ∨ k = 1 ∨ k = 2 := by omega
        rcases hk3 with rfl | rfl | rfl
        · replace hL : LstG 3 116 w.heap.size wm _ ([] : List (Nat × Int)).length xs := hL
          replace hE : ElsP wm xs [] := hE
          go_wp2_with (at_builtin; refine wpList_append_pts rfl _ _ 28 rfl w.heap.size 40 Tryz.und_parts Tryz.info_part (by decide) _ [] xs rfl hL hE a _ _ _ rfl HA.out.2.1 HA.out.2.2 a2 (HA.out.1.below hbw) (by simp; omega) hbw.size ?_; intro v1 w2 ys1 hL1 hE1 hA1 hnn1; have hbw1 := hbw.trans hA1.bel; have hne1 := fun h => hnn1 (hne h); clear hL hE hA1 hnn1)
          go_roundw
          case rel => exact ⟨1, ys1, by omega, by go_num, hL1, hE1, hne1, hbw1⟩
          case measure => simp [intOf]
        · replace hL : LstG 3 116 w.heap.size wm _ a.length xs := hL
          replace hE : ElsP wm xs a := hE
          go_wp2_with (at_builtin; refine wpList_append_pts rfl _ _ 28 rfl w.heap.size 40 Tryz.und_parts Tryz.info_part (by decide) _ a xs rfl hL hE b _ _ _ rfl HB.out.2.1 HB.out.2.2 b2 (HB.out.1.below hbw) (by have := HA.out.2.1; omega) hbw.size ?_; intro v1 w2 ys1 hL1 hE1 hA1 hnn1; have hbw1 := hbw.trans hA1.bel; have hne1 := fun h => hnn1 (hne h); clear hL hE hA1 hnn1)
          go_roundw
          case rel => exact ⟨2, ys1, by omega, by go_num, hL1, hE1, hne1, hbw1⟩
          case measure => simp [intOf]
        · replace hL : LstG 3 116 w.heap.size wm _ (a ++ b).length xs := hL
          replace hE : ElsP wm xs (a ++ b) := hE
          obtain ⟨ao9, cap9, rfl, q1, q2, q3, q4⟩ := hL.parr hE rfl
          go_wp2
          go_ret
          exact ⟨_, rfl, ⟨_, _, _, rfl, rfl, q1, q2, q3, q4⟩, hbw⟩

end Go.Proofs.YteefniagebcagaaGreatDoor
