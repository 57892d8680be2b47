/- Contract of suretyref03's SameRow; they prove no statement of the seat. -/
import Derived.Laws.StructEq
import Derived.Test.YteefniagebcagaaGreatDoorLinPlJValues
namespace Go.Proofs.YteefniagebcagaaGreatDoor
open Go.RowKit
set_option linter.unusedVariables false

set_option maxRecDepth 20000 in
set_option maxHeartbeats 8000000 in
theorem sameRow_yes (aX aY : Option Addr) (nX cX cY : Nat) (S : ByteArray) (ms : List (Int × ByteArray)) (w : World) (hx : MArr w aX ms) (hy : MArr w aY ms) (hl : ms.length = nX) (hm : nX ≤ maxLen) :
    Calls Tryz.prog 42 #[.agg #[.slice aX nX cX, .string S], .agg #[.slice aY nX cY, .string S]] w fun e w' => e = .returned (.bool true) ∧ Below w.heap.size w w' := by
  have oX := ((Blk.new w 79 #[.slice aX nX cX, .string S]).alloc (.cells #[.slice aY nX cY, .string S] 79 (0, 0)))
  have oY := (Blk.new (w.alloc (.cells #[.slice aX nX cX, .string S] 79 (0, 0))) 79 #[.slice aY nX cY, .string S])
  simp only [World.size_alloc] at oY
  have hbw : Below w.heap.size w ((w.alloc (.cells #[.slice aX nX cX, .string S] 79 (0, 0))).alloc (.cells #[.slice aY nX cY, .string S] 79 (0, 0))) := by go_grown
  have ltX := oX.lt
  have lwX : w.heap.size ≤ w.heap.size := by omega
  have ltY := oY.lt
  have lwY : w.heap.size ≤ w.heap.size + 1 := by omega
  go_enter Tryz.func42, Tryz.ntmps42
  have HX : Hid (MArr w aX ms) := hx
  have HY : Hid (MArr w aY ms) := hy
  have HLN : Hid (ms.length = nX) := hl
  have hn : (nX : Int) ≤ 9223372036854775807 := by unfold maxLen at hm; omega
  clear hx hy hl hm
  obtain ⟨Xc0, Xc1, Xk0, Xk1⟩ := oX.two
  obtain ⟨Yc0, Yc1, Yk0, Yk1⟩ := oY.two
  go_wp2
  go_loopw [5] (fun i wl => ∃ (k : Nat), k ≤ nX ∧ i = .int .i64 k ∧ Blk 79 wl w.heap.size #[.slice aX nX cX, .string S] ∧ Blk 79 wl (w.heap.size + 1) #[.slice aY nX cY, .string S] ∧ Below w.heap.size w wl) (fun i _ => nX - (intOf i).toNat)
  case atStart => exact ⟨0, Nat.zero_le _, rfl, oX, oY, hbw⟩
  case round =>
    rename World => wl
    clear oX oY hbw ltX ltY Xc0 Xc1 Xk0 Xk1 Yc0 Yc1 Yk0 Yk1
    obtain ⟨k, hk, hi9, oX, oY, hbw⟩ := hrel
    subst hi9
    obtain ⟨X0, X1, -, -⟩ := oX.two
    obtain ⟨Y0, Y1, -, -⟩ := oY.two
    by_cases h0 : k < nX
    · obtain ⟨gE, oE, had, k1, k2⟩ := HX.out.at k (by rw [HLN.out]; exact h0)
      subst had
      obtain ⟨gF, oF, had, j1, j2⟩ := HY.out.at k (by rw [HLN.out]; exact h0)
      subst had
      obtain ⟨v, hpv⟩ : ∃ x9, x9 = (ms.getD k (0, ⟨#[]⟩)).1 := ⟨_, rfl⟩
      obtain ⟨T, hps⟩ : ∃ x9, x9 = (ms.getD k (0, ⟨#[]⟩)).2 := ⟨_, rfl⟩
      rw [← hpv] at k1 j1
      rw [← hps] at k2 j2
      clear hpv hps
      have A0 := (hbw.cell (p := ⟨gE, oE + k * 2, none⟩) (World.block_lt_of_cell? w _ k1)).trans k1
      have A1 := (hbw.cell (p := ⟨gE, oE + k * 2 + 1, none⟩) (World.block_lt_of_cell? w _ k2)).trans k2
      have B0 := (hbw.cell (p := ⟨gF, oF + k * 2, none⟩) (World.block_lt_of_cell? w _ j1)).trans j1
      have B1 := (hbw.cell (p := ⟨gF, oF + k * 2 + 1, none⟩) (World.block_lt_of_cell? w _ j2)).trans j2
      clear k1 k2 j1 j2
      go_wp2
      go_region
      go_wp2
      go_roundw
      case rel => exact ⟨k + 1, by omega, by go_num, oX.drew, oY.drew, hbw.drew⟩
      case measure => simp [intOf]; omega
    · go_wp2
      go_ret
      exact ⟨rfl, hbw⟩

end Go.Proofs.YteefniagebcagaaGreatDoor
