/- Contracts of slices.Grow and Concat for parts; they prove no statement of the seat. -/
import Derived.Test.YteefniagebcagaaGreatDoorLinIJHolds
import Derived.Lib.AppendZeros
namespace Go.Proofs.YteefniagebcagaaGreatDoor
open Go.RowKit
set_option linter.unusedVariables false

theorem Tryz.und_int : Tryz.prog.underlying 3 = some (.int .i64) := by kernel_rfl

set_option maxRecDepth 20000 in
set_option maxHeartbeats 4000000 in
theorem grow_any (n : Nat) (w : World) (hn : n ≤ 10000) :
    Calls Tryz.prog 131 #[.slice none 0 0, .int .i64 n] w fun e w' => ∃ v, e = .returned v ∧ LstG 3 116 w.heap.size w' v 0 [] ∧ (0 < n → v ≠ .slice none 0 0) ∧ Below w.heap.size w w' := by
  rcases Nat.eq_zero_or_pos n with h0 | h0
  · subst h0
    go_enter Tryz.func131, Tryz.ntmps131
    go_wp2
    go_ret
    exact ⟨_, rfl, LstG.nil _ _ _ _, (fun h => absurd h (by decide)), Below.refl _ _⟩
  · obtain ⟨i, hi, hz0, hz1, hz2⟩ := info_parts Tryz.info_part
    have hb48 : n * i.bytes ≤ 281474976710656 := by rw [hz2]; omega
    have hr := fun ty => Lib.run_append_nil_zeros (P := Tryz.prog) w 28 3 ty 116 i (.agg #[.int .i64 0, .bool false, .slice none 0 0]) .i64 .i64 Tryz.und_parts Tryz.und_int hi hz0 n h0 (by omega) (by omega) hb48
    have HR : Hid (∀ ty, (Builtin.append_ #[28, 3] ty #[.slice none 0 0, .int .i64 n]).run Tryz.prog w = .ok (.slice (some ⟨w.heap.size, 0, none⟩) n (grownCap w n 0 116)) (w.drew.alloc (.cells (Builtin.zeroCells (Value.agg #[.int .i64 0, .bool false, .slice none 0 0]).cells n ++ Builtin.zeroCells (Value.agg #[.int .i64 0, .bool false, .slice none 0 0]).cells (grownCap w n 0 116 - n)) 116))) := hr
    clear hr hi hz0 hz1 hz2 hb48
    have hge := grownCap_ge w n 0 116
    have hcm : grownCap w n 0 116 ≤ maxLen := grownCap_le_maxLen w n 0 116 (by unfold maxLen; omega)
    have hbw : Below w.heap.size w (w.drew.alloc (.cells (Builtin.zeroCells (Value.agg #[.int .i64 0, .bool false, .slice none 0 0]).cells n ++ Builtin.zeroCells (Value.agg #[.int .i64 0, .bool false, .slice none 0 0]).cells (grownCap w n 0 116 - n)) 116)) := ⟨rfl, rfl, rfl, by simp, fun k hk => Below.heap_alloc w.drew _ k hk⟩
    have hLS : LstG 3 116 w.heap.size (w.drew.alloc (.cells (Builtin.zeroCells (Value.agg #[.int .i64 0, .bool false, .slice none 0 0]).cells n ++ Builtin.zeroCells (Value.agg #[.int .i64 0, .bool false, .slice none 0 0]).cells (grownCap w n 0 116 - n)) 116)) (.slice (some ⟨w.heap.size, 0, none⟩) 0 (grownCap w n 0 116)) 0 [] := by
      refine ⟨rfl, Or.inr ⟨w.heap.size, _, _, rfl, Nat.le_refl _, heap_alloc_new w.drew _, Nat.zero_le _, hcm, ?_, by simp, ?_⟩⟩
      · rw [Array.size_append, size_zeroCells, size_zeroCells]
        simp [Value.cells]
        omega
      · intro u hu
        rw [Array.toList_append, List.mem_append] at hu
        rcases hu with hu | hu
        · exact nuP _ _ _ _ _ u (mem_zeroCells hu)
        · exact nuP _ _ _ _ _ u (mem_zeroCells hu)
    generalize grownCap w n 0 116 = C at *
    generalize w.drew.alloc (.cells (Builtin.zeroCells (Value.agg #[.int .i64 0, .bool false, .slice none 0 0]).cells n ++ Builtin.zeroCells (Value.agg #[.int .i64 0, .bool false, .slice none 0 0]).cells (C - n)) 116) = W1 at *
    unfold maxLen at hcm
    have hp : (0 : Int) < n := by omega
    go_enter Tryz.func131, Tryz.ntmps131
    go_wp2_with (at_builtin; refine Lib.wpList_append_run _ rfl (.tmp 20) (.tmp 21) 28 3 rfl _ _ rfl rfl _ _ (HR.out _) ?_)
    go_ret
    exact ⟨_, rfl, hLS, (fun _ h => by cases h), hbw⟩
end Go.Proofs.YteefniagebcagaaGreatDoor
