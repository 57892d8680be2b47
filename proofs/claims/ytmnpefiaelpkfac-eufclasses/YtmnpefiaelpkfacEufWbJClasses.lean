/- The page's example, as it is laid down; no statement of the seat is proved here. -/
import Derived.Test.YtmnpefiaelpkfacEufPkJClasses
import Derived.Test.YtmnpefiaelpkfacEufWkJClasses
import Derived.Test.YtmnpefiaelpkfacEufSaJClasses
namespace Go.Proofs.Ytmnpefiaelpkfac
open Go.RowKit
set_option linter.unusedVariables false
namespace Euf
def awOps : List OpS := [⟨0, sA, [], 0, 0⟩, ⟨0, sF, [0], 0, 0⟩, ⟨0, sF, [1], 0, 0⟩, ⟨0, sF, [2], 0, 0⟩, ⟨1, ByteArray.empty, [], 2, 0⟩, ⟨1, ByteArray.empty, [], 3, 0⟩]
theorem aw_play : playA awOps = awA := by kernel_rfl
theorem ai_none (w : World) : AI w (.slice none 0 0) [] := ⟨none, 0, rfl, by simp, Or.inl rfl⟩
theorem ok_none (w : World) (o : OpS) (hz : o.zs = []) (hf : o.fn.size ≤ maxLen) : OpOk w o none 0 := ⟨by rw [hz]; exact ai_none w, fun _ => ⟨hz, rfl⟩, fun _ b off e => (by cases e), hf, by rw [hz]; simp⟩
theorem ok_one {w : World} {b : Nat} {z : Int} (h : Blk 3 w b #[.int .i64 z]) (o : OpS) (hz : o.zs = [z]) (hf : o.fn.size ≤ maxLen) : OpOk w o (some ⟨b, 0, none⟩) 1 := ⟨by rw [hz]; exact ai_one h 1, fun e => (by cases e), fun _ b' off e => (by injection e with e; injection e with e; subst e; exact h.lt), hf, by rw [hz]; simp⟩
def awC (n : Nat) : Array Value := #[.int .i64 0, .string { data := #[97] }, .slice none 0 0, .int .i64 0, .int .i64 0, .int .i64 0, .string { data := #[102] }, .slice (some ⟨n, 0, none⟩) 1 1, .int .i64 0, .int .i64 0, .int .i64 0, .string { data := #[102] }, .slice (some ⟨n + 1, 0, none⟩) 1 1, .int .i64 0, .int .i64 0, .int .i64 0, .string { data := #[102] }, .slice (some ⟨n + 1 + 1, 0, none⟩) 1 1, .int .i64 0, .int .i64 0, .int .i64 1, .string { data := #[] }, .slice none 0 0, .int .i64 2, .int .i64 0, .int .i64 1, .string { data := #[] }, .slice none 0 0, .int .i64 3, .int .i64 0]
theorem scr_aw {w : World} {n b : Nat} (h0 : Blk 3 w n #[.int .i64 0]) (h1 : Blk 3 w (n + 1) #[.int .i64 1]) (h2 : Blk 3 w (n + 1 + 1) #[.int .i64 2]) (hb : Blk 40 w b (awC n)) : Scr w (some ⟨b, 0, none⟩) awOps := by
  refine ⟨fun i hi => ?_⟩
  match i, hi with
  | 0, _ => exact ⟨b, 0, none, 0, rfl, hb.lt, hb.cell _, hb.cell _, hb.cell _, hb.cell _, hb.cell _, fun _ => ok_none w _ rfl (by decide)⟩
  | 1, _ => exact ⟨b, 0, _, 1, rfl, hb.lt, hb.cell _, hb.cell _, hb.cell _, hb.cell _, hb.cell _, fun _ => ok_one h0 _ rfl (by decide)⟩
  | 2, _ => exact ⟨b, 0, _, 1, rfl, hb.lt, hb.cell _, hb.cell _, hb.cell _, hb.cell _, hb.cell _, fun _ => ok_one h1 _ rfl (by decide)⟩
  | 3, _ => exact ⟨b, 0, _, 1, rfl, hb.lt, hb.cell _, hb.cell _, hb.cell _, hb.cell _, hb.cell _, fun _ => ok_one h2 _ rfl (by decide)⟩
  | 4, _ => exact ⟨b, 0, none, 0, rfl, hb.lt, hb.cell _, hb.cell _, hb.cell _, hb.cell _, hb.cell _, fun _ => ok_none w _ rfl (by decide)⟩
  | 5, _ => exact ⟨b, 0, none, 0, rfl, hb.lt, hb.cell _, hb.cell _, hb.cell _, hb.cell _, hb.cell _, fun _ => ok_none w _ rfl (by decide)⟩
  | i + 6, h9 => exact absurd h9 (by show ¬ (i + 6 < 6); omega)
theorem aw_laid (w : World) : ∃ W4, W4 = (((w.alloc (.cells #[.int .i64 0] 3 (0, 0))).alloc (.cells #[.int .i64 1] 3 (0, 0))).alloc (.cells #[.int .i64 2] 3 (0, 0))).alloc (.cells (awC w.heap.size) 40 (0, 0)) ∧ Scr W4 (some ⟨w.heap.size + 1 + 1 + 1, 0, none⟩) awOps ∧ Below w.heap.size w W4 := by
  obtain ⟨W3, hW3, B0, B1, B2, hb3, hsz⟩ := three w 3 3 3 #[.int .i64 0] #[.int .i64 1] #[.int .i64 2]
  refine ⟨_, rfl, ?_, ?_⟩
  · rw [← hW3]
    have hb : Below W3.heap.size W3 (W3.alloc (.cells (awC w.heap.size) 40 (0, 0))) := by go_grown
    have k : Blk 40 (W3.alloc (.cells (awC w.heap.size) 40 (0, 0))) W3.heap.size (awC w.heap.size) := heap_alloc_new W3 _
    rw [hsz] at k
    exact scr_aw (B0.stay hb) (B1.stay hb) (B2.stay hb) k
  · rw [← hW3]
    exact hb3.trans ((by go_grown : Below W3.heap.size W3 (W3.alloc (.cells (awC w.heap.size) 40 (0, 0)))).mono (by omega))
end Euf
end Go.Proofs.Ytmnpefiaelpkfac
