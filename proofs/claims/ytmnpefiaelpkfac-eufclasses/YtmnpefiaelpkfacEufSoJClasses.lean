/- The contract of slices.Sort at a list of the call's own; it proves no statement of the seat. -/
import Derived.Test.YtmnpefiaelpkfacShelfSJClasses
import Derived.Test.YtmnpefiaelpkfacJoin9Classes
namespace Go.Proofs.Ytmnpefiaelpkfac
open Go Go.RowKit Go.Sort Go.Shelf
set_option linter.unusedVariables false
namespace Euf
def srt (zs : List Int) : List Int := zs.mergeSort fun x y => decide (x ≤ y)
theorem srt_len (zs : List Int) : (srt zs).length = zs.length := List.length_mergeSort _
theorem srt_mem (zs : List Int) (z : Int) : z ∈ srt zs ↔ z ∈ zs := List.mem_mergeSort
theorem srt_rise {zs : List Int} (h : zs.Nodup) : (srt zs).Pairwise (· < ·) := by
  have h1 : (srt zs).Pairwise (fun a b => decide (a ≤ b) = true) := List.pairwise_mergeSort (fun a b c hab hbc => by simp at *; omega) (fun a b => by simp; omega) zs
  have h2 : (srt zs).Nodup := (List.mergeSort_perm zs _).nodup_iff.2 h
  have := h1.and h2
  exact this.imp (fun {a b} hab => by
    obtain ⟨h3, h4⟩ := hab
    simp at h3
    omega)
theorem sort_heap (w : World) (n g : Nat) (d : Array Int) (os : Array Obj) {cur : Array Value} {e : TypeId} (hg : w.heap[g]? = some (.cells cur e (0, 0))) :
    (grow (putRow (Value.int .i64) (Sort.ahead w n) g 0 d) os).heap[g]? = some (.cells (putCells (Value.int .i64) 0 d cur) e (0, 0)) ∧ ∀ b, b < w.heap.size → b ≠ g → (grow (putRow (Value.int .i64) (Sort.ahead w n) g 0 d) os).heap[b]? = w.heap[b]? := by
  have hgl : g < w.heap.size := (Array.getElem?_eq_some_iff.1 hg).1
  have hs : (putRow (Value.int .i64) (Sort.ahead w n) g 0 d).heap.size = w.heap.size := by simp [putRow, mapBlock, Sort.ahead]
  have look : ∀ b, b < w.heap.size → (grow (putRow (Value.int .i64) (Sort.ahead w n) g 0 d) os).heap[b]? = (w.heap.modify g (onCells (putCells (Value.int .i64) 0 d)))[b]? := by
    intro b hb
    show ((putRow (Value.int .i64) (Sort.ahead w n) g 0 d).heap ++ os)[b]? = _
    rw [Array.getElem?_append_left (by rw [hs]; exact hb)]
    rfl
  refine ⟨?_, fun b hb hne => ?_⟩
  · rw [look g hgl, Array.getElem?_modify, if_pos rfl, hg]
    rfl
  · rw [look b hb, Array.getElem?_modify, if_neg (Ne.symm hne)]
theorem sort_any (v : Value) (zs : List Int) (w : World) (h : OL 1 3 w v zs.length (inC zs)) (hl : zs.length ≤ 1000000000) :
    Calls Try.prog 26 #[v] w fun e w' => e = .returned (.tuple #[]) ∧ OL 1 3 w' v zs.length (inC (srt zs)) ∧ Mv (fun b => v.ownBlock = some b) w w' := by
  rcases h with ⟨rfl, h0⟩ | ⟨g, cap, cur, rfl, hg, k1, k2, k3, k4⟩
  · refine (AnyM.slices_Sort_int_none Try.sortA none 0 w).mono ?_
    rintro e w' ⟨rfl, rfl⟩
    exact ⟨rfl, Or.inl ⟨rfl, h0⟩, Mv.refl _ _⟩
  · have hgl : g < w.heap.size := (Array.getElem?_eq_some_iff.1 hg).1
    have hH : Holds (Value.int .i64) w g 0 zs.toArray := by
      intro j hj
      have hj' : j < zs.length := by simpa using hj
      refine ⟨?_, frozen_of_row w g _ cur 3 hg⟩
      rw [cell_of_row w g _ cur 3 (0, 0) hg]
      have := k4 j hj' 0 (by omega)
      rw [Nat.mul_one, Nat.add_zero] at this
      rw [Nat.zero_add, this]
      simp [inC, hj']
    refine (AnyM.slices_Sort_int Try.sortA g 0 cap zs w hH hgl (by omega)).mono ?_
    rintro e w' ⟨rfl, n, os, rfl⟩
    obtain ⟨s1, s2⟩ := sort_heap w n g (srt zs).toArray os hg
    refine ⟨rfl, Or.inr ⟨g, cap, _, rfl, s1, k1, k2, by simp [putCells]; omega, fun i hi j hj => ?_⟩, ⟨rfl, rfl, rfl, ?_, fun b hb hn => s2 b hb (fun e => hn (by rw [e]; rfl))⟩⟩
    · obtain rfl : j = 0 := by omega
      have hi' : i < (srt zs).length := by rw [srt_len]; exact hi
      have hc : i < cur.size := by omega
      simp [putCells, inC, hi', hc]
    · show w.heap.size ≤ (_ ++ os).size
      simp [putRow, mapBlock, Sort.ahead]
end Euf
end Go.Proofs.Ytmnpefiaelpkfac
