/- A list of texts that was handed in: what it holds, and that it reads as it did while its memory stays; no statement of the seat is proved here. -/
import Derived.Test.YteefniagebcagaaGreatDoorJoin19Values
import Derived.Deep.Strs
import Derived.ProofKit
import Derived.OpenShut
namespace Go.Proofs.YteefniagebcagaaGreatDoor
open Go.ChangeShapes Go.WideShapes Go.ChangeAt Go.RowKit Go.Deep

theorem strs_again {H : Type} {enc : TypeId × Value → H} {P : Program} {W : World} {t e : TypeId} (ht : P.underlying t = some (.slice e)) (he : P.underlying e = some .string) (hc : P.cellsOf e = 1) {a0 : Option Addr} {len cap : Nat} {d : DataW H} {p : List MemPlace}
    (h : DataW.Trod enc P W 0 (fun _ => true) true t (.slice a0 len cap) d p) :
    ∃ Sx, len ≤ maxLen ∧ Strs W a0 len Sx ∧ ∀ W', Below W.heap.size W W' → ∃ pa, DataW.Trod enc P W' 0 (fun b => decide (b < W.heap.size)) true t (.slice a0 len cap) d pa := by
  obtain ⟨fuel, hf⟩ := h
  rcases open_strs ht he hc hf with ⟨hcs, hx⟩ | ⟨a, len', cap', m, Sx, hcs, _, hl, hm, hmm, hx, hcell⟩
  · simp [Value.cells] at hcs
    obtain ⟨rfl, rfl, rfl⟩ := hcs
    simp only [Prod.mk.injEq] at hx
    obtain ⟨rfl, rfl⟩ := hx
    exact ⟨fun _ => ByteArray.empty, Nat.zero_le _, Or.inl rfl, fun W' _ => ⟨_, shut_slice_nil ht⟩⟩
  simp [Value.cells] at hcs
  obtain ⟨rfl, rfl, rfl⟩ := hcs
  simp only [Prod.mk.injEq] at hx
  obtain ⟨rfl, rfl⟩ := hx
  simp only [if_true] at hmm
  have hmm' : cap = m := hmm.symm
  subst hmm'
  obtain ⟨b, off, spot⟩ := a
  by_cases hc0 : cap = 0
  · subst hc0
    have hlen0 : len = 0 := by omega
    subst hlen0
    refine ⟨Sx, Nat.zero_le _, Or.inl rfl, fun W' _ => ?_⟩
    by_cases hsp : b < W.heap.size
    · obtain ⟨n2, k⟩ := shut_slice_whole_cells (enc := enc) (w := W') (base := 0) (spare := fun b => decide (b < W.heap.size)) (held := true) (a := ⟨b, off, spot⟩) (len := 0) (cap := 0) ht (Nat.zero_le _) (Nat.le_refl _) (Nat.zero_le _) (decide_eq_true hsp) (fun _ => .nil) (fun _ => []) (fun i hi => absurd hi (Nat.not_lt_zero _))
      exact ⟨_, n2, by simpa [Value.cells] using k⟩
    · obtain ⟨n2, k⟩ := shut_slice_cells (enc := enc) (w := W') (base := 0) (spare := fun b => decide (b < W.heap.size)) (held := true) (a := ⟨b, off, spot⟩) (len := 0) (cap := 0) ht (Nat.zero_le _) (Nat.le_refl _) (Nat.zero_le _) (decide_eq_false hsp) (fun _ => .nil) (fun _ => []) (fun i hi => absurd hi (Nat.not_lt_zero _))
      exact ⟨_, n2, by simpa [Value.cells] using k⟩
  have hspot : spot = none := by simpa [Addr.add] using World.cell?_spot (hcell 0 (by omega)).1
  subst hspot
  have hcell' : ∀ j, j < cap → W.cell? ⟨b, off + j, none⟩ = some (.string (Sx j)) := fun j hj => by rw [← add_plain]; exact (hcell j hj).1
  have hlt : b < W.heap.size := World.block_lt_of_cell? W ⟨b, off + 0, none⟩ (hcell' 0 (by omega))
  refine ⟨Sx, Nat.le_trans hl hm, Or.inr ⟨b, off, rfl, fun i hi => ⟨hcell' i (by omega), (hcell i (by omega)).2⟩⟩, fun W' bel => ?_⟩
  obtain ⟨n2, k⟩ := shut_strs_whole (enc := enc) (w := W') (base := 0) (spare := fun b => decide (b < W.heap.size)) (held := true) ht he hc (b := b) (off := off) (len := len) (cap := cap) (Nat.zero_le _) hl hm (decide_eq_true hlt) Sx
    (fun i hi => (bel.cell (p := ⟨b, off + i, none⟩) hlt).trans (hcell' i hi)) (fun i hi => (hcell i hi).2)
  exact ⟨_, n2, k⟩
end Go.Proofs.YteefniagebcagaaGreatDoor
