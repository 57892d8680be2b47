/- Words for a slice of bytes made of a string and then appended to: what it holds, and the law of one append; no statement of the seat is proved here. -/
import Derived.Test.YteefniagebcagaaGreatDoorJoin8Tells
import Derived.ArgAppend
namespace Go.Proofs.YteefniagebcagaaGreatDoor
open Go.RowKit

/-- The slice value v is the call's own, told by its cells, and holds the numbers zs. -/
def OwnC (k : IntKind) (base : Nat) (w : World) (v : Value) (zs : List Nat) : Prop :=
  ∃ g cap, v = .slice (some ⟨g, 0, none⟩) zs.length cap ∧ base ≤ g ∧ g < w.heap.size ∧ zs.length ≤ cap ∧ cap ≤ maxLen ∧
    (∀ i, i < zs.length → w.cell? ⟨g, i, none⟩ = some (.int k (zs.getD i 0 : Nat))) ∧ (∀ j, j < cap → (w.cell? ⟨g, j, none⟩).isSome = true ∧ w.frozen? ⟨g, j, none⟩ = false)

section
variable {k : IntKind} {base : Nat} {w w' : World} {v : Value} {zs : List Nat}

theorem OwnC.stay (h : OwnC k base w v zs) (hb : ∀ b, v.ownBlock = some b → w'.heap[b]? = w.heap[b]?) (hsz : w.heap.size ≤ w'.heap.size) : OwnC k base w' v zs := by
  obtain ⟨g, cap, rfl, h1, h2, h3, h4, h5, h6⟩ := h
  have e := hb g rfl
  refine ⟨g, cap, rfl, h1, by omega, h3, h4, fun i hi => ?_, fun j hj => ?_⟩
  · rw [World.cell?_of_block (a := ⟨g, i, none⟩) e]; exact h5 i hi
  · rw [World.cell?_of_block (a := ⟨g, j, none⟩) e, World.frozen?_of_block (a := ⟨g, j, none⟩) e]; exact h6 j hj

theorem OwnC.lt (h : OwnC k base w v zs) : ∀ b, v.ownBlock = some b → base ≤ b ∧ b < w.heap.size := by
  obtain ⟨g, cap, rfl, h1, h2, _⟩ := h
  intro b hb
  cases hb
  exact ⟨h1, h2⟩

theorem OwnC.alloc (h : OwnC k base w v zs) (o : Obj) : OwnC k base (w.alloc o) v zs :=
  h.stay (fun b hb => Below.heap_alloc w o b (h.lt b hb).2) (by simp)

theorem OwnC.seg (h : OwnC k base w v zs) : ∃ g cap, v = .slice (some ⟨g, 0, none⟩) zs.length cap ∧ base ≤ g ∧ g < w.heap.size ∧ (∀ i, i < zs.length → w.cell? ⟨g, i, none⟩ = some (.int k (zs.getD i 0 : Nat))) := by
  obtain ⟨g, cap, rfl, h1, h2, h3, h4, h5, h6⟩ := h
  exact ⟨g, cap, rfl, h1, h2, h5⟩
end

theorem Own.toC {k : IntKind} {e : TypeId} {base : Nat} {w : World} {v : Value} {zs : List Nat} (h : Own k e base w v zs) (hp : 0 < zs.length) : OwnC k base w v zs := by
  rcases h.2 with ⟨rfl, hn⟩ | ⟨g, cap, cur, rfl, hbg, hg, h1, h2, h3, h4⟩
  · omega
  · refine ⟨g, cap, rfl, hbg, (Array.getElem?_eq_some_iff.1 hg).1, h1, h2, fun i hi => h.cell i hi, fun j hj => ?_⟩
    rw [cell_of_row w g j cur e (0, 0) hg, frozen_of_row w g j cur e hg]
    refine ⟨?_, rfl⟩
    rw [Array.getElem?_eq_getElem (by omega)]
    rfl

/-- 'append(out, x)', out told by its cells. -/
theorem wpList_append_c {P : Program} {W : World} {ops : Array Oper} {rest : List Oper} {o : Oper} {a : Act} {Q : Exit → Act → World → Prop} (hgd : o.guard = none) (s x : Operand) (t : TypeId)
    (ho : o.op = .call { callee := .builtin .append, args := #[s, x], argTypes := #[t, t] })
    (base : Nat) (e : TypeId) (k : IntKind) (bytes : Nat) (h1 : P.underlying t = some (.slice e)) (h2 : (P.info? e).map (fun i => (i.zero, i.size, i.bytes)) = some (some (.int k 0), 1, bytes)) (hby : bytes ≤ 64)
    (v : Value) (zs : List Nat) (hs : a.eval s = v) (hown : OwnC k base W v zs) (X : Int) (y : Nat) (hX : X = (y : Int)) (hx : a.eval x = .slice (some ⟨W.heap.size, 0, none⟩) 1 1)
    (hlen : zs.length ≤ 100000) (hbase : base ≤ W.heap.size)
    (h : ∀ v' w', OwnC k base w' v' (zs ++ [y]) → Below base W w' → wpList P ops Q rest (a.put o.dst v') w') :
    wpList P ops Q (o :: rest) a (W.alloc (.cells #[.int k X] e (0, 0))) := by
  subst hX
  obtain ⟨i, hi, hz0, hz1, hz2⟩ := info_parts h2
  have hb : (zs.length + 1) * bytes ≤ 100001 * 64 := Nat.mul_le_mul (by omega) hby
  have hownA := hown.alloc (.cells #[.int k (y : Int)] e (0, 0))
  obtain ⟨g, cap, rfl, k1, k2, k3, k4, k5, k6⟩ := hownA
  have kg : g < W.heap.size := (hown.lt g rfl).2
  refine wpList_append_arg _ hgd s x t ho e i (.int k 0) 1 bytes h1 hi hz0 hz1 hz2 rfl (by decide) g 0 zs.length cap (zs.map fun z => Value.int k ((z : Nat) : Int)) hs (by simp) ?_ ⟨W.heap.size, 0, none⟩ 1 1 [.int k (y : Int)] hx rfl ?_ ?_ ?_ ?_ ?_ ?_ ?_
  · intro j u hj
    have hjl : j < zs.length := by simpa using (List.getElem?_eq_some_iff.1 hj).1
    rw [Nat.zero_add, k5 j hjl]
    simp only [List.getElem?_map, List.getElem?_eq_getElem hjl, Option.map_some, Option.some.injEq] at hj
    rw [← hj, List.getD_eq_getElem?_getD, List.getElem?_eq_getElem hjl]
    rfl
  · intro j u hj
    match j, hj with
    | 0, hj => simp at hj; subst hj; simp [Addr.add]
  · intro u hu; simp at hu; subst hu; rfl
  · intro hle j hj
    simp at hj
    subst hj
    have := k6 zs.length (by omega)
    simpa using this
  · unfold maxLen; omega
  · omega
  · intro hle
    have hcell := k6 zs.length (by omega)
    have e0 : 0 + zs.length * 1 = zs.length := by omega
    rw [e0]
    refine h _ _ ?_ ?_
    · refine ⟨g, cap, by simp, k1, by simp [World.setCells]; omega, by simp; omega, k4, fun i hi => ?_, fun j hj => ?_⟩
      · simp only [List.length_append, List.length_singleton] at hi
        by_cases e1 : i = zs.length
        · subst e1
          simp only [World.setCells]
          rw [World.cell?_setCell_same' _ _ _ hcell.1]
          simp
        · simp only [World.setCells]
          rw [World.cell?_setCell_other _ (a := ⟨g, zs.length, none⟩) (b := ⟨g, i, none⟩) (v := .int k (y : Int)) (fun e2 => e1 (by injection e2 with _ e3; exact e3.symm)), k5 i (by omega)]
          simp only [List.getD_eq_getElem?_getD]
          rw [List.getElem?_append_left (by omega)]
      · simp only [World.setCells, World.frozen?_setCell]
        refine ⟨?_, (k6 j hj).2⟩
        by_cases e1 : j = zs.length
        · subst e1
          rw [World.cell?_setCell_same' _ _ _ hcell.1]; rfl
        · rw [World.cell?_setCell_other _ (a := ⟨g, zs.length, none⟩) (b := ⟨g, j, none⟩) (v := .int k (y : Int)) (fun e2 => e1 (by injection e2 with _ e3; exact e3.symm))]
          exact (k6 j hj).1
    · simp only [World.setCells]
      exact ((Below.refl _ _).alloc hbase _).setCell (p := ⟨g, zs.length, none⟩) k1 _
  · intro hlt v' w' hown' hgrow
    have hO : Own k e W.heap.size w' v' (zs ++ [y]) := by
      unfold Own
      have h3 : w'.ownsRow W.heap.size e 1 v' (zs.length + 1) (zs.map (fun z => Value.int k ((z : Nat) : Int)) ++ [.int k (y : Int)]) := by
        have h4 := hown'
        refine ⟨h4.1, ?_⟩
        rcases h4.2 with hn | ⟨g', cap', cur, e1, hbg, r⟩
        · exact Or.inl hn
        · exact Or.inr ⟨g', cap', cur, e1, by simp at hbg; omega, r⟩
      simpa using h3
    refine h v' w' ?_ ?_
    · have h5 := (hO.mono hbase).toC (by simp)
      exact h5
    · refine ⟨hgrow.os, hgrow.tape, hgrow.output, by have := hgrow.size; simp at this; omega, fun b hb1 => ?_⟩
      rw [hgrow.block b (by simp; omega) (by simp), Below.heap_alloc W _ b (by omega)]

theorem ownc_convert {P : Program} {e src : TypeId} {base : Nat} {w : World} {v : Value} {zs : List Nat} (h : OwnC .u8 base w v zs) (hz : ∀ z, z ∈ zs → z < 256) (hs : P.underlying src = some (.slice e)) (he : P.underlying e = some (.int .u8)) (dst : TypeId) (hd : P.underlying dst = some .string) :
    ∃ S, bs S = zs ∧ (convert src dst v).run P w = .ok (.string S) w := by
  obtain ⟨g, cap, rfl, h1, h2, h5⟩ := h.seg
  refine ⟨_, bs_nums zs hz, run_convert_bytes_arg (P := P) w src e hs he g 0 zs.length cap _ (by simp) (fun i hi => ?_) dst hd⟩
  rw [Nat.zero_add, h5 i hi]
  congr 2
  simp [List.getElem?_eq_getElem hi]

/-- '[]byte(s)'. -/
theorem ownc_of_string (w : World) (e : TypeId) (s : ByteArray) (cap : Nat) (h1 : s.size ≤ cap) (h2 : cap ≤ maxLen) (base : Nat) (hb : base ≤ w.heap.size) :
    OwnC .u8 base (w.drew.alloc (.cells (bytesRow s cap) e ((bytesRow s cap).size, (bytesRow s cap).size + 1))) (.slice (some ⟨w.heap.size, 0, none⟩) s.size cap) (bs s) := by
  have hg : (w.drew.alloc (.cells (bytesRow s cap) e ((bytesRow s cap).size, (bytesRow s cap).size + 1))).heap[w.heap.size]? = some (.cells (bytesRow s cap) e ((bytesRow s cap).size, (bytesRow s cap).size + 1)) := heap_alloc_new w.drew _
  have hsz : (bytesRow s cap).size = cap := by
    unfold bytesRow
    rw [Array.size_append, Array.size_map, Array.size_replicate]
    show s.size + (cap - s.size) = cap
    omega
  refine ⟨w.heap.size, cap, by rw [bs_length], hb, by simp, by rw [bs_length]; exact h1, h2, fun i hi => ?_, fun j hj => ?_⟩
  · rw [bs_length] at hi
    rw [cell_of_row _ _ i _ e _ hg]
    unfold bytesRow
    rw [Array.getElem?_append_left (by rw [Array.size_map]; exact hi)]
    rw [← bs_get s i hi, Array.getElem?_map, Array.getElem?_eq_getElem hi]
    rfl
  · rw [cell_of_row _ _ j _ e _ hg]
    refine ⟨by rw [Array.getElem?_eq_getElem (by omega)]; rfl, ?_⟩
    unfold World.frozen?
    rw [hg]
    simp
    omega
end Go.Proofs.YteefniagebcagaaGreatDoor
