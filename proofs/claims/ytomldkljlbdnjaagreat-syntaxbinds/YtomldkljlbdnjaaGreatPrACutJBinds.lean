/- The printer: its builder lies in it. What its methods of the builder do. No statement of the seat is proved here. -/
import Derived.Test.YtomldkljlbdnjaaGreatJoin8Binds
import Derived.Lib.Builder
import Derived.Lib.AppendStr
import Derived.Lib.UnsafeStr
namespace Go.Proofs.YtomldkljlbdnjaaGreat
open Go Go.RowKit
set_option linter.unusedVariables false
set_option linter.unusedSimpArgs false
namespace Prn
open Lex (bs tx bs_length bs_tx hide)

/-- A printer in block g, holding the bytes l and tb tabs; p is what its builder's first cell holds. -/
def PB (B g : Nat) (p : Value) (l : List UInt8) (tb : Nat) (w : World) : Prop :=
  B ≤ g ∧ ∃ v, w.heap[g]? = some (.cells #[p, v, .int .i64 (tb : Nat)] 98 (0, 0)) ∧ w.ownsRow B 5 1 v (Lib.byteCells l).length (Lib.byteCells l) ∧ v.ownBlock ≠ some g
/-- .. written to, or not yet. -/
def PS (B g : Nat) (l : List UInt8) (tb : Nat) (w : World) : Prop := PB B g (.pointer none) l tb w ∨ PB B g (.pointer (some ⟨g, 0, none⟩)) l tb w
/-- What is neither a printer nor bytes is as it was. -/
def Frm (w w' : World) : Prop := ∀ (k : Nat) (cur : Array Value) (e : TypeId) (z : Nat × Nat), w.heap[k]? = some (Obj.cells cur e z) → e ≠ 98 → e ≠ 5 → w'.heap[k]? = w.heap[k]?
theorem Frm.refl (w : World) : Frm w w := fun _ _ _ _ _ _ _ => rfl
theorem Frm.trans {a b c : World} (h : Frm a b) (k : Frm b c) : Frm a c := fun i cur e z h1 h2 h3 => by
  have h4 := h i cur e z h1 h2 h3
  rw [← h4]
  exact k i cur e z (h4.trans h1) h2 h3
theorem Frm.set {w : World} {b : Nat} {cs : Array Value} (hb : w.heap[b]? = some (.cells cs 98 (0, 0))) (i : Nat) (x : Value) : Frm w (w.setCell ⟨b, i, none⟩ x) := fun k cur e z h1 h2 h3 => by
  refine heap_setCell_other w _ k x ?_
  rintro rfl
  rw [hb] at h1
  injection h1 with h1
  injection h1 with h5 h6
  exact h2 h6.symm
theorem Frm.blk {ty : TypeId} {w w' : World} {b : Nat} {C : Array Value} (h : Frm w w') (k : Blk ty w b C) (h1 : ty ≠ 98) (h2 : ty ≠ 5) : Blk ty w' b C := (h b C ty (0, 0) k h1 h2).trans k
theorem PB.lt {B g : Nat} {p : Value} {l : List UInt8} {tb : Nat} {w : World} (h : PB B g p l tb w) : g < w.heap.size := by
  obtain ⟨_, v, hb, _⟩ := h
  exact (Array.getElem?_eq_some_iff.1 hb).1
theorem PB.used {B g : Nat} {p : Value} {l : List UInt8} {tb : Nat} {w : World} (h : PB B g p l tb w) (q : Value) : PB B g q l tb (w.setCell ⟨g, 0, none⟩ q) := by
  obtain ⟨hB, v, hb, hown, hne⟩ := h
  have hk : Blk 98 (w.setCell ⟨g, 0, none⟩ q) g #[q, v, .int .i64 (tb : Nat)] := Blk.set (cs := #[p, v, .int .i64 (tb : Nat)]) hb 0 q
  refine ⟨hB, v, hk, ?_, hne⟩
  exact hown.kept (row := some g) ⟨rfl, rfl, rfl, by simp [World.setCell], fun k _ hk => Below.heap_setCell _ _ _ _ (fun e => hk (by simp [e]))⟩ (Or.inr hne)
theorem PB.tabs {B g : Nat} {p : Value} {l : List UInt8} {tb : Nat} {w : World} (h : PB B g p l tb w) (t : Nat) : PB B g p l t (w.setCell ⟨g, 2, none⟩ (.int .i64 (t : Nat))) := by
  obtain ⟨hB, v, hb, hown, hne⟩ := h
  have hk : Blk 98 (w.setCell ⟨g, 2, none⟩ (.int .i64 (t : Nat))) g #[p, v, .int .i64 (t : Nat)] := Blk.set (cs := #[p, v, .int .i64 (tb : Nat)]) hb 2 _
  refine ⟨hB, v, hk, ?_, hne⟩
  exact hown.kept (row := some g) ⟨rfl, rfl, rfl, by simp [World.setCell], fun k _ hk => Below.heap_setCell _ _ _ _ (fun e => hk (by simp [e]))⟩ (Or.inr hne)
theorem PB.put {B g : Nat} {p v v' : Value} {l' : List UInt8} {tb : Nat} {w : World} (hB : B ≤ g) (hb : w.heap[g]? = some (.cells #[p, v, .int .i64 (tb : Nat)] 98 (0, 0))) (hown : w.ownsRow B 5 1 v' (Lib.byteCells l').length (Lib.byteCells l')) : PB B g p l' tb (w.setCell ⟨g, 1, none⟩ v') := by
  have hne := Lib.ownBlock_ne hown hb (by decide)
  have hk : Blk 98 (w.setCell ⟨g, 1, none⟩ v') g #[p, v', .int .i64 (tb : Nat)] := Blk.set (cs := #[p, v, .int .i64 (tb : Nat)]) hb 1 v'
  exact ⟨hB, v', hk, hown.kept (row := some g) ⟨rfl, rfl, rfl, by simp [World.setCell], fun k _ hk => Below.heap_setCell _ _ _ _ (fun e => hk (by simp [e]))⟩ (Or.inr hne), hne⟩
theorem PS.tabs {B g : Nat} {l : List UInt8} {tb : Nat} {w : World} (h : PS B g l tb w) (t : Nat) : PS B g l t (w.setCell ⟨g, 2, none⟩ (.int .i64 (t : Nat))) := h.imp (·.tabs t) (·.tabs t)
theorem PS.blk {B g : Nat} {l : List UInt8} {tb : Nat} {w : World} (h : PS B g l tb w) : ∃ p v, Blk 98 w g #[p, v, .int .i64 (tb : Nat)] := by
  rcases h with ⟨_, v, hb, _⟩ | ⟨_, v, hb, _⟩
  · exact ⟨_, v, hb⟩
  · exact ⟨_, v, hb⟩
theorem PS.le {B g : Nat} {l : List UInt8} {tb : Nat} {w : World} (h : PS B g l tb w) : B ≤ g := by
  rcases h with h | h
  · exact h.1
  · exact h.1
theorem PS.lt {B g : Nat} {l : List UInt8} {tb : Nat} {w : World} (h : PS B g l tb w) : g < w.heap.size := by
  rcases h with h | h
  · exact h.lt
  · exact h.lt
theorem sizeB : (Tryz.prog.info? 96).map (·.size) = some 2 := by kernel_rfl
theorem liesP : liesAt Tryz.prog Tryz.prog.depth 98 (3 / Tryz.prog.cellsOf 98) 0 96 1 = true := by kernel_rfl
set_option maxHeartbeats 1000000 in
set_option maxRecDepth 100000 in
theorem copyCheck_p (B g : Nat) (l : List UInt8) (tb : Nat) (w : World) (h : PS B g l tb w) :
    Calls Tryz.prog 124 #[.pointer (some ⟨g, 0, none⟩)] w fun e w' => e = .returned (.tuple #[]) ∧ PB B g (.pointer (some ⟨g, 0, none⟩)) l tb w' ∧ Below B w w' ∧ Frm w w' := by
  obtain ⟨j, hj, hjs⟩ := Option.map_eq_some_iff.1 sizeB
  rcases h with h | h
  · have hb : ∃ v, w.heap[g]? = some (.cells #[.pointer none, v, .int .i64 (tb : Nat)] 98 (0, 0)) := by obtain ⟨_, v, hb, _⟩ := h; exact ⟨v, hb⟩
    obtain ⟨v, hb⟩ := hb
    have hsh : w.shape? g = some (98, 3) := by simp [World.shape?, hb]
    have c0 : w.cell? ⟨g, 0, none⟩ = some (.pointer none) := cell_of_row w g 0 _ _ (0, 0) hb
    have f0 : w.frozen? ⟨g, 0, none⟩ = false := by simp [World.frozen?, hb]
    have hto := Lib.run_to_unsafe (P := Tryz.prog) w (src := 93) (dst := 177) ⟨g, 0, none⟩ Tryz.underlying93 Tryz.underlying177 hj (by rw [hjs]; decide) hsh (Nat.zero_lt_succ 2)
    have hfr := Lib.run_from_unsafe (P := Tryz.prog) w (src := 177) (dst := 93) ⟨g, 0, none⟩ Tryz.underlying177 Tryz.underlying93 hj hsh liesP
    have hex : (callFunc 149 #[.pointer (some ⟨g, 0, none⟩)]).run Tryz.prog w = .ok (.value (.pointer (some ⟨g, 0, none⟩))) w := by
      rw [run_callFunc_extern Tryz.func149 (by kernel_rfl) (by kernel_rfl) (by kernel_rfl) (e := Extern.AbiNoEscape.same) (by kernel_rfl), Lib.run_noEscape]
      rfl
    have HE := hide h
    have HB := hide hb
    clear h hb
    go_enter Tryz.func124, Tryz.ntmps124
    go_wp2
    first | (refine bodyPost_ret (results_none rfl _ _ _) rfl ?_) | (refine bodyPost_end (results_none rfl _ _ _) rfl ?_)
    exact ⟨rfl, HE.out.used _, (Below.refl _ _).setCell (p := ⟨g, 0, none⟩) HE.out.1 _, Frm.set HB.out 0 _⟩
  · have c0 : w.cell? ⟨g, 0, none⟩ = some (.pointer (some ⟨g, 0, none⟩)) := by obtain ⟨_, v, hb, _⟩ := h; exact cell_of_row w g 0 _ _ (0, 0) hb
    have hnq := Lib.run_neq_ptr_same (P := Tryz.prog) w ⟨g, 0, none⟩ Tryz.underlying93 hj
    have HE := hide h
    clear h
    go_enter Tryz.func124, Tryz.ntmps124
    go_wp2
    go_returns
    exact ⟨rfl, HE.out, Below.refl _ _, Frm.refl _⟩
/-- Bytes lie in no block of another type. -/
theorem row_ne {w : World} {B : Nat} {v : Value} {n : Nat} {xs : List Value} (h : w.ownsRow B 5 1 v n xs) {k : Nat} {cur : Array Value} {e : TypeId} {z : Nat × Nat} (h1 : w.heap[k]? = some (.cells cur e z)) (h3 : e ≠ 5) : ¬ some k = v.ownBlock := by
  intro q
  rcases h.2 with ⟨hv, _⟩ | ⟨g, cap, cur', hv, _, hg, _⟩
  · rw [hv] at q; cases q
  · rw [hv] at q
    have q' : g = k := by simpa [Value.ownBlock] using q.symm
    subst q'
    rw [hg] at h1
    injection h1 with h1
    injection h1 with h5 h6
    exact h3 h6.symm
theorem iByteL : (Tryz.prog.info? 5).map (fun i => (i.zero, i.size, i.bytes)) = some (some (.int .u8 0), 1, 1) := by kernel_rfl
theorem byteCells_app (l r : List UInt8) : Lib.byteCells (l ++ r) = Lib.byteCells l ++ Lib.byteCells r := by simp [Lib.byteCells]
set_option maxHeartbeats 1000000 in
set_option maxRecDepth 100000 in
theorem writeByte_p (B b : Nat) (l : List UInt8) (tb : Nat) (c : UInt8) (w : World) (h : PS B b l tb w) (hl : l.length ≤ 1000000000) (hB : B ≤ w.heap.size) :
    Calls Tryz.prog 75 #[.pointer (some ⟨b, 0, none⟩), .int .u8 (c.toNat : Int)] w fun e w' => e = .returned .nilIface ∧ PS B b (l ++ [c]) tb w' ∧ Below B w w' ∧ Frm w w' := by
  go_enter Tryz.func75, Tryz.ntmps75
  go_wp2_with fail
  refine (copyCheck_p B b l tb w h).mono ?_
  rintro e w1 ⟨rfl, h1, hb1, hf1⟩
  have hlt := h1.lt
  obtain ⟨hBb, v, hbk, hown, hne⟩ := h1
  have c0 : w1.cell? ⟨b, 0, none⟩ = some (.pointer (some ⟨b, 0, none⟩)) := cell_of_row w1 b 0 _ _ (0, 0) hbk
  have c1 : w1.cell? ⟨b, 1, none⟩ = some v := cell_of_row w1 b 1 _ _ (0, 0) hbk
  have hsz := hb1.size
  have hlc : (Lib.byteCells l).length = l.length := Lib.byteCells_length l
  obtain ⟨i0, hi, hz0, hz1, hz2⟩ := info_parts iByteL
  go_wp2_with (at_builtin; refine wpList_append_own _ rfl _ _ 94 rfl B 5 i0 (.int .u8 0) 1 1 Tryz.underlying94 hi hz0 hz1 hz2 rfl (by decide) v _ _ rfl (hown.alloc _) ⟨w1.heap.size, 0, none⟩ 1 1 [.int .u8 (c.toNat : Int)] rfl rfl ?_ (by intro u hu; simp at hu; subst hu; rfl) (by unfold maxLen; omega) (by omega) (by simp; omega) ?_)
  · intro j u hj
    match j, hj with
    | 0, hj => simp at hj; subst hj; simp [Addr.add]
  intro v' w2 hown' hgrow hn0
  have hb2 : Blk 98 w2 b #[.pointer (some ⟨b, 0, none⟩), v, .int .i64 (tb : Nat)] :=
    (hgrow.block b (by simp; omega) (fun e => hne e.symm)).trans ((Below.heap_alloc w1 _ b hlt).trans hbk)
  obtain ⟨d0, d1, d2, f0, f1, f2⟩ := Syn.bk3 hb2
  obtain ⟨ao, n', cap, rfl⟩ : ∃ ao n' cap, v' = .slice ao n' cap := by
    rcases hown'.2 with ⟨hv, _⟩ | ⟨g, cap, cur, hv, _⟩
    · exact ⟨_, _, _, hv⟩
    · exact ⟨_, _, _, hv⟩
  have HB := hide (((hb1.alloc (by omega) (.cells #[.int .u8 (c.toNat : Int)] 5 (0, 0))).grown hgrow (by simp; omega) (fun k hk => (hown.lt k hk).1)).setCell (p := ⟨b, 1, none⟩) hBb (.slice ao n' cap))
  have HP : Hid (PS B b (l ++ [c]) tb (w2.setCell ⟨b, 1, none⟩ (.slice ao n' cap))) :=
    Or.inr (PB.put hBb hb2 (l' := l ++ [c]) (by rw [byteCells_app]; simpa [Lib.byteCells] using hown'))
  have HF : Hid (Frm w (w2.setCell ⟨b, 1, none⟩ (.slice ao n' cap))) := by
    refine (hf1.trans ?_).trans (Frm.set hb2 1 _)
    intro k cur e z k1 k2 k3
    have hk : k < w1.heap.size := (Array.getElem?_eq_some_iff.1 k1).1
    rw [hgrow.block k (by simp; omega) (fun q => row_ne hown k1 k3 q), Below.heap_alloc w1 _ k hk]
  clear hown' hgrow hown
  go_wp2
  go_ret
  exact ⟨rfl, HP.out, HB.out, HF.out⟩
set_option maxHeartbeats 1000000 in
set_option maxRecDepth 100000 in
theorem writeString_p (B b : Nat) (l : List UInt8) (tb : Nat) (s : ByteArray) (w : World) (h : PS B b l tb w) (hl : l.length + s.size ≤ 1000000000) (hB : B ≤ w.heap.size) :
    Calls Tryz.prog 73 #[.pointer (some ⟨b, 0, none⟩), .string s] w fun e w' => e = .returned (.tuple #[.int .i64 (s.size : Int), .nilIface]) ∧ PS B b (l ++ bs s) tb w' ∧ Below B w w' ∧ Frm w w' := by
  go_enter Tryz.func73, Tryz.ntmps73
  go_wp2_with fail
  refine (copyCheck_p B b l tb w h).mono ?_
  rintro e w1 ⟨rfl, h1, hb1, hf1⟩
  have hlt := h1.lt
  obtain ⟨hBb, v, hbk, hown, hne⟩ := h1
  have c0 : w1.cell? ⟨b, 0, none⟩ = some (.pointer (some ⟨b, 0, none⟩)) := cell_of_row w1 b 0 _ _ (0, 0) hbk
  have c1 : w1.cell? ⟨b, 1, none⟩ = some v := cell_of_row w1 b 1 _ _ (0, 0) hbk
  have hsz := hb1.size
  have hlc : (Lib.byteCells l).length = l.length := Lib.byteCells_length l
  obtain ⟨i0, hi, hz0, hz1, hz2⟩ := info_parts iByteL
  go_wp2_with (at_builtin; refine Lib.wpList_append_own_string _ rfl _ _ 94 9 rfl B 5 i0 Tryz.underlying94 Tryz.underlying9 hi hz0 hz1 hz2 v _ _ rfl hown s rfl (by unfold maxLen; omega) (by omega) (by omega) ?_)
  intro v' w2 hown' hgrow hn0
  have hb2 : Blk 98 w2 b #[.pointer (some ⟨b, 0, none⟩), v, .int .i64 (tb : Nat)] := (hgrow.block b hlt (fun e => hne e.symm)).trans hbk
  obtain ⟨d0, d1, d2, f0, f1, f2⟩ := Syn.bk3 hb2
  obtain ⟨ao, n', cap, rfl⟩ : ∃ ao n' cap, v' = .slice ao n' cap := by
    rcases hown'.2 with ⟨hv, _⟩ | ⟨g, cap, cur, hv, _⟩
    · exact ⟨_, _, _, hv⟩
    · exact ⟨_, _, _, hv⟩
  have HB := hide ((hb1.grown hgrow (by omega) (fun k hk => (hown.lt k hk).1)).setCell (p := ⟨b, 1, none⟩) hBb (.slice ao n' cap))
  have HP : Hid (PS B b (l ++ bs s) tb (w2.setCell ⟨b, 1, none⟩ (.slice ao n' cap))) := by
    have hc : Lib.strCells s = Lib.byteCells (bs s) := rfl
    have hn9 : (Lib.byteCells (l ++ bs s)).length = (Lib.byteCells l).length + s.size := by rw [byteCells_app, List.length_append, Lib.byteCells_length (bs s), bs_length]
    refine Or.inr (PB.put hBb hb2 (l' := l ++ bs s) ?_)
    rw [hn9, hlc, byteCells_app]; exact hown'
  have HF : Hid (Frm w (w2.setCell ⟨b, 1, none⟩ (.slice ao n' cap))) := by
    refine (hf1.trans ?_).trans (Frm.set hb2 1 _)
    intro k cur e z k1 k2 k3
    have hk : k < w1.heap.size := (Array.getElem?_eq_some_iff.1 k1).1
    rw [hgrow.block k hk (fun q => row_ne hown k1 k3 q)]
  clear hown' hgrow hown
  go_wp2
  go_ret2
  exact ⟨rfl, HP.out, HB.out, HF.out⟩
set_option maxHeartbeats 1000000 in
set_option maxRecDepth 100000 in
theorem string_p (B b : Nat) (l : List UInt8) (tb : Nat) (w : World) (h : PS B b l tb w) (h0 : l ≠ []) (hB : B ≤ w.heap.size) :
    Calls Tryz.prog 41 #[.pointer (some ⟨b, 0, none⟩)] w fun e w' => e = .returned (.string (tx l)) ∧ Below B w w' := by
  obtain ⟨p, hAt⟩ : ∃ p, PB B b p l tb w := by
    rcases h with h | h
    · exact ⟨_, h⟩
    · exact ⟨_, h⟩
  obtain ⟨hBb, v, hbk, hown, hne⟩ := hAt
  have hl0 : l.length ≠ 0 := by simpa using h0
  rw [Lib.byteCells_length] at hown
  obtain ⟨g, cap, cur, rfl, hbg, hg, hnc, hcm, hcs, htake⟩ : ∃ g cap cur, v = .slice (some ⟨g, 0, none⟩) l.length cap ∧ B ≤ g ∧ w.heap[g]? = some (.cells cur 5 (0, 0)) ∧ l.length ≤ cap ∧ cap ≤ maxLen ∧ cur.size = cap * 1 ∧ cur.toList.take (l.length * 1) = Lib.byteCells l := by
    rcases hown.2 with ⟨_, hz⟩ | ⟨g, cap, cur, hv, r⟩
    · exact absurd hz hl0
    · exact ⟨g, cap, cur, hv, r⟩
  have c1 : w.drew.cell? ⟨b, 1, none⟩ = some (.slice (some ⟨g, 0, none⟩) l.length cap) := by
    have : w.drew.heap[b]? = some (.cells #[p, .slice (some ⟨g, 0, none⟩) l.length cap, .int .i64 (tb : Nat)] 98 (0, 0)) := hbk
    rw [Lib.cell_of_heap this]; rfl
  have hSD : (Builtin.unsafeSliceData_ #[94] 132 #[.slice (some ⟨g, 0, none⟩) l.length cap]).run Tryz.prog w.drew = .ok (.pointer (some ⟨g, 0, none⟩)) w.drew :=
    Lib.run_unsafeSliceData_row _ _ _ _ _ _ (by omega)
  have hUS : (Builtin.unsafeString_ #[132, 3] 9 #[.pointer (some ⟨g, 0, none⟩), .int .i64 l.length]).run Tryz.prog w.drew = .ok (.string (tx l)) (w.drew.freeze ⟨g, 0, none⟩ l.length) := by
    refine Lib.run_unsafeString_row w.drew 132 3 9 5 Tryz.underlying132 (by kernel_rfl) g cur.size (by have hg' : w.drew.heap[g]? = some (.cells cur 5 (0, 0)) := hg; simp [World.shape?, hg']) l h0 (by omega) (by unfold maxLen at hcm; omega) ?_
    intro j x hx
    exact hown.cells (g := g) rfl j (.int .u8 x.toNat) (by simp [Lib.byteCells, hx])
  have mixed : Tryz.prog.follows Departure.mixedOrders = true := by kernel_rfl
  go_enter Tryz.func41, Tryz.ntmps41
  go_wp2
  go_region_o
  all_goals (go_wp2; go_ret; exact ⟨rfl, Lib.below_freeze (Below.drew (Below.refl B w)) (p := ⟨g, 0, none⟩) hbg _⟩)
end Prn
end Go.Proofs.YtomldkljlbdnjaaGreat
